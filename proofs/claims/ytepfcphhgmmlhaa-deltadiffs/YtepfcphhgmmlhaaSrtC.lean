/-
  sort.order2_func, median_func, medianAdjacent_func, choosePivot_func: they write nothing but the count of swaps.
-/
import Derived.Test.YtepfcphhgmmlhaaSrtA
namespace Go.Proofs.Ytepfcphhgmmlhaa
open Go.RowKit
open Go.Sort (swp)
set_option linter.unusedVariables false
set_option linter.unusedSimpArgs false
/-- The count of swaps lies in block c. -/
def Cnt (w : World) (c : Nat) : Prop := ∃ s : Int, Box w c (.int .i64 s)
set_option maxHeartbeats 2000000 in
set_option maxRecDepth 100000 in
theorem order2_calls {g sf : Nat} {lb sb : Array Value} {lt : RT → RT → Bool} {n : Nat} {S : Nat → Prop} {N0 : Nat} {Q : ARow → World → Prop} (K : Sorter g sf lb sb lt n S N0 Q) (a b c : Nat) (d : ARow) (w : World)
    (hq : Q d w) (ha : a < n) (hb : b < n) (hsz : n ≤ 1000) (hc : Cnt w c) (hcN : N0 ≤ c) :
    Calls Try.prog 130 #[lsV g sf lb sb, .int .i64 a, .int .i64 b, .pointer (some ⟨c, 0, none⟩)] w fun e w' => ∃ x y : Nat, e = .returned (.tuple #[.int .i64 x, .int .i64 y]) ∧ (x = a ∨ x = b) ∧ (y = a ∨ y = b) ∧ Q d w' ∧ But (fun k => k = c) w w' ∧ Cnt w' c := by
  obtain ⟨s, hs⟩ := hc
  have hN := (K.size _ _ hq).2
  have T0 := K.start hq 128
  have B0 := hs.keep ((Below.refl _ w).alloc (Nat.le_refl _) (.cells #[.func (.func g) #[] lb, .func (.func sf) #[] sb] 128)) hs.2.2
  have hl := (K.less _ _ b a T0.q hb ha)
  have KE := Lib.hid K.keep
  have eg := K.eg
  have c0 := T0.c0
  have T0' := Lib.hid T0
  have bA := (Below.refl w.heap.size w).alloc (Nat.le_refl _) (.cells #[.func (.func g) #[] lb, .func (.func sf) #[] sb] 128)
  clear K T0
  cases hv : lt d[b]! d[a]! with
  | true =>
    rw [hv] at hl
    go_enter Try.func130, Try.ntmps130
    go_wp2_with (go_at_fn g; refine hl.mono ?_; rintro e w1 ⟨rfl, hb1⟩; have B1 := B0.keep hb1 B0.2.2; have z0 := B1.1; have z1 := B1.2.1 0)
    go_ret2
    exact ⟨b, a, rfl, .inr rfl, .inl rfl, KE.out _ _ _ T0'.out.q ((But.of_below hb1).setCell (fun _ => hcN) _), (But.of_below (S := fun k => k = c) (thenBelow bA hb1)).setCell (p := ⟨c, 0, none⟩) (fun _ => rfl) _, _, B1.store _⟩
  | false =>
    rw [hv] at hl
    go_enter Try.func130, Try.ntmps130
    go_wp2_with (go_at_fn g; refine hl.mono ?_; rintro e w1 ⟨rfl, hb1⟩; have B1 := B0.keep hb1 B0.2.2)
    go_ret2
    exact ⟨a, b, rfl, .inl rfl, .inr rfl, KE.out _ _ _ T0'.out.q (But.of_below hb1), But.of_below (thenBelow bA hb1), s, B1⟩
/-- What the median's callers keep: the two functions' cells, the count. -/
structure MedW (g sf : Nat) (lb sb : Array Value) (Q : ARow → World → Prop) (w : World) (b c : Nat) (d : ARow) (W : World) : Prop where
  q : Q d W
  but : But (fun k => k = c) w W
  lt : b < W.heap.size
  ne : b ≠ c
  c0 : W.cell? ⟨b, 0, none⟩ = some (.func (.func g) #[] lb)
  c1 : W.cell? ⟨b, 1, none⟩ = some (.func (.func sf) #[] sb)
  cnt : Cnt W c
theorem MedW.after {g sf : Nat} {lb sb : Array Value} {Q : ARow → World → Prop} {w W W' : World} {b c : Nat} {d : ARow} (h : MedW g sf lb sb Q w b c d W) (q : Q d W') (t : But (fun k => k = c) W W') (z : Cnt W' c) : MedW g sf lb sb Q w b c d W' :=
  ⟨q, h.but.trans t (fun _ _ h => h), Nat.lt_of_lt_of_le h.lt t.size, h.ne, t.cellAt h.lt h.ne 0 h.c0, t.cellAt h.lt h.ne 1 h.c1, z⟩
theorem Cnt.keep {w w' : World} {c : Nat} (h : Cnt w c) (hb : Below w.heap.size w w') : Cnt w' c := by obtain ⟨s, B⟩ := h; exact ⟨s, B.keep hb B.2.2⟩
theorem Cnt.lt {w : World} {c : Nat} (h : Cnt w c) : c < w.heap.size := by obtain ⟨s, B⟩ := h; exact B.2.2
set_option maxHeartbeats 2000000 in
set_option maxRecDepth 100000 in
theorem median_calls {g sf : Nat} {lb sb : Array Value} {lt : RT → RT → Bool} {n : Nat} {S : Nat → Prop} {N0 : Nat} {Q : ARow → World → Prop} (K : Sorter g sf lb sb lt n S N0 Q) (x y z c : Nat) (d : ARow) (w : World)
    (hq : Q d w) (hx : x < n) (hy : y < n) (hz : z < n) (hsz : n ≤ 1000) (hc : Cnt w c) (hcN : N0 ≤ c) :
    Calls Try.prog 125 #[lsV g sf lb sb, .int .i64 x, .int .i64 y, .int .i64 z, .pointer (some ⟨c, 0, none⟩)] w fun e w' => ∃ r : Nat, e = .returned (.int .i64 r) ∧ (r = x ∨ r = y ∨ r = z) ∧ Q d w' ∧ But (fun k => k = c) w w' ∧ Cnt w' c := by
  have hcl := hc.lt
  have T0 := K.start hq 128
  have b0 := (Below.refl w.heap.size w).alloc (Nat.le_refl _) (.cells #[.func (.func g) #[] lb, .func (.func sf) #[] sb] 128)
  have M0 : MedW g sf lb sb Q w w.heap.size c d (w.alloc (.cells #[.func (.func g) #[] lb, .func (.func sf) #[] sb] 128)) := ⟨T0.q, But.of_below b0, T0.lt, by omega, T0.c0, T0.c1, hc.keep b0⟩
  have O2 := Lib.hid (fun (a b : Nat) (W : World) (M : MedW g sf lb sb Q w w.heap.size c d W) (ha : a < n) (hb : b < n) => order2_calls K a b c d W M.q ha hb hsz M.cnt hcN)
  have z0 := M0.c0
  have z1 := M0.c1
  have M0' := Lib.hid M0
  clear K T0 b0 M0 hq hc
  go_enter Try.func125, Try.ntmps125
  go_wp2_with fail
  refine (O2.out x y _ M0'.out hx hy).mono ?_
  rintro e w1 ⟨x1, y1, rfl, hx1, hy1, q1, b1, k1⟩
  have M1 := M0'.out.after q1 b1 k1
  have z0 := M1.c0
  have z1 := M1.c1
  have M1' := Lib.hid M1
  clear M0' M1 q1 b1 k1
  go_wp2_with fail
  refine (O2.out y1 z _ M1'.out (by omega) hz).mono ?_
  rintro e w2 ⟨x2, y2, rfl, hx2, hy2, q1, b1, k1⟩
  have M2 := M1'.out.after q1 b1 k1
  have z0 := M2.c0
  have z1 := M2.c1
  have M2' := Lib.hid M2
  clear M1' M2 q1 b1 k1
  go_wp2_with fail
  refine (O2.out x1 x2 _ M2'.out (by omega) (by omega)).mono ?_
  rintro e w3 ⟨x3, y3, rfl, hx3, hy3, q1, b1, k1⟩
  have M3 := M2'.out.after q1 b1 k1
  clear M2'
  go_wp2
  go_ret
  exact ⟨y3, rfl, by omega, M3.q, M3.but, M3.cnt⟩
set_option maxHeartbeats 2000000 in
set_option maxRecDepth 100000 in
theorem medAdj_calls {g sf : Nat} {lb sb : Array Value} {lt : RT → RT → Bool} {n : Nat} {S : Nat → Prop} {N0 : Nat} {Q : ARow → World → Prop} (K : Sorter g sf lb sb lt n S N0 Q) (x c : Nat) (d : ARow) (w : World)
    (hq : Q d w) (hx1 : 1 ≤ x) (hx : x + 1 < n) (hsz : n ≤ 1000) (hc : Cnt w c) (hcN : N0 ≤ c) :
    Calls Try.prog 124 #[lsV g sf lb sb, .int .i64 x, .pointer (some ⟨c, 0, none⟩)] w fun e w' => ∃ r : Nat, e = .returned (.int .i64 r) ∧ x ≤ r + 1 ∧ r ≤ x + 1 ∧ Q d w' ∧ But (fun k => k = c) w w' ∧ Cnt w' c := by
  have hcl := hc.lt
  have T0 := K.start hq 128
  have b0 := (Below.refl w.heap.size w).alloc (Nat.le_refl _) (.cells #[.func (.func g) #[] lb, .func (.func sf) #[] sb] 128)
  have M0 : MedW g sf lb sb Q w w.heap.size c d (w.alloc (.cells #[.func (.func g) #[] lb, .func (.func sf) #[] sb] 128)) := ⟨T0.q, But.of_below b0, T0.lt, by omega, T0.c0, T0.c1, hc.keep b0⟩
  have MD := median_calls K (x - 1) x (x + 1) c d _ M0.q (by omega) (by omega) hx hsz M0.cnt hcN
  rw [show ((x - 1 : Nat) : Int) = (x : Int) - 1 by omega, show ((x + 1 : Nat) : Int) = (x : Int) + 1 by omega] at MD
  have z0 := M0.c0
  have z1 := M0.c1
  have M0' := Lib.hid M0
  clear K T0 b0 M0 hq hc
  go_enter Try.func124, Try.ntmps124
  go_wp2_with fail
  refine MD.mono ?_
  rintro e w1 ⟨r, rfl, hr, q1, b1, k1⟩
  have M1 := M0'.out.after q1 b1 k1
  clear M0'
  go_wp2
  go_ret
  exact ⟨r, rfl, by omega, by omega, M1.q, M1.but, M1.cnt⟩
set_option maxHeartbeats 4000000 in
set_option maxRecDepth 100000 in
theorem pivot_calls {g sf : Nat} {lb sb : Array Value} {lt : RT → RT → Bool} {n : Nat} {S : Nat → Prop} {N0 : Nat} {Q : ARow → World → Prop} (K : Sorter g sf lb sb lt n S N0 Q) (a b : Nat) (d : ARow) (w : World)
    (hq : Q d w) (hab : a + 12 < b) (hb : b ≤ n) (hsz : n ≤ 1000) :
    Calls Try.prog 104 #[lsV g sf lb sb, .int .i64 a, .int .i64 b] w fun e w' => ∃ (p : Nat) (h : Int), e = .returned (.tuple #[.int .i64 p, .int .i64 h]) ∧ a ≤ p ∧ p < b ∧ Q d w' ∧ Below w.heap.size w w' := by
  have hN := (K.size _ _ hq).2
  have T0 := (K.below (K.start hq 128) ((Below.refl _ _).alloc (Nat.le_refl _) (.cells #[.int .i64 0] 3)))
  have b0 := (Below.refl w.heap.size w).alloc (Nat.le_refl _) (.cells #[.func (.func g) #[] lb, .func (.func sf) #[] sb] 128)
  have X0 := Box.new (w.alloc (.cells #[.func (.func g) #[] lb, .func (.func sf) #[] sb] 128)) (.int .i64 0) 3
  simp only [World.size_alloc] at X0
  have M0 : MedW g sf lb sb Q ((w.alloc (.cells #[.func (.func g) #[] lb, .func (.func sf) #[] sb] 128)).alloc (.cells #[.int .i64 0] 3)) w.heap.size (w.heap.size + 1) d ((w.alloc (.cells #[.func (.func g) #[] lb, .func (.func sf) #[] sb] 128)).alloc (.cells #[.int .i64 0] 3)) :=
    ⟨T0.q, But.of_below (Below.refl _ _), T0.lt, by omega, T0.c0, T0.c1, 0, X0⟩
  have bY : Below w.heap.size w ((w.alloc (.cells #[.func (.func g) #[] lb, .func (.func sf) #[] sb] 128)).alloc (.cells #[.int .i64 0] 3)) := b0.alloc (by simp) _
  have MA := Lib.hid (fun (x : Nat) (W : World) (q : Q d W) (k : Cnt W (w.heap.size + 1)) (h1 : 1 ≤ x) (h2 : x + 1 < n) => medAdj_calls K x (w.heap.size + 1) d W q h1 h2 hsz k (by omega))
  have MD := Lib.hid (fun (x y z : Nat) (W : World) (q : Q d W) (k : Cnt W (w.heap.size + 1)) (h1 : x < n) (h2 : y < n) (h3 : z < n) => median_calls K x y z (w.heap.size + 1) d W q h1 h2 h3 hsz k (by omega))
  have M0' := Lib.hid M0
  obtain ⟨q4, hq4⟩ : ∃ q : Nat, (b - a) / 4 = q := ⟨_, rfl⟩
  have e4 : IntKind.i64.wrap (((b : Int) - (a : Int)).tdiv 4) = (q4 : Int) := by
    rw [show (b : Int) - (a : Int) = ((b - a : Nat) : Int) by omega, IntKind.wrap_i64, Int.tdiv_eq_ediv_of_nonneg (by omega)] <;> omega
  have z0 := M0.c0
  have z1 := M0.c1
  have h8 : (8 : Int) ≤ (b : Int) - (a : Int) := by omega
  clear K T0 b0 X0 M0 hq
  have J4 : a + q4 * 3 + 3 < b := by omega
  have J1 : 1 ≤ q4 := by omega
  clear hq4
  have fin : ∀ (W : World), MedW g sf lb sb Q ((w.alloc (.cells #[.func (.func g) #[] lb, .func (.func sf) #[] sb] 128)).alloc (.cells #[.int .i64 0] 3)) w.heap.size (w.heap.size + 1) d W → Q d W ∧ Below w.heap.size w W := fun W M =>
⟨M.q, But.below (S := fun _ => False) ((But.of_below bY).trans M.but (fun k hk e => by omega)) (fun _ h => h.elim) (Nat.le_refl _)⟩
  have FIN := Lib.hid fin
  clear fin bY
  by_cases h50 : (50 : Int) ≤ (b : Int) - (a : Int)
  · have C1 := MA.out (a + q4) _ M0'.out.q M0'.out.cnt (by omega) (by omega)
    rw [show ((a + q4 : Nat) : Int) = (a : Int) + (q4 : Int) by omega] at C1
    go_enter Try.func104, Try.ntmps104
    go_wp2_with fail
    refine C1.mono ?_
    rintro e w1 ⟨i, rfl, hi1, hi2, q1, b1, k1⟩
    have M1 := Lib.hid (M0'.out.after q1 b1 k1)
    have z0 := M1.out.c0
    have z1 := M1.out.c1
    clear M0' q1 b1 k1 C1
    have C1 := MA.out (a + q4 * 2) _ M1.out.q M1.out.cnt (by omega) (by omega)
    rw [show ((a + q4 * 2 : Nat) : Int) = (a : Int) + (q4 : Int) * 2 by omega] at C1
    go_wp2_with fail
    refine C1.mono ?_
    rintro e w2 ⟨j, rfl, hj1, hj2, q1, b1, k1⟩
    have M2 := Lib.hid (M1.out.after q1 b1 k1)
    have z0 := M2.out.c0
    have z1 := M2.out.c1
    clear M1 q1 b1 k1 C1
    have C1 := MA.out (a + q4 * 3) _ M2.out.q M2.out.cnt (by omega) (by omega)
    rw [show ((a + q4 * 3 : Nat) : Int) = (a : Int) + (q4 : Int) * 3 by omega] at C1
    go_wp2_with fail
    refine C1.mono ?_
    rintro e w3 ⟨k, rfl, hk1, hk2, q1, b1, k1⟩
    have M3 := Lib.hid (M2.out.after q1 b1 k1)
    have z0 := M3.out.c0
    have z1 := M3.out.c1
    clear M2 q1 b1 k1 C1
    have C1 := MD.out i j k _ M3.out.q M3.out.cnt (by omega) (by omega) (by omega)
    go_wp2_with fail
    refine C1.mono ?_
    rintro e w4 ⟨r, rfl, hr, q1, b1, k1⟩
    have M4 := Lib.hid (M3.out.after q1 b1 k1)
    obtain ⟨s, B4⟩ := k1
    have z0 := B4.1
    have hr1 : a ≤ r := by omega
    have hr2 : r < b := by omega
    clear M3 q1 b1 C1 MA MD
    go_wp2
    all_goals (go_ret2; exact ⟨r, _, rfl, hr1, hr2, (FIN.out _ M4.out).1, (FIN.out _ M4.out).2⟩)
  · have C1 := MD.out (a + q4) (a + q4 * 2) (a + q4 * 3) _ M0'.out.q M0'.out.cnt (by omega) (by omega) (by omega)
    rw [show ((a + q4 : Nat) : Int) = (a : Int) + (q4 : Int) by omega, show ((a + q4 * 2 : Nat) : Int) = (a : Int) + (q4 : Int) * 2 by omega, show ((a + q4 * 3 : Nat) : Int) = (a : Int) + (q4 : Int) * 3 by omega] at C1
    go_enter Try.func104, Try.ntmps104
    go_wp2_with fail
    refine C1.mono ?_
    rintro e w4 ⟨r, rfl, hr, q1, b1, k1⟩
    have M4 := Lib.hid (M0'.out.after q1 b1 k1)
    obtain ⟨s, B4⟩ := k1
    have z0 := B4.1
    have hr1 : a ≤ r := by omega
    have hr2 : r < b := by omega
    clear M0' q1 b1 C1 MA MD
    go_wp2
    all_goals (go_ret2; exact ⟨r, _, rfl, hr1, hr2, (FIN.out _ M4.out).1, (FIN.out _ M4.out).2⟩)
end Go.Proofs.Ytepfcphhgmmlhaa
