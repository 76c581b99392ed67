/-
  Laid together: SrtA, SrtC.
-/
import Derived.Test.YtnpaijmibkbhfaaG3
import Derived.Sort.WalkA
import Derived.Sort.LotA
/-
  Sorting by a function that lays memory: what is asked of 'less' and 'swap', the worlds that a sort passes through; sort.insertionSort_func.
-/
namespace Go.Proofs.Ytnpaijmibkbhfaa
open Go.RowKit
open Go.Sort (swp insInner insOuter swp_size)
set_option linter.unusedVariables false
set_option linter.unusedSimpArgs false
abbrev ARow := Array RT
/-- The worlds of a sort: Q d W says that the row holds d; blocks of S are the row's, all else lies from N0 on or is not touched. -/
structure Sorter (g sf : Nat) (lb sb : Array Value) (lt : RT → RT → Bool) (n : Nat) (S : Nat → Prop) (N0 : Nat) (Q : ARow → World → Prop) : Prop where
  eg : ∀ args w, (callFunc g args).run Try.prog w = .ok (.enter g args) w
  less : ∀ d W (i j : Nat), Q d W → i < n → j < n → Calls Try.prog g (#[.int .i64 i, .int .i64 j] ++ lb) W fun e w' => e = .returned (.bool (lt d[i]! d[j]!)) ∧ Below W.heap.size W w'
  swap : ∀ d W (i j : Nat), Q d W → i < n → j < n → ∃ W', (callFunc sf (#[.int .i64 i, .int .i64 j] ++ sb)).run Try.prog W = .ok (.value (.tuple #[])) W' ∧ Q (swp d i j) W' ∧ But S W W'
  keep : ∀ d W W', Q d W → But (fun k => N0 ≤ k) W W' → Q d W'
  size : ∀ d W, Q d W → d.size = n ∧ N0 ≤ W.heap.size
  mine : ∀ k, S k → k < N0
/-- The argument of the sort's functions. -/
abbrev lsV (g sf : Nat) (lb sb : Array Value) : Value := .agg #[.func (.func g) #[] lb, .func (.func sf) #[] sb]
/-- In a function that began at w: the row holds d, the two functions lie in block b. -/
structure StW (g sf : Nat) (lb sb : Array Value) (S : Nat → Prop) (Q : ARow → World → Prop) (w : World) (b : Nat) (d : ARow) (W : World) : Prop where
  q : Q d W
  but : But S w W
  lt : b < W.heap.size
  c0 : W.cell? ⟨b, 0, none⟩ = some (.func (.func g) #[] lb)
  c1 : W.cell? ⟨b, 1, none⟩ = some (.func (.func sf) #[] sb)
section
variable {g sf : Nat} {lb sb : Array Value} {lt : RT → RT → Bool} {n : Nat} {S : Nat → Prop} {N0 : Nat} {Q : ARow → World → Prop}
theorem But.cellAt {w w' : World} (h : But S w w') {b : Nat} (hb : b < w.heap.size) (hn : ¬ S b) (o : Nat) {v : Value} (e : w.cell? ⟨b, o, none⟩ = some v) : w'.cell? ⟨b, o, none⟩ = some v :=
  (World.cell?_of_block (a := ⟨b, o, none⟩) (h.block b hb hn)).trans e
theorem But.below_new {w w' : World} (h : Below w.heap.size w w') (hN : N0 ≤ w.heap.size) : But (fun k => N0 ≤ k) w w' := But.of_below h
theorem Sorter.start (K : Sorter g sf lb sb lt n S N0 Q) {d : ARow} {w : World} (h : Q d w) (t : TypeId) : StW g sf lb sb S Q w w.heap.size d (w.alloc (.cells #[.func (.func g) #[] lb, .func (.func sf) #[] sb] t)) := by
  have b := (Below.refl w.heap.size w).alloc (Nat.le_refl _) (.cells #[.func (.func g) #[] lb, .func (.func sf) #[] sb] t)
  exact ⟨K.keep _ _ _ h (But.of_below b), But.of_below b, by simp, by simp, by simp⟩
theorem Sorter.below (K : Sorter g sf lb sb lt n S N0 Q) {w W W' : World} {b : Nat} {d : ARow} (h : StW g sf lb sb S Q w b d W) (hb : Below W.heap.size W W') : StW g sf lb sb S Q w b d W' :=
  ⟨K.keep _ _ _ h.q (But.of_below hb), h.but.trans (But.of_below (S := S) hb) (fun _ _ h => h), Nat.lt_of_lt_of_le h.lt hb.size, (hb.cell (p := ⟨b, 0, none⟩) h.lt).trans h.c0, (hb.cell (p := ⟨b, 1, none⟩) h.lt).trans h.c1⟩
/-- A callee's own world. -/
theorem Sorter.after (K : Sorter g sf lb sb lt n S N0 Q) {w W W' : World} {b : Nat} {d d' : ARow} (h : StW g sf lb sb S Q w b d W) (hN : N0 ≤ b) (hq : Q d' W') (hb : But S W W') : StW g sf lb sb S Q w b d' W' := by
  have hn : ¬ S b := fun e => by have := K.mine b e; omega
  exact ⟨hq, h.but.trans hb (fun _ _ h => h), Nat.lt_of_lt_of_le h.lt hb.size, hb.cellAt h.lt hn 0 h.c0, hb.cellAt h.lt hn 1 h.c1⟩
theorem StW.drewN (K : Sorter g sf lb sb lt n S N0 Q) {w W : World} {b : Nat} {d : ARow} (h : StW g sf lb sb S Q w b d W) (q : Nat) : StW g sf lb sb S Q w b d (W.drewN q) := K.below h (below_drewN (Below.refl _ _) q)
theorem Sorter.lessAt (K : Sorter g sf lb sb lt n S N0 Q) {w W : World} {b : Nat} {d : ARow} (h : StW g sf lb sb S Q w b d W) {i j : Nat} (hi : i < n) (hj : j < n) :
    Calls Try.prog g (#[.int .i64 i, .int .i64 j] ++ lb) W fun e w' => e = .returned (.bool (lt d[i]! d[j]!)) ∧ StW g sf lb sb S Q w b d w' :=
  (K.less _ _ _ _ h.q hi hj).mono fun e w' ⟨he, hb⟩ => ⟨he, K.below h hb⟩
theorem Sorter.swapAt (K : Sorter g sf lb sb lt n S N0 Q) {w W : World} {b : Nat} {d : ARow} (h : StW g sf lb sb S Q w b d W) (hN : N0 ≤ b) {i j : Nat} (hi : i < n) (hj : j < n) :
    ∃ W', (callFunc sf (#[.int .i64 i, .int .i64 j] ++ sb)).run Try.prog W = .ok (.value (.tuple #[])) W' ∧ StW g sf lb sb S Q w b (swp d i j) W' := by
  obtain ⟨W', e, q, bt⟩ := K.swap _ _ _ _ h.q hi hj
  exact ⟨W', e, K.after h hN q bt⟩
end
set_option maxHeartbeats 2000000 in
set_option maxRecDepth 100000 in
theorem insSort_calls {g sf : Nat} {lb sb : Array Value} {lt : RT → RT → Bool} {n : Nat} {S : Nat → Prop} {N0 : Nat} {Q : ARow → World → Prop} (K : Sorter g sf lb sb lt n S N0 Q) (a b : Nat) (d : ARow) (w : World)
    (hq : Q d w) (hab : a ≤ b) (hb : b ≤ n) (hsz : n ≤ 1000) :
    Calls Try.prog 126 #[lsV g sf lb sb, .int .i64 a, .int .i64 b] w fun e w' => e = .returned (.tuple #[]) ∧ Q (Sort.insertionSort lt d a b) w' ∧ But S w w' := by
  have hN := (K.size _ _ hq).2
  have T0 := Lib.hid (K.start hq 147)
  have HK := Lib.hid K
  have eg := K.eg
  clear K hq
  go_enter Try.func126, Try.ntmps126
  go_wp2
  go_loopw [6] (fun vi wr => ∃ (i : Nat) (dk : ARow), vi = .int .i64 i ∧ a < i ∧ i ≤ b + 1 ∧ Hid (StW g sf lb sb S Q w w.heap.size dk wr) ∧ Hid (insOuter lt a b i dk = insOuter lt a b (a + 1) d)) (fun vi _ => b + 1 - (intOf vi).toNat)
  case atStart => exact ⟨a + 1, d, by go_num, by omega, by omega, T0, Lib.hid rfl⟩
  case round =>
    obtain ⟨i, dk, rfl, hai, hib, TK, HO⟩ := hrel
    by_cases hlt : i < b
    · have hlt' : (i : Int) < (b : Int) := by omega
      go_wp2
      go_loopw [7] (fun vj wr2 => ∃ (j : Nat) (dj : ARow), vj = .int .i64 j ∧ a ≤ j ∧ j ≤ i ∧ Hid (StW g sf lb sb S Q w w.heap.size dj wr2) ∧ Hid (insInner lt a j dj = insInner lt a i dk)) (fun vj _ => (intOf vj).toNat)
      case atStart => exact ⟨i, dk, rfl, by omega, Nat.le_refl _, TK, Lib.hid rfl⟩
      case round =>
        obtain ⟨j, dj, rfl, haj, hji, TJ, HI⟩ := hrel
        have out : (j ≤ a ∨ lt dj[j]! dj[j - 1]! = false) → ∀ W, StW g sf lb sb S Q w w.heap.size dj W → ∃ i' dk', Value.int .i64 ((i : Int) + 1) = .int .i64 (i' : Nat) ∧ a < i' ∧ i' ≤ b + 1 ∧ Hid (StW g sf lb sb S Q w w.heap.size dk' W) ∧ Hid (insOuter lt a b i' dk' = insOuter lt a b (a + 1) d) := fun hs W TW =>
          ⟨i + 1, dj, by go_num, by omega, by omega, Lib.hid TW, Lib.hid (by rw [← HO.out, insOuter_go _ _ _ _ _ hlt, ← HI.out, insInner_stop _ _ _ _ hs])⟩
        have OUT := Lib.hid out
        have c0 := TJ.out.c0
        clear out
        by_cases hja : a < j
        · have hja' : (a : Int) < (j : Int) := by omega
          have hl := HK.out.lessAt TJ.out (i := j) (j := j - 1) (by omega) (by omega)
          rw [show (((j - 1 : Nat) : Int)) = (j : Int) - 1 by omega] at hl
          cases hlv : lt dj[j]! dj[j - 1]! with
          | true =>
            rw [hlv] at hl
            go_wp2_with (go_at_fn g; refine hl.mono ?_; rintro e w' ⟨rfl, T1⟩; have c1 := T1.c1)
            obtain ⟨W', hs, T2⟩ := HK.out.swapAt T1 hN (i := j) (j := j - 1) (by omega) (by omega)
            rw [show (((j - 1 : Nat) : Int)) = (j : Int) - 1 by omega] at hs
            rw [hs, Oper.upon_value]
            go_wp2
            go_roundw
            case rel => exact ⟨j - 1, swp dj j (j - 1), by congr 1 <;> omega, by omega, by omega, Lib.hid T2, Lib.hid (by rw [← HI.out, insInner_go lt a j dj hja hlv])⟩
            case measure => simp [intOf]; omega
          | false =>
            rw [hlv] at hl
            go_wp2_with (go_at_fn g; refine hl.mono ?_; rintro e w' ⟨rfl, T1⟩)
            go_roundw
            case rel => exact OUT.out (Or.inr hlv) _ T1
            case measure => simp [intOf]; omega
        · have hja' : ¬ (a : Int) < (j : Int) := by omega
          go_wp2
          go_roundw
          case rel => exact OUT.out (Or.inl (by omega)) _ TJ.out
          case measure => simp [intOf]; omega
    · have hlt' : ¬ (i : Int) < (b : Int) := by omega
      go_wp2
      go_end0
      exact ⟨rfl, by unfold Sort.insertionSort; rw [← HO.out, insOuter_stop _ _ _ _ _ hlt]; exact TK.out.q, TK.out.but⟩
end Go.Proofs.Ytnpaijmibkbhfaa
/-
  sort.order2_func, median_func, medianAdjacent_func, choosePivot_func: they write nothing but the count of swaps.
-/
namespace Go.Proofs.Ytnpaijmibkbhfaa
open Go.RowKit
open Go.Sort (swp)
set_option linter.unusedVariables false
set_option linter.unusedSimpArgs false
/-- The count of swaps lies in block c. -/
def Cnt (w : World) (c : Nat) : Prop := ∃ s : Int, Box w c (.int .i64 s)
set_option maxHeartbeats 2000000 in
set_option maxRecDepth 100000 in
theorem order2_calls {g sf : Nat} {lb sb : Array Value} {lt : RT → RT → Bool} {n : Nat} {S : Nat → Prop} {N0 : Nat} {Q : ARow → World → Prop} (K : Sorter g sf lb sb lt n S N0 Q) (a b c : Nat) (d : ARow) (w : World)
    (hq : Q d w) (ha : a < n) (hb : b < n) (hsz : n ≤ 1000) (hc : Cnt w c) (hcN : N0 ≤ c) :
    Calls Try.prog 158 #[lsV g sf lb sb, .int .i64 a, .int .i64 b, .pointer (some ⟨c, 0, none⟩)] w fun e w' => ∃ x y : Nat, e = .returned (.tuple #[.int .i64 x, .int .i64 y]) ∧ (x = a ∨ x = b) ∧ (y = a ∨ y = b) ∧ Q d w' ∧ But (fun k => k = c) w w' ∧ Cnt w' c := by
  obtain ⟨s, hs⟩ := hc
  have hN := (K.size _ _ hq).2
  have T0 := K.start hq 147
  have B0 := hs.keep ((Below.refl _ w).alloc (Nat.le_refl _) (.cells #[.func (.func g) #[] lb, .func (.func sf) #[] sb] 147)) hs.2.2
  have hl := (K.less _ _ b a T0.q hb ha)
  have KE := Lib.hid K.keep
  have eg := K.eg
  have c0 := T0.c0
  have T0' := Lib.hid T0
  have bA := (Below.refl w.heap.size w).alloc (Nat.le_refl _) (.cells #[.func (.func g) #[] lb, .func (.func sf) #[] sb] 147)
  clear K T0
  cases hv : lt d[b]! d[a]! with
  | true =>
    rw [hv] at hl
    go_enter Try.func158, Try.ntmps158
    go_wp2_with (go_at_fn g; refine hl.mono ?_; rintro e w1 ⟨rfl, hb1⟩; have B1 := B0.keep hb1 B0.2.2; have z0 := B1.1; have z1 := B1.2.1 0)
    go_ret2
    exact ⟨b, a, rfl, .inr rfl, .inl rfl, KE.out _ _ _ T0'.out.q ((But.of_below hb1).setCell (fun _ => hcN) _), (But.of_below (S := fun k => k = c) (thenBelow bA hb1)).setCell (p := ⟨c, 0, none⟩) (fun _ => rfl) _, _, B1.store _⟩
  | false =>
    rw [hv] at hl
    go_enter Try.func158, Try.ntmps158
    go_wp2_with (go_at_fn g; refine hl.mono ?_; rintro e w1 ⟨rfl, hb1⟩; have B1 := B0.keep hb1 B0.2.2)
    go_ret2
    exact ⟨a, b, rfl, .inl rfl, .inr rfl, KE.out _ _ _ T0'.out.q (But.of_below hb1), But.of_below (thenBelow bA hb1), s, B1⟩
/-- What the median's callers keep: the two functions' cells, the count. -/
structure MedW (g sf : Nat) (lb sb : Array Value) (Q : ARow → World → Prop) (w : World) (b c : Nat) (d : ARow) (W : World) : Prop where
  q : Q d W
  but : But (fun k => k = c) w W
  lt : b < W.heap.size
  ne : b ≠ c
  c0 : W.cell? ⟨b, 0, none⟩ = some (.func (.func g) #[] lb)
  c1 : W.cell? ⟨b, 1, none⟩ = some (.func (.func sf) #[] sb)
  cnt : Cnt W c
theorem MedW.after {g sf : Nat} {lb sb : Array Value} {Q : ARow → World → Prop} {w W W' : World} {b c : Nat} {d : ARow} (h : MedW g sf lb sb Q w b c d W) (q : Q d W') (t : But (fun k => k = c) W W') (z : Cnt W' c) : MedW g sf lb sb Q w b c d W' :=
  ⟨q, h.but.trans t (fun _ _ h => h), Nat.lt_of_lt_of_le h.lt t.size, h.ne, t.cellAt h.lt h.ne 0 h.c0, t.cellAt h.lt h.ne 1 h.c1, z⟩
theorem Cnt.keep {w w' : World} {c : Nat} (h : Cnt w c) (hb : Below w.heap.size w w') : Cnt w' c := by obtain ⟨s, B⟩ := h; exact ⟨s, B.keep hb B.2.2⟩
theorem Cnt.lt {w : World} {c : Nat} (h : Cnt w c) : c < w.heap.size := by obtain ⟨s, B⟩ := h; exact B.2.2
set_option maxHeartbeats 2000000 in
set_option maxRecDepth 100000 in
theorem median_calls {g sf : Nat} {lb sb : Array Value} {lt : RT → RT → Bool} {n : Nat} {S : Nat → Prop} {N0 : Nat} {Q : ARow → World → Prop} (K : Sorter g sf lb sb lt n S N0 Q) (x y z c : Nat) (d : ARow) (w : World)
    (hq : Q d w) (hx : x < n) (hy : y < n) (hz : z < n) (hsz : n ≤ 1000) (hc : Cnt w c) (hcN : N0 ≤ c) :
    Calls Try.prog 151 #[lsV g sf lb sb, .int .i64 x, .int .i64 y, .int .i64 z, .pointer (some ⟨c, 0, none⟩)] w fun e w' => ∃ r : Nat, e = .returned (.int .i64 r) ∧ (r = x ∨ r = y ∨ r = z) ∧ Q d w' ∧ But (fun k => k = c) w w' ∧ Cnt w' c := by
  have hcl := hc.lt
  have T0 := K.start hq 147
  have b0 := (Below.refl w.heap.size w).alloc (Nat.le_refl _) (.cells #[.func (.func g) #[] lb, .func (.func sf) #[] sb] 147)
  have M0 : MedW g sf lb sb Q w w.heap.size c d (w.alloc (.cells #[.func (.func g) #[] lb, .func (.func sf) #[] sb] 147)) := ⟨T0.q, But.of_below b0, T0.lt, by omega, T0.c0, T0.c1, hc.keep b0⟩
  have O2 := Lib.hid (fun (a b : Nat) (W : World) (M : MedW g sf lb sb Q w w.heap.size c d W) (ha : a < n) (hb : b < n) => order2_calls K a b c d W M.q ha hb hsz M.cnt hcN)
  have z0 := M0.c0
  have z1 := M0.c1
  have M0' := Lib.hid M0
  clear K T0 b0 M0 hq hc
  go_enter Try.func151, Try.ntmps151
  go_wp2_with fail
  refine (O2.out x y _ M0'.out hx hy).mono ?_
  rintro e w1 ⟨x1, y1, rfl, hx1, hy1, q1, b1, k1⟩
  have M1 := M0'.out.after q1 b1 k1
  have z0 := M1.c0
  have z1 := M1.c1
  have M1' := Lib.hid M1
  clear M0' M1 q1 b1 k1
  go_wp2_with fail
  refine (O2.out y1 z _ M1'.out (by omega) hz).mono ?_
  rintro e w2 ⟨x2, y2, rfl, hx2, hy2, q1, b1, k1⟩
  have M2 := M1'.out.after q1 b1 k1
  have z0 := M2.c0
  have z1 := M2.c1
  have M2' := Lib.hid M2
  clear M1' M2 q1 b1 k1
  go_wp2_with fail
  refine (O2.out x1 x2 _ M2'.out (by omega) (by omega)).mono ?_
  rintro e w3 ⟨x3, y3, rfl, hx3, hy3, q1, b1, k1⟩
  have M3 := M2'.out.after q1 b1 k1
  clear M2'
  go_wp2
  go_ret
  exact ⟨y3, rfl, by omega, M3.q, M3.but, M3.cnt⟩
set_option maxHeartbeats 2000000 in
set_option maxRecDepth 100000 in
theorem medAdj_calls {g sf : Nat} {lb sb : Array Value} {lt : RT → RT → Bool} {n : Nat} {S : Nat → Prop} {N0 : Nat} {Q : ARow → World → Prop} (K : Sorter g sf lb sb lt n S N0 Q) (x c : Nat) (d : ARow) (w : World)
    (hq : Q d w) (hx1 : 1 ≤ x) (hx : x + 1 < n) (hsz : n ≤ 1000) (hc : Cnt w c) (hcN : N0 ≤ c) :
    Calls Try.prog 150 #[lsV g sf lb sb, .int .i64 x, .pointer (some ⟨c, 0, none⟩)] w fun e w' => ∃ r : Nat, e = .returned (.int .i64 r) ∧ x ≤ r + 1 ∧ r ≤ x + 1 ∧ Q d w' ∧ But (fun k => k = c) w w' ∧ Cnt w' c := by
  have hcl := hc.lt
  have T0 := K.start hq 147
  have b0 := (Below.refl w.heap.size w).alloc (Nat.le_refl _) (.cells #[.func (.func g) #[] lb, .func (.func sf) #[] sb] 147)
  have M0 : MedW g sf lb sb Q w w.heap.size c d (w.alloc (.cells #[.func (.func g) #[] lb, .func (.func sf) #[] sb] 147)) := ⟨T0.q, But.of_below b0, T0.lt, by omega, T0.c0, T0.c1, hc.keep b0⟩
  have MD := median_calls K (x - 1) x (x + 1) c d _ M0.q (by omega) (by omega) hx hsz M0.cnt hcN
  rw [show ((x - 1 : Nat) : Int) = (x : Int) - 1 by omega, show ((x + 1 : Nat) : Int) = (x : Int) + 1 by omega] at MD
  have z0 := M0.c0
  have z1 := M0.c1
  have M0' := Lib.hid M0
  clear K T0 b0 M0 hq hc
  go_enter Try.func150, Try.ntmps150
  go_wp2_with fail
  refine MD.mono ?_
  rintro e w1 ⟨r, rfl, hr, q1, b1, k1⟩
  have M1 := M0'.out.after q1 b1 k1
  clear M0'
  go_wp2
  go_ret
  exact ⟨r, rfl, by omega, by omega, M1.q, M1.but, M1.cnt⟩
set_option maxHeartbeats 4000000 in
set_option maxRecDepth 100000 in
theorem pivot_calls {g sf : Nat} {lb sb : Array Value} {lt : RT → RT → Bool} {n : Nat} {S : Nat → Prop} {N0 : Nat} {Q : ARow → World → Prop} (K : Sorter g sf lb sb lt n S N0 Q) (a b : Nat) (d : ARow) (w : World)
    (hq : Q d w) (hab : a + 12 < b) (hb : b ≤ n) (hsz : n ≤ 1000) :
    Calls Try.prog 129 #[lsV g sf lb sb, .int .i64 a, .int .i64 b] w fun e w' => ∃ (p : Nat) (h : Int), e = .returned (.tuple #[.int .i64 p, .int .i64 h]) ∧ a ≤ p ∧ p < b ∧ Q d w' ∧ Below w.heap.size w w' := by
  have hN := (K.size _ _ hq).2
  have T0 := (K.below (K.start hq 147) ((Below.refl _ _).alloc (Nat.le_refl _) (.cells #[.int .i64 0] 3)))
  have b0 := (Below.refl w.heap.size w).alloc (Nat.le_refl _) (.cells #[.func (.func g) #[] lb, .func (.func sf) #[] sb] 147)
  have X0 := Box.new (w.alloc (.cells #[.func (.func g) #[] lb, .func (.func sf) #[] sb] 147)) (.int .i64 0) 3
  simp only [World.size_alloc] at X0
  have M0 : MedW g sf lb sb Q ((w.alloc (.cells #[.func (.func g) #[] lb, .func (.func sf) #[] sb] 147)).alloc (.cells #[.int .i64 0] 3)) w.heap.size (w.heap.size + 1) d ((w.alloc (.cells #[.func (.func g) #[] lb, .func (.func sf) #[] sb] 147)).alloc (.cells #[.int .i64 0] 3)) :=
    ⟨T0.q, But.of_below (Below.refl _ _), T0.lt, by omega, T0.c0, T0.c1, 0, X0⟩
  have bY : Below w.heap.size w ((w.alloc (.cells #[.func (.func g) #[] lb, .func (.func sf) #[] sb] 147)).alloc (.cells #[.int .i64 0] 3)) := b0.alloc (by simp) _
  have MA := Lib.hid (fun (x : Nat) (W : World) (q : Q d W) (k : Cnt W (w.heap.size + 1)) (h1 : 1 ≤ x) (h2 : x + 1 < n) => medAdj_calls K x (w.heap.size + 1) d W q h1 h2 hsz k (by omega))
  have MD := Lib.hid (fun (x y z : Nat) (W : World) (q : Q d W) (k : Cnt W (w.heap.size + 1)) (h1 : x < n) (h2 : y < n) (h3 : z < n) => median_calls K x y z (w.heap.size + 1) d W q h1 h2 h3 hsz k (by omega))
  have M0' := Lib.hid M0
  obtain ⟨q4, hq4⟩ : ∃ q : Nat, (b - a) / 4 = q := ⟨_, rfl⟩
  have e4 : IntKind.i64.wrap (((b : Int) - (a : Int)).tdiv 4) = (q4 : Int) := by
    rw [show (b : Int) - (a : Int) = ((b - a : Nat) : Int) by omega, IntKind.wrap_i64, Int.tdiv_eq_ediv_of_nonneg (by omega)] <;> omega
  have z0 := M0.c0
  have z1 := M0.c1
  have h8 : (8 : Int) ≤ (b : Int) - (a : Int) := by omega
  clear K T0 b0 X0 M0 hq
  have J4 : a + q4 * 3 + 3 < b := by omega
  have J1 : 1 ≤ q4 := by omega
  clear hq4
  have fin : ∀ (W : World), MedW g sf lb sb Q ((w.alloc (.cells #[.func (.func g) #[] lb, .func (.func sf) #[] sb] 147)).alloc (.cells #[.int .i64 0] 3)) w.heap.size (w.heap.size + 1) d W → Q d W ∧ Below w.heap.size w W := fun W M =>
⟨M.q, But.below (S := fun _ => False) ((But.of_below bY).trans M.but (fun k hk e => by omega)) (fun _ h => h.elim) (Nat.le_refl _)⟩
  have FIN := Lib.hid fin
  clear fin bY
  by_cases h50 : (50 : Int) ≤ (b : Int) - (a : Int)
  · have C1 := MA.out (a + q4) _ M0'.out.q M0'.out.cnt (by omega) (by omega)
    rw [show ((a + q4 : Nat) : Int) = (a : Int) + (q4 : Int) by omega] at C1
    go_enter Try.func129, Try.ntmps129
    go_wp2_with fail
    refine C1.mono ?_
    rintro e w1 ⟨i, rfl, hi1, hi2, q1, b1, k1⟩
    have M1 := Lib.hid (M0'.out.after q1 b1 k1)
    have z0 := M1.out.c0
    have z1 := M1.out.c1
    clear M0' q1 b1 k1 C1
    have C1 := MA.out (a + q4 * 2) _ M1.out.q M1.out.cnt (by omega) (by omega)
    rw [show ((a + q4 * 2 : Nat) : Int) = (a : Int) + (q4 : Int) * 2 by omega] at C1
    go_wp2_with fail
    refine C1.mono ?_
    rintro e w2 ⟨j, rfl, hj1, hj2, q1, b1, k1⟩
    have M2 := Lib.hid (M1.out.after q1 b1 k1)
    have z0 := M2.out.c0
    have z1 := M2.out.c1
    clear M1 q1 b1 k1 C1
    have C1 := MA.out (a + q4 * 3) _ M2.out.q M2.out.cnt (by omega) (by omega)
    rw [show ((a + q4 * 3 : Nat) : Int) = (a : Int) + (q4 : Int) * 3 by omega] at C1
    go_wp2_with fail
    refine C1.mono ?_
    rintro e w3 ⟨k, rfl, hk1, hk2, q1, b1, k1⟩
    have M3 := Lib.hid (M2.out.after q1 b1 k1)
    have z0 := M3.out.c0
    have z1 := M3.out.c1
    clear M2 q1 b1 k1 C1
    have C1 := MD.out i j k _ M3.out.q M3.out.cnt (by omega) (by omega) (by omega)
    go_wp2_with fail
    refine C1.mono ?_
    rintro e w4 ⟨r, rfl, hr, q1, b1, k1⟩
    have M4 := Lib.hid (M3.out.after q1 b1 k1)
    obtain ⟨s, B4⟩ := k1
    have z0 := B4.1
    have hr1 : a ≤ r := by omega
    have hr2 : r < b := by omega
    clear M3 q1 b1 C1 MA MD
    go_wp2
    all_goals (go_ret2; exact ⟨r, _, rfl, hr1, hr2, (FIN.out _ M4.out).1, (FIN.out _ M4.out).2⟩)
  · have C1 := MD.out (a + q4) (a + q4 * 2) (a + q4 * 3) _ M0'.out.q M0'.out.cnt (by omega) (by omega) (by omega)
    rw [show ((a + q4 : Nat) : Int) = (a : Int) + (q4 : Int) by omega, show ((a + q4 * 2 : Nat) : Int) = (a : Int) + (q4 : Int) * 2 by omega, show ((a + q4 * 3 : Nat) : Int) = (a : Int) + (q4 : Int) * 3 by omega] at C1
    go_enter Try.func129, Try.ntmps129
    go_wp2_with fail
    refine C1.mono ?_
    rintro e w4 ⟨r, rfl, hr, q1, b1, k1⟩
    have M4 := Lib.hid (M0'.out.after q1 b1 k1)
    obtain ⟨s, B4⟩ := k1
    have z0 := B4.1
    have hr1 : a ≤ r := by omega
    have hr2 : r < b := by omega
    clear M0' q1 b1 C1 MA MD
    go_wp2
    all_goals (go_ret2; exact ⟨r, _, rfl, hr1, hr2, (FIN.out _ M4.out).1, (FIN.out _ M4.out).2⟩)
end Go.Proofs.Ytnpaijmibkbhfaa
