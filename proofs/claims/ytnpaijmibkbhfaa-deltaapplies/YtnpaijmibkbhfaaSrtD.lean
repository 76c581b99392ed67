/-
  sort.reverseRange_func, sort.breakPatterns_func: the range is permuted.
-/
import Derived.Test.YtnpaijmibkbhfaaG9
import Derived.Test.YtnpaijmibkbhfaaShelfX
import Derived.Sort.LotD2
namespace Go.Proofs.Ytnpaijmibkbhfaa
open Go.RowKit
open Go.Sort (swp PermIn swp_permIn permIn_refl permIn_trans)
set_option linter.unusedVariables false
set_option linter.unusedSimpArgs false
theorem permIn_swp {a b i j : Nat} {d d' : ARow} (h : PermIn a b d d') (hb : b ≤ d.size) (i1 : a ≤ i) (i2 : i < b) (j1 : a ≤ j) (j2 : j < b) : PermIn a b d (swp d' i j) :=
  permIn_trans _ _ _ _ _ h (swp_permIn _ _ _ _ _ i1 i2 j1 j2 (by rw [h.1]; exact hb))
set_option maxHeartbeats 2000000 in
set_option maxRecDepth 100000 in
theorem reverse_calls {g sf : Nat} {lb sb : Array Value} {lt : RT → RT → Bool} {n : Nat} {S : Nat → Prop} {N0 : Nat} {Q : ARow → World → Prop} (K : Sorter g sf lb sb lt n S N0 Q) (a b : Nat) (d : ARow) (w : World)
    (hq : Q d w) (hab : a < b) (hb : b ≤ n) (hsz : n ≤ 1000) :
    Calls Try.prog 130 #[lsV g sf lb sb, .int .i64 a, .int .i64 b] w fun e w' => e = .returned (.tuple #[]) ∧ ∃ d', PermIn a b d d' ∧ Q d' w' ∧ But S w w' := by
  have hN := (K.size _ _ hq).2
  have hsd := (K.size _ _ hq).1
  have T0 := Lib.hid (K.start hq 147)
  have HK := Lib.hid K
  clear K hq
  go_enter Try.func130, Try.ntmps130
  go_wp2
  go_loopw [6, 7] (fun vi vj wr => ∃ (i j : Nat) (dk : ARow), vi = .int .i64 i ∧ vj = .int .i64 j ∧ a ≤ i ∧ j < b ∧ i ≤ j + 1 ∧ Hid (StW g sf lb sb S Q w w.heap.size dk wr) ∧ Hid (PermIn a b d dk)) (fun vi vj _ => (intOf vj).toNat + 1 - (intOf vi).toNat)
  case atStart => exact ⟨a, b - 1, d, rfl, by congr 1; omega, Nat.le_refl _, by omega, by omega, T0, Lib.hid (permIn_refl _ _ _)⟩
  case round =>
    obtain ⟨i, j, dk, rfl, rfl, hai, hjb, hij, TK, HP⟩ := hrel
    have c1 := TK.out.c1
    by_cases hlt : i < j
    · have hlt' : (i : Int) < (j : Int) := by omega
      obtain ⟨W', hs, T2⟩ := HK.out.swapAt TK.out hN (i := i) (j := j) (by omega) (by omega)
      have T2' := Lib.hid T2
      clear T2 TK
      go_wp2
      go_roundw
      case rel => exact ⟨i + 1, j - 1, _, by go_num, by congr 1; omega, by omega, by omega, by omega, T2', Lib.hid (permIn_swp HP.out (by omega) (by omega) (by omega) (by omega) (by omega))⟩
      case measure => simp [intOf]; omega
    · have hlt' : ¬ (i : Int) < (j : Int) := by omega
      go_wp2
      go_end0
      exact ⟨rfl, dk, HP.out, TK.out.q, TK.out.but⟩
theorem xor_calls (c : Nat) (r : Nat) (w : World) (hr : r < 18446744073709551616) (hc : Box w c (.int .u64 r)) :
    Calls Try.prog 149 #[.pointer (some ⟨c, 0, none⟩)] w fun e w' => ∃ r' : Nat, r' < 18446744073709551616 ∧ e = .returned (.int .u64 r') ∧ Box w' c (.int .u64 r') ∧ But (fun k => k = c) w w' := by
  refine (Try.xorshift_Next c 0 r hr w hc.1 (hc.2.1 0)).mono ?_
  rintro e w' ⟨rfl, rfl⟩
  have b : But (fun k => k = c) w (w.setCell ⟨c, 0, none⟩ (.int .u64 (Go.Sort.xorNextN r : Nat))) := (But.of_below (S := fun k => k = c) (Below.refl _ _)).setCell (p := ⟨c, 0, none⟩) (fun _ => rfl) _
  exact ⟨_, Go.Sort.xorNextN_lt r hr, rfl, (hc.store _).keep (below_drewN (Below.refl _ _) 3) (by simpa using hc.2.2), b.trans (But.of_below (below_drewN (Below.refl _ _) 3)) (fun _ _ h => h)⟩
theorem pow_calls (k : Nat) (h : 12 < k) (hk : k ≤ 1000) (w : World) :
    Calls Try.prog 148 #[.int .i64 k] w fun e w' => ∃ m : Nat, 1 ≤ m ∧ m ≤ 2 * k ∧ e = .returned (.int .u64 m) ∧ w' = w := by
  refine (Try.nextPowerOfTwo k (by omega) w).mono ?_
  rintro e w' ⟨rfl, rfl⟩
  exact ⟨_, by rw [Nat.one_shiftLeft]; exact Nat.two_pow_pos _, by rw [Nat.one_shiftLeft]; exact Go.Sort.two_pow_bitsLen_le (by omega), rfl, rfl⟩
theorem But.weak {S S' : Nat → Prop} {w w' : World} (h : But S w w') (hS : ∀ k, S k → S' k) : But S' w w' := ⟨h.os, h.tape, h.output, h.size, fun k hk hn => h.block k hk (fun e => hn (hS k e))⟩
theorem Sorter.box {g sf : Nat} {lb sb : Array Value} {lt : RT → RT → Bool} {n : Nat} {S : Nat → Prop} {N0 : Nat} {Q : ARow → World → Prop} (K : Sorter g sf lb sb lt n S N0 Q) {w W W' : World} {b c : Nat} {d : ARow} (h : StW g sf lb sb S Q w b d W)
    (hc : N0 ≤ c) (hw : w.heap.size ≤ c) (hb : b ≠ c) (t : But (fun k => k = c) W W') : StW g sf lb sb S Q w b d W' :=
  ⟨K.keep _ _ _ h.q (t.weak fun k e => by subst e; exact hc), h.but.trans t (fun k hk e => by omega), Nat.lt_of_lt_of_le h.lt t.size, t.cellAt h.lt hb 0 h.c0, t.cellAt h.lt hb 1 h.c1⟩
/-- While the patterns are broken: the two functions' cells, the random number's box. -/
structure BrkW (g sf : Nat) (lb sb : Array Value) (S : Nat → Prop) (Q : ARow → World → Prop) (w : World) (b c : Nat) (d : ARow) (r : Nat) (W : World) : Prop where
  t : StW g sf lb sb S Q w b d W
  box : Box W c (.int .u64 r)
  rl : r < 18446744073709551616
set_option maxHeartbeats 4000000 in
set_option maxRecDepth 100000 in
theorem break_calls {g sf : Nat} {lb sb : Array Value} {lt : RT → RT → Bool} {n : Nat} {S : Nat → Prop} {N0 : Nat} {Q : ARow → World → Prop} (K : Sorter g sf lb sb lt n S N0 Q) (a b : Nat) (d : ARow) (w : World)
    (hq : Q d w) (hab : a + 12 < b) (hb : b ≤ n) (hsz : n ≤ 1000) :
    Calls Try.prog 128 #[lsV g sf lb sb, .int .i64 a, .int .i64 b] w fun e w' => e = .returned (.tuple #[]) ∧ ∃ d', PermIn a b d d' ∧ Q d' w' ∧ But S w w' := by
  have hN := (K.size _ _ hq).2
  have hsd := (K.size _ _ hq).1
  obtain ⟨L, rfl⟩ : ∃ L, b = a + L := ⟨b - a, by omega⟩
  have X0 := Box.new (w.alloc (.cells #[.func (.func g) #[] lb, .func (.func sf) #[] sb] 147)) (.int .u64 (L : Nat)) 191
  simp only [World.size_alloc] at X0
  have T0 := Lib.hid (BrkW.mk (K.below (K.start hq 147) ((Below.refl _ _).alloc (Nat.le_refl _) (.cells #[.int .u64 (L : Nat)] 191))) X0 (by omega))
  have HK := Lib.hid K
  have NP := Lib.hid (pow_calls L (by omega) (by omega))
  have h8 : (8 : Int) ≤ (L : Int) := by omega
  have eL : (a : Int) + (L : Int) - (a : Int) = (L : Int) := by omega
  have wL : IntKind.u64.wrap (L : Int) = (L : Int) := by rw [IntKind.wrap_u64]; omega
  clear K hq X0
  obtain ⟨q4, hq4⟩ : ∃ q : Nat, L / 4 = q := ⟨_, rfl⟩
  have e4 : (L : Int) / 4 = (q4 : Int) := by omega
  have J1 : 3 ≤ q4 := by omega
  have J2 : q4 * 4 ≤ L := by omega
  clear hq4
  rw [show ((a + L : Nat) : Int) = (a : Int) + (L : Int) by omega]
  go_enter Try.func128, Try.ntmps128
  go_wp2_with fail
  refine (NP.out _).mono ?_
  rintro e w1 ⟨m, hm1, hm2, rfl, rfl⟩
  go_wp2_with fail
  go_loopg [9] 3 (fun g1 vi wr => ∃ (t : Nat) (r : Nat) (dk : ARow), vi = .int .i64 ((a : Int) + (q4 : Int) * 2 - 1 + (t : Int)) ∧ t ≤ 3 ∧ 3 - t ≤ g1 ∧ Hid (BrkW g sf lb sb S Q w w.heap.size (w.heap.size + 1) dk r wr) ∧ Hid (PermIn a (a + L) d dk))
  case atStart => exact ⟨0, L, d, by simp, by omega, by omega, T0, Lib.hid (permIn_refl _ _ _)⟩
  case round =>
    obtain ⟨t, r, dk, rfl, ht, hg1, TK, HP⟩ := hrel
    by_cases ht3 : t < 3
    · have hle : (a : Int) + (q4 : Int) * 2 - 1 + (t : Int) ≤ (a : Int) + (q4 : Int) * 2 + 1 := by omega
      have XC := xor_calls (w.heap.size + 1) r wr TK.out.rl TK.out.box
      go_wp2_with fail
      refine XC.mono ?_
      rintro e w2 ⟨r', hr', rfl, B2, b2⟩
      have T2 : StW g sf lb sb S Q w w.heap.size dk w2 := HK.out.box TK.out.t (by omega) (by omega) (by omega) b2
      have c1 := T2.c1
      obtain ⟨O, hO⟩ : ∃ O : Nat, O = r' &&& (m - 1) := ⟨_, rfl⟩
      have lO : O ≤ m - 1 := by rw [hO]; exact Nat.and_le_right
      have eAnd : bits .and .u64 (r' : Int) ((m : Int) - 1) = (O : Int) := by
        rw [show ((m : Int) - 1) = ((m - 1 : Nat) : Int) by omega, bits_and_u64_nat _ _ hr' (by omega), hO]
      clear hO
      have nxt : ∀ (y : Nat) (W' : World), y < L → But S w2 W' → StW g sf lb sb S Q w w.heap.size (swp dk (a + q4 * 2 - 1 + t) (a + y)) W' → ∃ (t' : Nat) (r2 : Nat) (dk' : ARow), Value.int .i64 ((a : Int) + (q4 : Int) * 2 - 1 + (t : Int) + 1) = .int .i64 ((a : Int) + (q4 : Int) * 2 - 1 + (t' : Int)) ∧ t' ≤ 3 ∧ 3 - t' ≤ 3 - (t + 1) ∧ Hid (BrkW g sf lb sb S Q w w.heap.size (w.heap.size + 1) dk' r2 W') ∧ Hid (PermIn a (a + L) d dk') := fun y W' hy bs T3 =>
        ⟨t + 1, r', _, by congr 1; omega, by omega, Nat.le_refl _, Lib.hid ⟨T3, bs.box B2 (fun e => by have := HK.out.mine _ e; omega), hr'⟩, Lib.hid (permIn_swp HP.out (by omega) (by omega) (by omega) (by omega) (by omega))⟩
      have NXT := Lib.hid nxt
      have sw : ∀ y : Nat, y < L → ∃ W', (callFunc sf (#[.int .i64 ((a : Int) + (q4 : Int) * 2 - 1 + (t : Int)), .int .i64 ((a : Int) + (y : Int))] ++ sb)).run Try.prog w2 = .ok (.value (.tuple #[])) W' ∧ StW g sf lb sb S Q w w.heap.size (swp dk (a + q4 * 2 - 1 + t) (a + y)) W' ∧ But S w2 W' := fun y hy => by
        obtain ⟨W', e, q, bt⟩ := HK.out.swap _ _ (a + q4 * 2 - 1 + t) (a + y) T2.q (by omega) (by omega)
        rw [show ((a + q4 * 2 - 1 + t : Nat) : Int) = (a : Int) + (q4 : Int) * 2 - 1 + (t : Int) by omega, show ((a + y : Nat) : Int) = (a : Int) + (y : Int) by omega] at e
        exact ⟨W', e, HK.out.after T2 hN q bt, bt⟩
      have SW := Lib.hid sw
      clear nxt sw TK T2 B2 b2 XC
      by_cases hLO : L ≤ O
      · have hLOz : (L : Int) ≤ (O : Int) := by omega
        obtain ⟨W', hs, T3, bt⟩ := SW.out (O - L) (by omega)
        rw [show ((O - L : Nat) : Int) = (O : Int) - (L : Int) by omega] at hs
        have N := Lib.hid (NXT.out (O - L) W' (by omega) bt T3)
        clear T3 bt
        go_wp2
        go_roundg (3 - (t + 1))
        case measure => omega
        case rel => exact N.out
      · have hLOz : ¬ (L : Int) ≤ (O : Int) := by omega
        obtain ⟨W', hs, T3, bt⟩ := SW.out O (by omega)
        have N := Lib.hid (NXT.out O W' (by omega) bt T3)
        clear T3 bt
        go_wp2
        go_roundg (3 - (t + 1))
        case measure => omega
        case rel => exact N.out
    · obtain rfl : t = 3 := by omega
      have hle : ¬ ((a : Int) + (q4 : Int) * 2 - 1 + ((3 : Nat) : Int) ≤ (a : Int) + (q4 : Int) * 2 + 1) := by omega
      go_wp2
      go_end0
      exact ⟨rfl, dk, HP.out, TK.out.t.q, TK.out.t.but⟩
end Go.Proofs.Ytnpaijmibkbhfaa
