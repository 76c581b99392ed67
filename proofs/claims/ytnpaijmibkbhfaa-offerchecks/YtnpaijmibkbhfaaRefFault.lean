/-
  The contract of the document's PreFault.
-/
import Derived.Test.YtnpaijmibkbhfaaRefPre
import Derived.Test.YtnpaijmibkbhfaaPreC
namespace Go.Proofs.Ytnpaijmibkbhfaa
open Go.RowKit
set_option linter.unusedVariables false
set_option linter.unusedSimpArgs false

/-- No bit from n on, among k. -/
def FaultUpto (six : Bool) (x n k : Nat) : Prop := ∀ j, n ≤ j → j < n + k → fB six x j = false
theorem refMay_num (six : Bool) (x : Nat) (hx : x < 2 ^ 128) (b : Bool) (hb : decide (x < 2 ^ wideN six) = b) (w : World) :
    Calls Try.prog 71 #[.agg #[.bool six, .int .u64 (aH x), .int .u64 (aL x)]] w fun e w' => e = .returned (.bool b) ∧ w.alloc (.cells #[.bool six, .int .u64 (aH x), .int .u64 (aL x)] 24) = w' := by
  rw [← hb, ← mayB_num six x hx]
  exact refMay_calls six _ _ (aH_0 x) (aL_0 x) w
set_option maxHeartbeats 400000 in
theorem refFault_form (six : Bool) (x : Nat) (n : Int) (hx : x < 2 ^ 128) (hv : ¬ x < 2 ^ wideN six) (w : World) :
    Calls Try.prog 41 #[.agg #[.bool six, .int .u64 (aH x), .int .u64 (aL x), .int .i64 n]] w fun e w' => e = .returned (.int .i64 4) ∧ Below w.heap.size w w' := by
  go_enter Try.func41, Try.ntmps41
  go_wp2_with fail
  refine (refMay_num six x hx false (decide_eq_false hv) _).mono ?_
  rintro e w1 ⟨rfl, rfl⟩
  go_wp2
  go_ret
  exact ⟨rfl, by go_grown⟩
set_option maxHeartbeats 400000 in
theorem refFault_out (six : Bool) (x : Nat) (n : Int) (hx : x < 2 ^ 128) (hv : x < 2 ^ wideN six) (hn : n < 0 ∨ (wideN six : Int) < n) (w : World) :
    Calls Try.prog 41 #[.agg #[.bool six, .int .u64 (aH x), .int .u64 (aL x), .int .i64 n]] w fun e w' => e = .returned (.int .i64 2) ∧ Below w.heap.size w w' := by
  go_enter Try.func41, Try.ntmps41
  go_wp2_with fail
  refine (refMay_num six x hx true (decide_eq_true hv) _).mono ?_
  rintro e w1 ⟨rfl, rfl⟩
  go_wp2_with fail
  refine (bitsOf_num six x hx _).mono ?_
  rintro e w1 ⟨g, cap, rfl, hB, hg, hc, hb⟩
  obtain ⟨p0, p1, p2, p3, pl⟩ := ((PreAt.new w six (aH x) (aL x) n 26).alloc _).keep hb
  have b1 := thenBelow (((Below.refl _ w).alloc (Nat.le_refl _) _).alloc (by simp) _) hb
  clear hb hB
  rcases hn with hn | hn
  · go_wp2
    go_ret
    exact ⟨rfl, b1⟩
  · have h0 : ¬ n < 0 := by omega
    go_wp2
    go_ret
    exact ⟨rfl, b1⟩
set_option maxHeartbeats 1000000 in
theorem refFault_in (six : Bool) (x n : Nat) (r : Int) (hx : x < 2 ^ 128) (hv : x < 2 ^ wideN six) (hn : n ≤ wideN six) (hr : (if lowN x (wideN six - n) = x then 0 else 5) = r) (w : World) :
    Calls Try.prog 41 #[.agg #[.bool six, .int .u64 (aH x), .int .u64 (aL x), .int .i64 n]] w fun e w' => e = .returned (.int .i64 r) ∧ Below w.heap.size w w' := by
  have hW := wideN_le six
  obtain ⟨W, hWe⟩ : ∃ W, wideN six = W := ⟨_, rfl⟩
  have LB := Lib.hid (lowBits_iff six x n hv hn)
  rw [hWe] at hn hW hr LB
  have HR := Lib.hid hr
  have HWE := Lib.hid hWe
  clear hr hWe
  go_enter Try.func41, Try.ntmps41
  go_wp2_with fail
  refine (refMay_num six x hx true (decide_eq_true hv) _).mono ?_
  rintro e w1 ⟨rfl, rfl⟩
  go_wp2_with fail
  refine (bitsOf_num six x hx _).mono ?_
  rw [HWE.out]
  rintro e w1 ⟨g, cap, rfl, hB, hg, hc, hb⟩
  obtain ⟨p0, p1, p2, p3, pl⟩ := ((PreAt.new w six (aH x) (aL x) n 26).alloc _).keep hb
  have b1 := thenBelow (((Below.refl _ w).alloc (Nat.le_refl _) _).alloc (by simp) _) hb
  have HB := Lib.hid hB
  obtain ⟨hc1, hc2⟩ := hc
  unfold maxLen at hc2
  clear hb hB hg
  by_cases hcap : n < cap
  · have hne : cap ≠ n := by omega
    have hwn := Lib.hid (show W - n ≤ 128 by omega)
    go_wp2
    go_loop [28] (fun i => ∃ k : Nat, k ≤ W - n ∧ i = .int .i64 k ∧ FaultUpto six x n k) (fun i => W - n - (intOf i).toNat)
    case atStart => exact ⟨0, Nat.zero_le _, rfl, fun j h1 h2 => by omega⟩
    case round =>
      obtain ⟨k, hk, rfl, hrel⟩ := hrel
      have HREL := Lib.hid hrel
      clear hrel
      by_cases hlt : k < W - n
      · have hcell := HB.out.1 (n + k) (by omega)
        cases hf : fB six x (n + k)
        · rw [hf] at hcell
          have hcell' : w1.cell? ⟨g, n + k, none⟩ = some (.int .i64 0) := hcell
          have HF := Lib.hid hf
          clear hcell hf
          go_wp2
          go_round
          case rel => exact ⟨k + 1, by omega, by go_num, fun j h1 h2 => by
            by_cases e : j = n + k
            · rw [e]; exact HF.out
            · exact HREL.out j h1 (by omega)⟩
          case measure => simp [intOf]; omega
        · rw [hf] at hcell
          have hcell' : w1.cell? ⟨g, n + k, none⟩ = some (.int .i64 1) := hcell
          have e5 : r = 5 := by
            rw [← HR.out, if_neg]
            intro hl
            have := LB.out.1 hl (n + k) (by omega) (by omega)
            rw [hf] at this; cases this
          clear hcell hf
          subst e5
          go_wp2
          go_ret
          exact ⟨rfl, b1⟩
      · obtain rfl : k = W - n := by omega
        have e0 : r = 0 := by
          rw [← HR.out, if_pos (LB.out.2 fun j h1 h2 => HREL.out j h1 (by omega))]
        subst e0
        go_wp2
        go_ret
        exact ⟨rfl, b1⟩
  · have e1 : cap = n := by omega
    have e2 : W = n := by omega
    have e0 : r = 0 := by
      rw [← HR.out, if_pos (LB.out.2 fun j h1 h2 => by omega)]
    subst e0
    subst e1
    subst e2
    clear hcap
    go_wp2
    go_loop [28] (fun i => i = .int .i64 0) (fun i => 0)
    case atStart => rfl
    case round =>
      subst hrel
      go_wp2
      go_ret
      exact ⟨rfl, b1⟩
theorem refFault_calls (six : Bool) (x : Nat) (n : Int) (hx : x < 2 ^ 128) (w : World) :
    Calls Try.prog 41 #[.agg #[.bool six, .int .u64 (aH x), .int .u64 (aL x), .int .i64 n]] w fun e w' => e = .returned (.int .i64 (chkE six x n)) ∧ Below w.heap.size w w' := by
  by_cases hv : x < 2 ^ wideN six
  · by_cases hn : 0 ≤ n ∧ n ≤ wideN six
    · obtain ⟨k, rfl⟩ := Int.eq_ofNat_of_zero_le hn.1
      exact refFault_in six x k _ hx hv (by omega) (by unfold chkE; rw [if_pos hv, if_pos hn]; rfl) w
    · rw [show chkE six x n = 2 from by unfold chkE; rw [if_pos hv, if_neg hn]]
      exact refFault_out six x n hx hv (by omega) w
  · rw [show chkE six x n = 4 from by unfold chkE; rw [if_neg hv]]
    exact refFault_form six x n hx hv w
end Go.Proofs.Ytnpaijmibkbhfaa
