/-
  Contract of pre.Check (one for all).
-/
import Derived.Test.YtnpaijmibkbhfaaPreB
import Derived.Test.YtnpaijmibkbhfaaPreAt
namespace Go.Proofs.Ytnpaijmibkbhfaa
open Go.RowKit
set_option linter.unusedVariables false
set_option linter.unusedSimpArgs false

theorem check_calls (six : Bool) (x : Nat) (n : Int) (hx : x < 2 ^ 128) (w : World) :
    Calls Try.prog 39 #[.agg #[.bool six, .int .u64 (aH x), .int .u64 (aL x), .int .i64 n]] w fun e w' => e = .returned (.int .i64 (chkE six x n)) ∧ Below w.heap.size w w' := by
  by_cases hv : x < 2 ^ wideN six
  · by_cases hn : 0 ≤ n ∧ n ≤ wideN six
    · obtain ⟨k, rfl⟩ := Int.eq_ofNat_of_zero_le hn.1
      have hk : k ≤ wideN six := by omega
      by_cases hl : lowN x (wideN six - k) = x
      · rw [show chkE six x k = 0 from by unfold chkE; rw [if_pos hv, if_pos hn, if_pos (by simpa using hl)]]
        exact check_ok six x k hx hv hk hl w
      · rw [show chkE six x k = 5 from by unfold chkE; rw [if_pos hv, if_pos hn, if_neg (by simpa using hl)]]
        exact check_bits six x k hx hv hk hl w
    · rw [show chkE six x n = 2 from by unfold chkE; rw [if_pos hv, if_neg hn]]
      by_cases h0 : n < 0
      · exact check_neg six x n hx hv h0 w
      · exact check_big six x n hx hv (by omega) w
  · rw [show chkE six x n = 4 from by unfold chkE; rw [if_neg hv]]
    exact check_form six x n hx hv w
theorem chk0 {six : Bool} {x : Nat} {n : Int} (h : chkE six x n = 0) : x < 2 ^ wideN six ∧ ∃ k : Nat, n = k ∧ k ≤ wideN six ∧ lowN x (wideN six - k) = x := by
  unfold chkE at h
  split at h
  · rename_i hv
    split at h
    · rename_i hn
      split at h
      · rename_i hl; exact ⟨hv, n.toNat, by omega, by omega, hl⟩
      · omega
    · omega
  · omega
theorem chk_mk (six : Bool) (x k : Nat) (hv : x < 2 ^ wideN six) (hk : k ≤ wideN six) (hl : lowN x (wideN six - k) = x) : chkE six x k = 0 := by
  unfold chkE; rw [if_pos hv, if_pos (by omega), if_pos (by simpa using hl)]
theorem lt128 {six : Bool} {x : Nat} (h : x < 2 ^ wideN six) : x < 2 ^ 128 := Nat.lt_of_lt_of_le h (Nat.pow_le_pow_right (by omega) (wideN_le six))

theorem may_num (six : Bool) (x : Nat) (hx : x < 2 ^ 128) (b : Bool) (hb : decide (x < 2 ^ wideN six) = b) (w : World) :
    Calls Try.prog 70 #[.agg #[.bool six, .int .u64 (aH x), .int .u64 (aL x)]] w fun e w' => e = .returned (.bool b) ∧ w.alloc (.cells #[.bool six, .int .u64 (aH x), .int .u64 (aL x)] 24) = w' := by
  rw [← hb, ← mayB_num six x hx]
  exact may_calls six _ _ (aH_0 x) (aL_0 x) w

/-- Two numbers are the same, or differ in a word. -/
theorem eq3 (y x : Nat) : y = x ∨ (aH y == aH x) = false ∨ aH y = aH x ∧ (aL y == aL x) = false := by
  by_cases h : aH y = aH x
  · by_cases l : aL y = aL x
    · exact .inl (a_inj h l)
    · exact .inr (.inr ⟨h, by simpa using l⟩)
  · exact .inr (.inl (by simpa using h))
theorem ne_of_h {y x : Nat} (h : (aH y == aH x) = false) : y ≠ x := by rintro rfl; simp at h
theorem ne_of_l {y x : Nat} (h : (aL y == aL x) = false) : y ≠ x := by rintro rfl; simp at h

end Go.Proofs.Ytnpaijmibkbhfaa
