/-
  Plain mathematics: an address as one number; its first bits, and its last ones set to 0 or 1.
-/
import Derived.Test.YtnpaijmibkbhfaaNum
namespace Go.Proofs.Ytnpaijmibkbhfaa
open Go.RowKit
set_option linter.unusedVariables false
set_option linter.unusedSimpArgs false

/-- How many bits an address has. -/
def wideN (six : Bool) : Nat := if six then 128 else 32
theorem wideN_le (six : Bool) : wideN six ≤ 128 := by cases six <;> decide
theorem wideB_eq (six : Bool) : wideB six = (wideN six : Int) := by cases six <;> rfl
/-- The two words of a number of 128 bits. -/
def aH (x : Nat) : Int := ((x / 18446744073709551616 : Nat) : Int)
def aL (x : Nat) : Int := ((x % 18446744073709551616 : Nat) : Int)
/-- The number of two words. -/
def numA (hi lo : Int) : Nat := (hi * 18446744073709551616 + lo).toNat
theorem aH_numA (hi lo : Int) (h0 : 0 ≤ hi) (l0 : 0 ≤ lo) (l1 : lo ≤ 18446744073709551615) : aH (numA hi lo) = hi := by unfold aH numA; omega
theorem aL_numA (hi lo : Int) (h0 : 0 ≤ hi) (l0 : 0 ≤ lo) (l1 : lo ≤ 18446744073709551615) : aL (numA hi lo) = lo := by unfold aL numA; omega
theorem aH_0 (x : Nat) : 0 ≤ aH x := by unfold aH; omega
theorem aL_0 (x : Nat) : 0 ≤ aL x := by unfold aL; omega
theorem aL_1 (x : Nat) : aL x ≤ 18446744073709551615 := by unfold aL; omega
theorem aH_1 (x : Nat) (h : x < 2 ^ 128) : aH x ≤ 18446744073709551615 := by unfold aH; omega
theorem numA_lt (hi lo : Int) (h0 : 0 ≤ hi) (h1 : hi ≤ 18446744073709551615) (l0 : 0 ≤ lo) (l1 : lo ≤ 18446744073709551615) : numA hi lo < 2 ^ 128 := by unfold numA; omega
theorem a_inj {x y : Nat} (h : aH x = aH y) (l : aL x = aL y) : x = y := by unfold aH at h; unfold aL at l; omega
theorem two_pow_pos' (k : Nat) : 0 < 2 ^ k := Nat.two_pow_pos k

/-- The last k bits are 0. -/
def lowN (x k : Nat) : Nat := x / 2 ^ k * 2 ^ k
/-- The last k bits are 1. -/
def topN (x k : Nat) : Nat := x / 2 ^ k * 2 ^ k + (2 ^ k - 1)
theorem lowN_testBit (x k j : Nat) : (lowN x k).testBit j = (decide (k ≤ j) && x.testBit j) := by
  unfold lowN
  rw [Nat.testBit_mul_two_pow, Nat.testBit_div_two_pow]
  by_cases h : k ≤ j
  · rw [Nat.sub_add_cancel h]
  · simp [h]
theorem topN_testBit (x k j : Nat) : (topN x k).testBit j = (decide (j < k) || x.testBit j) := by
  unfold topN
  rw [Nat.mul_comm, Nat.testBit_two_pow_mul_add _ (by have := two_pow_pos' k; omega), Nat.testBit_two_pow_sub_one]
  by_cases h : j < k
  · simp [h]
  · rw [if_neg h, Nat.testBit_div_two_pow, Nat.sub_add_cancel (by omega)]
    simp [h]
theorem lowN_le (x k : Nat) : lowN x k ≤ x := Nat.div_mul_le_self x (2 ^ k)
theorem lowN_mod (x k : Nat) : lowN x k = x - x % 2 ^ k := by
  unfold lowN; have := Nat.div_add_mod x (2 ^ k); rw [Nat.mul_comm]; omega
theorem topN_low (x k : Nat) : topN x k = lowN x k + (2 ^ k - 1) := rfl
theorem le_topN (x k : Nat) : x ≤ topN x k := by
  have := Nat.mod_lt x (two_pow_pos' k); have := Nat.mod_le x (2 ^ k); rw [topN_low, lowN_mod]; omega
theorem topN_lt (x k n : Nat) (h : x < 2 ^ n) (hk : k ≤ n) : topN x k < 2 ^ n := by
  refine Nat.lt_pow_two_of_testBit _ fun j hj => ?_
  rw [topN_testBit, Nat.testBit_lt_two_pow (Nat.lt_of_lt_of_le h (Nat.pow_le_pow_right (by omega) hj))]
  simp; omega
theorem lowN_lt (x k n : Nat) (h : x < 2 ^ n) : lowN x k < 2 ^ n := Nat.lt_of_le_of_lt (lowN_le x k) h
theorem testBit_words (h l j : Nat) (hl : l < 18446744073709551616) : (h * 18446744073709551616 + l).testBit j = if j < 64 then l.testBit j else h.testBit (j - 64) := by
  have := Nat.testBit_two_pow_mul_add (i := 64) h (b := l) hl j
  rw [Nat.mul_comm]; exact this
theorem lowN_words (h l k : Nat) (hl : l < 18446744073709551616) : lowN (h * 18446744073709551616 + l) k = lowN h (k - 64) * 18446744073709551616 + lowN l (min k 64) := by
  have hl' : lowN l (min k 64) < 18446744073709551616 := Nat.lt_of_le_of_lt (lowN_le _ _) hl
  refine Nat.eq_of_testBit_eq fun j => ?_
  rw [lowN_testBit, testBit_words _ _ _ hl, testBit_words _ _ _ hl', lowN_testBit, lowN_testBit]
  by_cases hj : j < 64
  · rw [if_pos hj, if_pos hj, show decide (k ≤ j) = decide (min k 64 ≤ j) from decide_eq_decide.2 (by omega)]
  · rw [if_neg hj, if_neg hj, show decide (k ≤ j) = decide (k - 64 ≤ j - 64) from decide_eq_decide.2 (by omega)]
theorem topN_words (h l k : Nat) (hl : l < 18446744073709551616) : topN (h * 18446744073709551616 + l) k = topN h (k - 64) * 18446744073709551616 + topN l (min k 64) := by
  have hl' : topN l (min k 64) < 18446744073709551616 := topN_lt l (min k 64) 64 hl (by omega)
  refine Nat.eq_of_testBit_eq fun j => ?_
  rw [topN_testBit, testBit_words _ _ _ hl, testBit_words _ _ _ hl', topN_testBit, topN_testBit]
  by_cases hj : j < 64
  · rw [if_pos hj, if_pos hj, show decide (j < k) = decide (j < min k 64) from decide_eq_decide.2 (by omega)]
  · rw [if_neg hj, if_neg hj, show decide (j < k) = decide (j - 64 < k - 64) from decide_eq_decide.2 (by omega)]
theorem words (x : Nat) : x = x / 18446744073709551616 * 18446744073709551616 + x % 18446744073709551616 := by omega
theorem aH_low (x k : Nat) : aH (lowN x k) = ((lowN (x / 18446744073709551616) (k - 64) : Nat) : Int) := by
  have hl : x % 18446744073709551616 < 18446744073709551616 := by omega
  have hl' : lowN (x % 18446744073709551616) (min k 64) < 18446744073709551616 := Nat.lt_of_le_of_lt (lowN_le _ _) hl
  have e := lowN_words (x / 18446744073709551616) (x % 18446744073709551616) k hl
  rw [← words x] at e
  unfold aH; rw [e]; omega
theorem aL_low (x k : Nat) : aL (lowN x k) = ((lowN (x % 18446744073709551616) (min k 64) : Nat) : Int) := by
  have hl : x % 18446744073709551616 < 18446744073709551616 := by omega
  have hl' : lowN (x % 18446744073709551616) (min k 64) < 18446744073709551616 := Nat.lt_of_le_of_lt (lowN_le _ _) hl
  have e := lowN_words (x / 18446744073709551616) (x % 18446744073709551616) k hl
  rw [← words x] at e
  unfold aL; rw [e]; omega
theorem aH_top (x k : Nat) : aH (topN x k) = ((topN (x / 18446744073709551616) (k - 64) : Nat) : Int) := by
  have hl : x % 18446744073709551616 < 18446744073709551616 := by omega
  have hl' : topN (x % 18446744073709551616) (min k 64) < 18446744073709551616 := topN_lt _ (min k 64) 64 hl (by omega)
  have e := topN_words (x / 18446744073709551616) (x % 18446744073709551616) k hl
  rw [← words x] at e
  unfold aH; rw [e]; omega
theorem aL_top (x k : Nat) : aL (topN x k) = ((topN (x % 18446744073709551616) (min k 64) : Nat) : Int) := by
  have hl : x % 18446744073709551616 < 18446744073709551616 := by omega
  have hl' : topN (x % 18446744073709551616) (min k 64) < 18446744073709551616 := topN_lt _ (min k 64) 64 hl (by omega)
  have e := topN_words (x / 18446744073709551616) (x % 18446744073709551616) k hl
  rw [← words x] at e
  unfold aL; rw [e]; omega
end Go.Proofs.Ytnpaijmibkbhfaa
