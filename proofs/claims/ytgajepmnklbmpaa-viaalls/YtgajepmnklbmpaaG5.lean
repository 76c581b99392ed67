/-
  Laid together: May, PreA.
-/
import Derived.Test.YtgajepmnklbmpaaProg
import Derived.Test.YtgajepmnklbmpaaG1
/-
  Contracts of addr.May and of the document's AddrMay.
-/
namespace Go.Proofs.Ytgajepmnklbmpaa
open Go.RowKit
set_option linter.unusedVariables false
set_option linter.unusedSimpArgs false

/-- Is an address valid? -/
def mayB (six : Bool) (hi lo : Int) : Bool := six || (decide (hi = 0) && decide (lo < 4294967296))

set_option maxHeartbeats 400000 in
theorem may_calls (six : Bool) (hi lo : Int) (h0 : 0 ≤ hi) (l0 : 0 ≤ lo) (w : World) :
    Calls Try.prog 88 #[.agg #[.bool six, .int .u64 hi, .int .u64 lo]] w fun e w' => e = .returned (.bool (mayB six hi lo)) ∧ w.alloc (.cells #[.bool six, .int .u64 hi, .int .u64 lo] 61) = w' := by
  cases six
  · by_cases hz : hi = 0
    · subst hz
      by_cases hl : lo < 4294967296
      · go_enter Try.func88, Try.ntmps88
        go_wp2
        go_ret
        exact ⟨by simp [mayB, hl], rfl⟩
      · go_enter Try.func88, Try.ntmps88
        go_wp2
        go_ret
        exact ⟨by simp [mayB, hl], rfl⟩
    · have hz' : (hi == 0) = false := by simpa using hz
      go_enter Try.func88, Try.ntmps88
      go_wp2
      go_ret
      exact ⟨by simp [mayB, hz], rfl⟩
  · go_enter Try.func88, Try.ntmps88
    go_wp2
    go_ret
    exact ⟨by simp [mayB], rfl⟩

set_option maxHeartbeats 400000 in
theorem refMay_calls (six : Bool) (hi lo : Int) (h0 : 0 ≤ hi) (l0 : 0 ≤ lo) (w : World) :
    Calls Try.prog 69 #[.agg #[.bool six, .int .u64 hi, .int .u64 lo]] w fun e w' => e = .returned (.bool (mayB six hi lo)) ∧ w.alloc (.cells #[.bool six, .int .u64 hi, .int .u64 lo] 61) = w' := by
  cases six
  · by_cases hz : hi = 0
    · subst hz
      by_cases hl : lo < 4294967296
      · have hl' : lo ≤ 4294967295 := by omega
        go_enter Try.func69, Try.ntmps69
        go_wp2
        go_ret
        exact ⟨by simp [mayB, hl], rfl⟩
      · have hl' : ¬ lo ≤ 4294967295 := by omega
        go_enter Try.func69, Try.ntmps69
        go_wp2
        go_ret
        exact ⟨by simp [mayB, hl], rfl⟩
    · have hz' : (hi == 0) = false := by simpa using hz
      go_enter Try.func69, Try.ntmps69
      go_wp2
      go_ret
      exact ⟨by simp [mayB, hz], rfl⟩
  · go_enter Try.func69, Try.ntmps69
    go_wp2
    go_ret
    exact ⟨by simp [mayB], rfl⟩
end Go.Proofs.Ytgajepmnklbmpaa
/-
  Contracts of pre.width, pre.ones.
-/
namespace Go.Proofs.Ytgajepmnklbmpaa
open Go.RowKit
set_option linter.unusedVariables false
set_option linter.unusedSimpArgs false

set_option maxHeartbeats 400000 in
theorem pwidth_calls (six : Bool) (hi lo : Int) (w : World) :
    Calls Try.prog 61 #[.agg #[.bool six, .int .u64 hi, .int .u64 lo]] w fun e w' => e = .returned (.int .i64 (wideN six : Nat)) ∧ w.alloc (.cells #[.bool six, .int .u64 hi, .int .u64 lo] 61) = w' := by
  cases six
  · go_enter Try.func61, Try.ntmps61
    go_wp2
    go_ret
    exact ⟨rfl, rfl⟩
  · go_enter Try.func61, Try.ntmps61
    go_wp2
    go_ret
    exact ⟨rfl, rfl⟩

/-- A word whose last k bits are 1. -/
def mskI (k : Nat) : Int := ((2 ^ k - 1 : Nat) : Int)
theorem msk_wrap (k : Nat) (h : k ≤ 64) : IntKind.u64.wrap (IntKind.u64.wrap (2 ^ k) - 1) = mskI k := by
  have h1 : 2 ^ k ≤ 2 ^ 64 := Nat.pow_le_pow_right (by omega) h
  have h2 : 0 < 2 ^ k := Nat.two_pow_pos k
  have e : (2 : Int) ^ k = ((2 ^ k : Nat) : Int) := by simp
  rw [e, IntKind.wrap_u64, IntKind.wrap_u64]
  unfold mskI
  generalize 2 ^ k = y at *
  omega

set_option maxHeartbeats 400000 in
theorem ones_calls (m : Nat) (h1 : m ≤ 128) (w : World) :
    Calls Try.prog 87 #[.int .i64 m] w fun e w' => e = .returned (.tuple #[.int .u64 (mskI (m - 64)), .int .u64 (mskI (min m 64))]) ∧ w = w' := by
  by_cases h : 64 < m
  · go_enter Try.func87, Try.ntmps87
    go_wp2
    go_ret2
    exact ⟨ret2 (msk_wrap _ (by omega)) (by rw [Nat.min_eq_right (by omega)]; rfl), rfl⟩
  · by_cases hz : 64 = m
    · subst hz
      go_enter Try.func87, Try.ntmps87
      go_wp2
      go_ret2
      exact ⟨ret2 rfl rfl, rfl⟩
    · go_enter Try.func87, Try.ntmps87
      go_wp2
      go_ret2
      exact ⟨ret2 (by rw [show m - 64 = 0 from by omega]; rfl) (by rw [Nat.min_eq_left (by omega)]; exact msk_wrap _ (by omega)), rfl⟩

theorem wrap_nat64 (n : Nat) (h : n < 18446744073709551616) : IntKind.u64.wrap (n : Int) = (n : Int) := by rw [IntKind.wrap_u64]; omega
theorem ofInt_nat (a : Nat) : BitVec.ofInt 64 (a : Int) = BitVec.ofNat 64 a := by simp
theorem andNot_msk (a k : Nat) (ha : a < 18446744073709551616) (hk : k ≤ 64) : bits .andNot .u64 (a : Int) (mskI k) = ((lowN a k : Nat) : Int) := by
  show IntKind.u64.wrap ((BitVec.ofInt 64 (a : Int) &&& ~~~ BitVec.ofInt 64 (mskI k)).toNat : Int) = _
  unfold mskI
  rw [ofInt_nat, ofInt_nat, wrap_nat64 _ (BitVec.isLt _)]
  congr 1
  refine Nat.eq_of_testBit_eq fun j => ?_
  rw [lowN_testBit, BitVec.testBit_toNat, BitVec.getLsbD_and, BitVec.getLsbD_not, BitVec.getLsbD_ofNat, BitVec.getLsbD_ofNat, Nat.testBit_two_pow_sub_one]
  by_cases hj : j < 64
  · by_cases h : k ≤ j
    · have h2 : ¬ j < k := by omega
      simp [hj, h, h2]
    · have h2 : j < k := by omega
      simp [hj, h, h2]
  · have : a.testBit j = false := Nat.testBit_lt_two_pow (Nat.lt_of_lt_of_le ha (Nat.pow_le_pow_right (n := 2) (by omega) (show 64 ≤ j by omega)))
    simp [hj, this]
theorem or_msk (a k : Nat) (ha : a < 18446744073709551616) (hk : k ≤ 64) : bits .or .u64 (a : Int) (mskI k) = ((topN a k : Nat) : Int) := by
  show IntKind.u64.wrap ((BitVec.ofInt 64 (a : Int) ||| BitVec.ofInt 64 (mskI k)).toNat : Int) = _
  unfold mskI
  rw [ofInt_nat, ofInt_nat, wrap_nat64 _ (BitVec.isLt _)]
  congr 1
  refine Nat.eq_of_testBit_eq fun j => ?_
  rw [topN_testBit, BitVec.testBit_toNat, BitVec.getLsbD_or, BitVec.getLsbD_ofNat, BitVec.getLsbD_ofNat, Nat.testBit_two_pow_sub_one]
  by_cases hj : j < 64
  · by_cases h : j < k
    · simp [hj, h]
    · simp [hj, h]
  · have : a.testBit j = false := Nat.testBit_lt_two_pow (Nat.lt_of_lt_of_le ha (Nat.pow_le_pow_right (n := 2) (by omega) (show 64 ≤ j by omega)))
    have h2 : ¬ j < k := by omega
    simp [hj, this, h2]
theorem aH_andNot (x m : Nat) (hx : x < 2 ^ 128) (hm : m ≤ 128) : bits .andNot .u64 (aH x) (mskI (m - 64)) = aH (lowN x m) := by
  rw [aH_low]; exact andNot_msk _ _ (by omega) (by omega)
theorem aL_andNot (x m : Nat) : bits .andNot .u64 (aL x) (mskI (min m 64)) = aL (lowN x m) := by
  rw [aL_low]; exact andNot_msk _ _ (by omega) (by omega)
theorem aH_or (x m : Nat) (hx : x < 2 ^ 128) (hm : m ≤ 128) : bits .or .u64 (aH x) (mskI (m - 64)) = aH (topN x m) := by
  rw [aH_top]; exact or_msk _ _ (by omega) (by omega)
theorem aL_or (x m : Nat) : bits .or .u64 (aL x) (mskI (min m 64)) = aL (topN x m) := by
  rw [aL_top]; exact or_msk _ _ (by omega) (by omega)

set_option maxHeartbeats 400000 in
theorem start_calls (six : Bool) (x n : Nat) (hx : x < 2 ^ 128) (hn : n ≤ wideN six) (w : World) :
    Calls Try.prog 59 #[.agg #[.bool six, .int .u64 (aH x), .int .u64 (aL x)], .int .i64 n] w fun e w' => e = .returned (.agg #[.bool six, .int .u64 (aH (lowN x (wideN six - n))), .int .u64 (aL (lowN x (wideN six - n)))]) ∧ ((w.alloc (.cells #[.bool six, .int .u64 (aH (lowN x (wideN six - n))), .int .u64 (aL (lowN x (wideN six - n)))] 61)).alloc (.cells #[.bool six, .int .u64 (aH (lowN x (wideN six - n))), .int .u64 (aL (lowN x (wideN six - n)))] 61)).alloc (.cells #[.bool six, .int .u64 (aH x), .int .u64 (aL x)] 61) = w' := by
  have hw := wideN_le six
  obtain ⟨m, hm⟩ : ∃ m, wideN six - n = m := ⟨_, rfl⟩
  have e : ((wideN six : Nat) : Int) - (n : Int) = (m : Int) := by omega
  have m1 : m ≤ 128 := by omega
  rw [hm]
  have E := Lib.hid e
  clear e hm
  go_enter Try.func59, Try.ntmps59
  go_wp2_with fail
  refine (pwidth_calls six _ _ _).mono ?_
  rintro e w1 ⟨rfl, rfl⟩
  go_wp2_with fail
  rw [E.out]
  refine (ones_calls m m1 _).mono ?_
  rintro e w1 ⟨rfl, rfl⟩
  go_wp2
  go_returns
  rw [aH_andNot x m hx m1, aL_andNot]
  exact ⟨rfl, rfl⟩
end Go.Proofs.Ytgajepmnklbmpaa
