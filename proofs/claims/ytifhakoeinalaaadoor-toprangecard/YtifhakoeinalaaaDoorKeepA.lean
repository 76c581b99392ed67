/-
  Contracts of whipcordkeep's helpers: AddrOf and addr.Next by the number, preSure, copiedPres, samePres.
-/
import Derived.Test.YtifhakoeinalaaaDoorG4
import Derived.Test.YtifhakoeinalaaaDoorNextYes
import Derived.Test.YtifhakoeinalaaaDoorG3
import Derived.Test.YtifhakoeinalaaaDoorG2
import Derived.Test.YtifhakoeinalaaaDoorAppTwo
import Derived.Test.YtifhakoeinalaaaDoorG5
namespace Go.Proofs.YtifhakoeinalaaaDoor
open Go.RowKit
set_option linter.unusedVariables false
set_option linter.unusedSimpArgs false

/-- The number of the address that AddrOf makes. -/
def numR (six : Bool) (hi lo : Int) : Nat := numA (ofH six hi) (ofL six lo)
theorem numR_lt (six : Bool) (hi lo : Int) (h0 : 0 ≤ hi) (h1 : hi ≤ 18446744073709551615) (l0 : 0 ≤ lo) (l1 : lo ≤ 18446744073709551615) : numR six hi lo < 2 ^ wideN six := by
  unfold numR numA
  cases six
  · simp [ofH, ofL, wideN]; omega
  · simp [ofH, ofL, wideN]; omega
theorem sureHas (w : World) :
    Calls Tryd.prog 10 #[.agg #[.bool false, .int .u64 0, .int .u64 16, .int .i64 28], .agg #[.bool false, .int .u64 0, .int .u64 17]] w fun e w' => e = .returned (.tuple #[.bool true, .int .i64 0]) ∧ Below w.heap.size w w' :=
  has_ok false 16 17 28 16 true (by decide) (by decide) (by decide) (by decide) (by decide) (by decide) (by decide) w
/-- addr.Next by the number. -/
theorem next_num (six : Bool) (x y : Nat) (by' : Int) (hx : x < 2 ^ wideN six) (hy : y < 2 ^ wideN six) (b0 : -1099511627776 ≤ by') (b1 : by' ≤ 1099511627776) (h : (x : Int) + by' = y) (w : World) :
    Calls Tryd.prog 11 #[.agg #[.bool six, .int .u64 (aH x), .int .u64 (aL x)], .int .i64 by'] w fun e w' => e = .returned (.tuple #[.agg #[.bool six, .int .u64 (aH y), .int .u64 (aL y)], .int .i64 0]) ∧ Below w.heap.size w w' := by
  have hx' := lt128 hx
  have hn : numN (aH x) (aL x) by' = (y : Int) := by unfold numN aH aL; omega
  have hm : mayB six (aH x) (aL x) = true := (mayB_num six x hx').trans (decide_eq_true hx)
  have hl : limN six = ((2 ^ wideN six : Nat) : Int) := by cases six <;> rfl
  have hok : nextOk six (aH x) (aL x) by' = true := by
    rw [nextOk_iff six _ _ _ hm, hn, hl]
    exact ⟨⟨b0, b1⟩, by omega, by exact_mod_cast hy⟩
  exact next_yes six (aH x) (aL x) by' (aH y) (aL y) (aH_0 x) (aH_1 x hx') (aL_0 x) (aL_1 x) hok (by rw [hn]; unfold aH; omega) (by rw [hn]; unfold aL; omega) w
/-- .. where there is none. -/
theorem next_num_none (six : Bool) (x : Nat) (by' : Int) (hx : x < 2 ^ wideN six) (h : (x : Int) + by' < 0 ∨ ((2 ^ wideN six : Nat) : Int) ≤ (x : Int) + by') (w : World) :
    Calls Tryd.prog 11 #[.agg #[.bool six, .int .u64 (aH x), .int .u64 (aL x)], .int .i64 by'] w fun e w' => e = .returned (.tuple #[.agg #[.bool false, .int .u64 0, .int .u64 0], .int .i64 2]) ∧ Below w.heap.size w w' := by
  have hx' := lt128 hx
  have hn : numN (aH x) (aL x) by' = (x : Int) + by' := by unfold numN aH aL; omega
  have hm : mayB six (aH x) (aL x) = true := (mayB_num six x hx').trans (decide_eq_true hx)
  have hl : limN six = ((2 ^ wideN six : Nat) : Int) := by cases six <;> rfl
  have hok : nextOk six (aH x) (aL x) by' = false := by
    rw [Bool.eq_false_iff]
    intro hc
    rw [nextOk_iff six _ _ _ hm, hn, hl] at hc
    omega
  exact next_none six (aH x) (aL x) by' (aH_0 x) (aH_1 x hx') (aL_0 x) (aL_1 x) hm hok w

end Go.Proofs.YtifhakoeinalaaaDoor
