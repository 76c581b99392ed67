/-
  addr.Next where it answers an address, and where it does not.
-/
import Derived.Test.YtmjlmfbceccjdaaNext
namespace Go.Proofs.Ytmjlmfbceccjdaa
open Go.RowKit
set_option linter.unusedVariables false
set_option linter.unusedSimpArgs false

/-- addr.Next, where there is such an address. -/
theorem next_yes (six : Bool) (hi lo by' h2 l2 : Int) (h0 : 0 ≤ hi) (h1 : hi ≤ 18446744073709551615) (l0 : 0 ≤ lo) (l1 : lo ≤ 18446744073709551615) (hok : nextOk six hi lo by' = true) (e1 : numN hi lo by' / 18446744073709551616 = h2) (e2 : numN hi lo by' % 18446744073709551616 = l2) (w : World) :
    Calls Try.prog 71 #[.agg #[.bool six, .int .u64 hi, .int .u64 lo], .int .i64 by'] w fun e w' => e = .returned (.tuple #[.agg #[.bool six, .int .u64 h2, .int .u64 l2], .int .i64 0]) ∧ Below w.heap.size w w' := by
  have h := next_calls six hi lo by' h0 h1 l0 l1 w
  simp only [nextS, nextH, nextL, nextE, hok, if_true, Bool.true_and, e1, e2] at h
  exact h
/-- addr.Next, where there is none. -/
theorem next_none (six : Bool) (hi lo by' : Int) (h0 : 0 ≤ hi) (h1 : hi ≤ 18446744073709551615) (l0 : 0 ≤ lo) (l1 : lo ≤ 18446744073709551615) (hm : mayB six hi lo = true) (hok : nextOk six hi lo by' = false) (w : World) :
    Calls Try.prog 71 #[.agg #[.bool six, .int .u64 hi, .int .u64 lo], .int .i64 by'] w fun e w' => e = .returned (.tuple #[.agg #[.bool false, .int .u64 0, .int .u64 0], .int .i64 2]) ∧ Below w.heap.size w w' := by
  have h := next_calls six hi lo by' h0 h1 l0 l1 w
  simp only [nextS, nextH, nextL, nextE, hok, hm, if_true, Bool.false_and, Bool.false_eq_true, if_false] at h
  exact h

theorem may_iff (six : Bool) (hi lo : Int) (h0 : 0 ≤ hi) (l0 : 0 ≤ lo) (l1 : lo ≤ 18446744073709551615) (h1 : hi ≤ 18446744073709551615) : mayB six hi lo = true ↔ hi * 18446744073709551616 + lo < limN six := by
  cases six
  · simp [mayB, limN]; omega
  · simp [mayB, limN]; omega
theorem nextOk_iff (six : Bool) (hi lo by' : Int) (hm : mayB six hi lo = true) : nextOk six hi lo by' = true ↔ (-1099511627776 ≤ by' ∧ by' ≤ 1099511627776) ∧ 0 ≤ numN hi lo by' ∧ numN hi lo by' < limN six := by
  simp [nextOk, hm]
end Go.Proofs.Ytmjlmfbceccjdaa
