/-
  Contracts of addr.May and of the document's AddrMay.
-/
import Derived.Test.YtnpaijmibkbhfaaProg
import Derived.Test.YtnpaijmibkbhfaaBase
namespace Go.Proofs.Ytnpaijmibkbhfaa
open Go.RowKit
set_option linter.unusedVariables false
set_option linter.unusedSimpArgs false

/-- Is an address valid? -/
def mayB (six : Bool) (hi lo : Int) : Bool := six || (decide (hi = 0) && decide (lo < 4294967296))

set_option maxHeartbeats 400000 in
theorem may_calls (six : Bool) (hi lo : Int) (h0 : 0 ≤ hi) (l0 : 0 ≤ lo) (w : World) :
    Calls Try.prog 70 #[.agg #[.bool six, .int .u64 hi, .int .u64 lo]] w fun e w' => e = .returned (.bool (mayB six hi lo)) ∧ w.alloc (.cells #[.bool six, .int .u64 hi, .int .u64 lo] 24) = w' := by
  cases six
  · by_cases hz : hi = 0
    · subst hz
      by_cases hl : lo < 4294967296
      · go_enter Try.func70, Try.ntmps70
        go_wp2
        go_ret
        exact ⟨by simp [mayB, hl], rfl⟩
      · go_enter Try.func70, Try.ntmps70
        go_wp2
        go_ret
        exact ⟨by simp [mayB, hl], rfl⟩
    · have hz' : (hi == 0) = false := by simpa using hz
      go_enter Try.func70, Try.ntmps70
      go_wp2
      go_ret
      exact ⟨by simp [mayB, hz], rfl⟩
  · go_enter Try.func70, Try.ntmps70
    go_wp2
    go_ret
    exact ⟨by simp [mayB], rfl⟩

set_option maxHeartbeats 400000 in
theorem refMay_calls (six : Bool) (hi lo : Int) (h0 : 0 ≤ hi) (l0 : 0 ≤ lo) (w : World) :
    Calls Try.prog 71 #[.agg #[.bool six, .int .u64 hi, .int .u64 lo]] w fun e w' => e = .returned (.bool (mayB six hi lo)) ∧ w.alloc (.cells #[.bool six, .int .u64 hi, .int .u64 lo] 24) = w' := by
  cases six
  · by_cases hz : hi = 0
    · subst hz
      by_cases hl : lo < 4294967296
      · have hl' : lo ≤ 4294967295 := by omega
        go_enter Try.func71, Try.ntmps71
        go_wp2
        go_ret
        exact ⟨by simp [mayB, hl], rfl⟩
      · have hl' : ¬ lo ≤ 4294967295 := by omega
        go_enter Try.func71, Try.ntmps71
        go_wp2
        go_ret
        exact ⟨by simp [mayB, hl], rfl⟩
    · have hz' : (hi == 0) = false := by simpa using hz
      go_enter Try.func71, Try.ntmps71
      go_wp2
      go_ret
      exact ⟨by simp [mayB, hz], rfl⟩
  · go_enter Try.func71, Try.ntmps71
    go_wp2
    go_ret
    exact ⟨by simp [mayB], rfl⟩
end Go.Proofs.Ytnpaijmibkbhfaa
