/-
  fewest.check.
-/
import Derived.Test.YtgajepmnklbmpaaAnyR
import Derived.Test.YtgajepmnklbmpaaG9
import Derived.Test.YtgajepmnklbmpaaTabH
import Derived.Test.YtgajepmnklbmpaaG5
namespace Go.Proofs.Ytgajepmnklbmpaa
open Go.RowKit
set_option linter.unusedVariables false
set_option linter.unusedSimpArgs false
/-- The error of a table that is to be compressed. -/
def fwE (l : List RT) : Int := if tabE l = 0 then (if (l.any fun r => r.1.1) = true then 6 else if (l.any fun r => decide (r.1 = (false, 0, 0))) = true then 0 else 7) else tabE l
theorem fck1_calls (r : RT) (w : World) :
    Calls Try.prog 43 #[.agg #[.bool r.1.1, .int .u64 (aH r.1.2.1), .int .u64 (aL r.1.2.1), .int .i64 r.1.2.2, .int .i64 r.2]] w fun e w' => e = .returned (.bool r.1.1) ∧ Below w.heap.size w w' := by
  have b1 := (Below.refl w.heap.size w).alloc (Nat.le_refl _) (.cells #[.bool r.1.1, .int .u64 (aH r.1.2.1), .int .u64 (aL r.1.2.1), .int .i64 r.1.2.2, .int .i64 r.2] 66)
  go_enter Try.func43, Try.ntmps43
  go_wp2
  go_ret
  exact ⟨rfl, b1⟩
set_option maxHeartbeats 1000000 in
theorem fck2_calls (r : RT) (w : World) :
    Calls Try.prog 44 #[.agg #[.bool r.1.1, .int .u64 (aH r.1.2.1), .int .u64 (aL r.1.2.1), .int .i64 r.1.2.2, .int .i64 r.2]] w fun e w' => e = .returned (.bool (decide (r.1 = (false, 0, 0)))) ∧ Below w.heap.size w w' := by
  have b1 := (Below.refl w.heap.size w).alloc (Nat.le_refl _) (.cells #[.bool r.1.1, .int .u64 (aH r.1.2.1), .int .u64 (aL r.1.2.1), .int .i64 r.1.2.2, .int .i64 r.2] 66)
  have a0 : aH 0 = 0 := by unfold aH; simp
  have l0 : aL 0 = 0 := by unfold aL; simp
  obtain ⟨p, h⟩ := r
  simp only at b1 ⊢
  rcases pk_cases p (false, 0, 0) with e | e | ⟨e1, e⟩ | ⟨e1, e2, e⟩ | ⟨e1, e2, e3, e⟩
  · subst e
    simp only [a0, l0] at b1 ⊢
    go_enter Try.func44, Try.ntmps44
    go_wp2
    go_ret
    exact ⟨by simp, b1⟩
  all_goals
    have hd : decide (p = (false, 0, 0)) = false := decide_eq_false fun h => by rw [h] at e; simp at e
    rw [hd]
    simp only [a0, l0] at e
    try simp only [a0] at e2
    try simp only [l0] at e3
    try rw [e1] at b1 ⊢
    try rw [e2] at b1 ⊢
    try rw [e3] at b1 ⊢
    clear hd
    go_enter Try.func44, Try.ntmps44
    go_wp2
    go_ret
    exact ⟨by simp, b1⟩
end Go.Proofs.Ytgajepmnklbmpaa
