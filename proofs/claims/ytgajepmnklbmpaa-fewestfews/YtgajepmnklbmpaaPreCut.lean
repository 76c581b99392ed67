/-
  Contract of pre.cut.
-/
import Derived.Test.YtgajepmnklbmpaaG3
namespace Go.Proofs.Ytgajepmnklbmpaa
open Go.RowKit
set_option linter.unusedVariables false
set_option linter.unusedSimpArgs false

set_option maxHeartbeats 400000 in
theorem pcut_calls (six : Bool) (x n : Nat) (hx : x < 2 ^ 128) (hn : n ≤ wideN six) (w : World) :
    Calls Try.prog 62 #[.agg #[.bool six, .int .u64 (aH x), .int .u64 (aL x)], .int .i64 n] w fun e w' => e = .returned (.agg #[.bool six, .int .u64 (aH (lowN x (wideN six - n))), .int .u64 (aL (lowN x (wideN six - n))), .int .i64 n]) ∧ Below w.heap.size w w' := by
  go_enter Try.func62, Try.ntmps62
  go_wp2_with fail
  refine (start_calls six x n hx hn _).mono ?_
  rintro e w1 ⟨rfl, rfl⟩
  go_wp2
  go_returns
  exact ⟨rfl, by go_grown⟩

end Go.Proofs.Ytgajepmnklbmpaa
