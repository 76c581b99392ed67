import Derived.Test.YtojdlhiibffnfabDoorRefFour
import Derived.Test.YtojdlhiibffnfabDoorRefSixW
import Derived.Test.YtojdlhiibffnfabDoorText
namespace Go.Proofs.YtojdlhiibffnfabDoor
open Go.RowKit Go.Sort
set_option linter.unusedVariables false
set_option linter.unusedSimpArgs false

set_option maxHeartbeats 400000 in
theorem refText_no (hi lo : Int) (h0 : 0 ≤ hi) (l0 : 0 ≤ lo) (hm : ¬ (hi = 0 ∧ lo < 4294967296)) (w : World) :
    Calls Tryd.prog 13 #[.agg #[.bool false, .int .u64 hi, .int .u64 lo]] w fun e w' => e = .returned (.tuple #[.string ⟨#[]⟩, .int .i64 4]) ∧ Below w.heap.size w w' := by
  by_cases hz : hi = 0
  · subst hz
    have hl : ¬ lo ≤ 4294967295 := fun h => hm ⟨rfl, by omega⟩
    clear hm
    go_enter Tryd.func13, Tryd.ntmps13
    go_wp2_with (first | (go_at_call 24; go_in))
    go_ret2
    exact ⟨rfl, by go_grown⟩
  · have hz' : (hi == 0) = false := by simpa using hz
    clear hm
    go_enter Tryd.func13, Tryd.ntmps13
    go_wp2_with (first | (go_at_call 24; go_in))
    go_ret2
    exact ⟨rfl, by go_grown⟩

theorem refText_calls (six : Bool) (H L : Nat) (h1 : H < 18446744073709551616) (l1 : L < 18446744073709551616) (w : World) :
    Calls Tryd.prog 13 #[.agg #[.bool six, .int .u64 (H : Int), .int .u64 (L : Int)]] w fun e w' => e = .returned (.tuple #[.string ⟨(textL six H L).toArray⟩, .int .i64 (textE six H L)]) ∧ Below w.heap.size w w' := by
  cases six
  · by_cases hm : H = 0 ∧ L < 4294967296
    · have e1 : textL false H L = Lib.join (fourT L) [46] := by simp [textL, hm]
      have e2 : textE false H L = 0 := by simp [textE, hm]
      rw [e1, e2]
      obtain ⟨rfl, hl⟩ := hm
      exact refText_four L hl w
    · have e1 : textL false H L = [] := by unfold textL; rw [if_neg (by decide), if_neg hm]
      have e2 : textE false H L = 4 := by unfold textE; rw [if_neg (by decide), if_neg hm]
      rw [e1, e2]
      exact refText_no H L (by omega) (by omega) (by omega) w
  · exact refText_six H L h1 l1 w
end Go.Proofs.YtojdlhiibffnfabDoor
