/-
  Contract of whipcordkeep.ahead.
-/
import Derived.Test.YthlkofbdfjpfpabDoorNextYes
import Derived.Test.YthlkofbdfjpfpabDoorPicked
import Derived.Test.YthlkofbdfjpfpabDoorAddrAt
import Derived.Test.YthlkofbdfjpfpabDoorAddrOf
namespace Go.Proofs.YthlkofbdfjpfpabDoor
open Go.RowKit
set_option linter.unusedVariables false
set_option linter.unusedSimpArgs false

set_option maxHeartbeats 400000 in
/-- 'ahead', where it is. -/
theorem ahead_yes (s s' : Bool) (ah al bh bl : Int) (h : ah < bh ∨ ah = bh ∧ al < bl) (w : World) :
    Calls Tryd.prog 16 #[.agg #[.bool s, .int .u64 ah, .int .u64 al], .agg #[.bool s', .int .u64 bh, .int .u64 bl]] w fun e w' => e = .returned (.bool true) ∧ (w.alloc (.cells #[.bool s, .int .u64 ah, .int .u64 al] 24)).alloc (.cells #[.bool s', .int .u64 bh, .int .u64 bl] 24) = w' := by
  rcases h with h | ⟨rfl, h⟩
  · go_enter Tryd.func16, Tryd.ntmps16
    go_wp2
    go_ret
    exact ⟨rfl, rfl⟩
  · go_enter Tryd.func16, Tryd.ntmps16
    go_wp2
    go_ret
    exact ⟨by simp [h], rfl⟩
set_option maxHeartbeats 400000 in
theorem ahead_no (s s' : Bool) (ah al bh bl : Int) (h : bh < ah ∨ ah = bh ∧ bl ≤ al) (w : World) :
    Calls Tryd.prog 16 #[.agg #[.bool s, .int .u64 ah, .int .u64 al], .agg #[.bool s', .int .u64 bh, .int .u64 bl]] w fun e w' => e = .returned (.bool false) ∧ (w.alloc (.cells #[.bool s, .int .u64 ah, .int .u64 al] 24)).alloc (.cells #[.bool s', .int .u64 bh, .int .u64 bl] 24) = w' := by
  rcases h with h | ⟨rfl, h⟩
  · have h' : ¬ ah < bh := by omega
    have h2 : (ah == bh) = false := by simp; omega
    go_enter Tryd.func16, Tryd.ntmps16
    go_wp2
    go_ret
    exact ⟨rfl, rfl⟩
  · have h' : ¬ al < bl := by omega
    go_enter Tryd.func16, Tryd.ntmps16
    go_wp2
    go_ret
    exact ⟨by simp [h'], rfl⟩

end Go.Proofs.YthlkofbdfjpfpabDoor
