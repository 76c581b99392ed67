/-
  A byte of a text.
-/
import Derived.Test.YtojdlhiibffnfabDoorProg
import Derived.Test.YtojdlhiibffnfabDoorBase
namespace Go.Proofs.YtojdlhiibffnfabDoor
open Go.RowKit Go.Sort
set_option linter.unusedVariables false
set_option linter.unusedSimpArgs false

theorem index_list (T : List UInt8) (k : Nat) (h : k < T.length) (W : World) :
    (Instr.index 9 (.string ⟨T.toArray⟩) (.int .i64 (k : Int))).run Tryd.prog W = .ok (.int .u8 ((T[k].toNat : Nat) : Int)) W := by
  have hs : (⟨T.toArray⟩ : ByteArray).size = T.length := by simp [ByteArray.size]
  rw [run_index_string (h := Tryd.underlying9), dif_pos ⟨by omega, by omega⟩]
  rfl

end Go.Proofs.YtojdlhiibffnfabDoor
