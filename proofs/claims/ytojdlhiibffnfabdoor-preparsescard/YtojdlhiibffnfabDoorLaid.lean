/-
  A world in which the listed tables lie as the rows list them, and what a walk has of the rows' condition.
-/
import Derived.Test.YtojdlhiibffnfabDoorCards
import Derived.Test.YtojdlhiibffnfabDoorTie
import Derived.Test.YtojdlhiibffnfabDoorTextBase
import Derived.Lib.LaidTab
import Derived.ChangeSame
import Derived.ChangeVars
import Derived.JoinedOf
import Derived.RowKit
import Derived.LaidLaws
import Derived.LaidHandle
import Derived.MakeChecks
import Derived.Stop.Joined
import Derived.Stop.LaidErr
namespace Go.Proofs.YtojdlhiibffnfabDoor
open Go.RowKit

/-- The cells of a table that is listed as integers. -/
def cellsIn : DataW Unit → Array Value
  | .agg ds => (ds.map fun | .lit (.int k z) => Value.int k z | _ => .bool false).toArray
  | _ => #[]
def putCells (h : Array Obj) (g : Nat) (cs : Array Value) : Array Obj := h.modify g fun
  | .cells _ t frozen => .cells cs t frozen
  | o => o

theorem Tabs.of_laid {rest : List (String × DataW Unit)} {x : String × DataW Unit} {W : World}
    (h : laidMet Tryd.prog (x :: ("math/bits.deBruijn64tab", Rows.laid_math_bits_deBruijn64tab) :: ("internal/strconv.uint64pow10", Rows.laid_internal_strconv_uint64pow10) :: rest) W) : Tabs W := by
  have a : Lib.TabIs Tryd.prog W "math/bits.deBruijn64tab" .u8 tab64 := Lib.tabIs_of_head (g := 5) (t := 129) (e := 5) (n := 64) (by kernel_rfl) (by kernel_rfl) (by kernel_rfl) (by kernel_rfl) (by kernel_rfl) (by kernel_rfl) h.tail
  have b : Lib.TabIs Tryd.prog W "internal/strconv.uint64pow10" .u64 Lib.pow10Tab := Lib.tabIs_of_head (g := 3) (t := 114) (e := 22) (n := 20) (by kernel_rfl) (by kernel_rfl) (by kernel_rfl) (by kernel_rfl) (by kernel_rfl) (by kernel_rfl) h.tail.tail
  have sz : ∀ n g cs, Tryd.prog.globalNamed n = some g → W.var? Tryd.prog n = some cs → g < W.heap.size := fun n g cs hg hv => by
    unfold World.var? at hv
    simp only [hg, Option.bind_some] at hv
    by_cases hlt : g < W.heap.size
    · exact hlt
    · simp [Array.getElem?_eq_none (Nat.le_of_not_lt hlt)] at hv
  exact ⟨a, b, sz _ _ _ deBruijn_at a, sz _ _ _ pow10_at b⟩
end Go.Proofs.YtojdlhiibffnfabDoor
