/-
  table.Look; the document's preIn of a route, goes and TableLook.
-/
import Derived.Test.YtifhakoeinalaaaDoorTabN
import Derived.Test.YtifhakoeinalaaaDoorG4
namespace Go.Proofs.YtifhakoeinalaaaDoor
open Go.RowKit
set_option linter.unusedVariables false
set_option linter.unusedSimpArgs false

theorem AnsV.len {w : World} {b : Nat} {c h l : Int} (a : AnsV w b c h l) (u : Int) : AnsV (w.setCell ⟨b, 2, none⟩ (.int .i64 u)) b c h u := by
  obtain ⟨a0, a1, a2, af, az⟩ := a
  exact ⟨by simp [go_sem, a0, a1, a2], by simp [go_sem, a0, a1, a2], by simp [go_sem, a0, a1, a2], fun o => by simp only [World.frozen?_setCell]; exact af o, by simpa using az⟩
theorem bestM_take {s : Bool} {y : Nat} {l : List RT} {k : Nat} (hk : k < l.length) : bestM s y (l.take (k + 1)) = if mB s y l[k] && decide (l[k].1.2.2 > (bestM s y (l.take k)).2) then (l[k].2, l[k].1.2.2) else bestM s y (l.take k) := by
  rw [← bestM_snoc, List.take_add_one, List.getElem?_eq_getElem hk]; rfl
end Go.Proofs.YtifhakoeinalaaaDoor
