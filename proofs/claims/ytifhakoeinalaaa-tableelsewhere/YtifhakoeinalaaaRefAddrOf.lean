/-
  The contract of the document's addrOf.
-/
import Derived.Test.YtifhakoeinalaaaBitsOf
namespace Go.Proofs.Ytifhakoeinalaaa
open Go.RowKit
set_option linter.unusedVariables false
set_option linter.unusedSimpArgs false

theorem two_alloc {w : World} {g k : Nat} {u : Value} (hg : g < w.heap.size) (h : w.cell? ⟨g, k, none⟩ = some u) (o1 o2 : Obj) : ((w.alloc o1).alloc o2).cell? ⟨g, k, none⟩ = some u := by
  rw [World.cell?_alloc_lt _ _ _ (by simp; omega), World.cell?_alloc_lt _ _ _ hg]; exact h

end Go.Proofs.Ytifhakoeinalaaa
