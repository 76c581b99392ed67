/-
  A row of acts of one's own: one act in a block, and that it is no row of routes.
-/
import Derived.Test.YtmjlmfbceccjdaaG8
import Derived.Deep.CutRange
import Derived.Deep.DeepCutAuto
namespace Go.Proofs.Ytmjlmfbceccjdaa
open Go.ChangeShapes Go.WideShapes Go.ChangeAt Go.RowKit Go.Joins
set_option linter.unusedSimpArgs false
set_option linter.unusedVariables false
/-- One act in a block of its own. -/
theorem own_act (W : World) (a : ActT) : (W.alloc (objA a)).ownsRow W.heap.size 34 9 (.slice (some ⟨W.heap.size, 0, none⟩) 1 1) 1 (acs a) :=
  ⟨rfl, .inr ⟨W.heap.size, 1, (acs a).toArray, rfl, Nat.le_refl _, _root_.Go.heap_alloc_new W _, Nat.le_refl _, by unfold maxLen; omega, rfl, rfl⟩⟩
theorem ownA_notR {w : World} {base k : Nat} {v : Value} {l : List ActT} (h : OwnA w base v l) (e : v.ownBlock = some k) : NotR w k := by
  rcases h.2 with ⟨rfl, _⟩ | ⟨g, cap, cur, rfl, _, hg, _⟩
  · simp [Value.ownBlock] at e
  · simp only [Value.ownBlock, Option.some.injEq] at e
    subst e
    intro c he
    rw [hg] at he
    simp only [Option.some.injEq, Obj.cells.injEq] at he
    exact absurd he.2.1 (by decide)
theorem ownA_ne {w : World} {base base' : Nat} {v t : Value} {l : List ActT} {L : List RT} (h : OwnA w base v l) (o : OwnR w base' t L) : t.ownBlock = none ∨ t.ownBlock ≠ v.ownBlock := by
  cases hv : v.ownBlock with
  | none => cases t.ownBlock <;> simp
  | some k => exact .inr ((ownA_notR h hv).ne o)
end Go.Proofs.Ytmjlmfbceccjdaa
