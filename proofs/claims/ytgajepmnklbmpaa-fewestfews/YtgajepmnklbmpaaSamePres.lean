/-
  The law's samePres of two lists of prefixes that are the same.
-/
import Derived.Test.YtgajepmnklbmpaaG15
import Derived.Test.YtgajepmnklbmpaaG10
namespace Go.Proofs.Ytgajepmnklbmpaa
open Go.RowKit
set_option linter.unusedVariables false
set_option linter.unusedSimpArgs false

/-- A list of prefixes that can be read: its k-th one lies there. -/
theorem owned_at {w : World} {base g cap n : Nat} {l : List PT} (h : Owned w base (.slice (some ⟨g, 0, none⟩) n cap) l) (hn : n = l.length) (k : Nat) (hk : k < l.length) :
    w.cell? ⟨g, k * 4, none⟩ = some (.bool (l[k]'hk).1) ∧ w.cell? ⟨g, k * 4 + 1, none⟩ = some (.int .u64 (aH (l[k]'hk).2.1)) ∧ w.cell? ⟨g, k * 4 + 2, none⟩ = some (.int .u64 (aL (l[k]'hk).2.1)) ∧ w.cell? ⟨g, k * 4 + 3, none⟩ = some (.int .i64 (l[k]'hk).2.2) := by
  subst hn
  have key : ∀ (m : List PT) (k : Nat) (hk : k < m.length) (j : Nat) (hj : j < 4), (pRow m)[k * 4 + j]? = (pcs (m[k]'hk))[j]? := by
    intro m
    induction m with
    | nil => intro k hk; cases hk
    | cons p m ih =>
      intro k hk j hj
      show (pcs p ++ pRow m)[k * 4 + j]? = _
      cases k with
      | zero => rw [List.getElem?_append_left (by simp [pcs]; omega)]; simp
      | succ k =>
        rw [List.getElem?_append_right (by simp [pcs]; omega), show (k + 1) * 4 + j - (pcs p).length = k * 4 + j by simp [pcs]; omega]
        exact ih k (by simpa using hk) j hj
  have c : ∀ j, j < 4 → w.cell? ⟨g, k * 4 + j, none⟩ = (pcs (l[k]'hk))[j]? := fun j hj => by
    rw [h.cellAt (k * 4 + j) (by omega), key l k hk j hj]
  exact ⟨c 0 (by omega), c 1 (by omega), c 2 (by omega), c 3 (by omega)⟩
end Go.Proofs.Ytgajepmnklbmpaa
