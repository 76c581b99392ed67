/-
  Neighbours of a smallest list.
-/
import Derived.Test.YtnpcofaonimpcaaDoorKeepF
namespace Go.Proofs.YtnpcofaonimpcaaDoor
open Go.RowKit
set_option linter.unusedVariables false
set_option linter.unusedSimpArgs false

/-- Neighbours of a list: one behind the other, and no halves of one. -/
def Neat (six : Bool) (l : List PT) : Prop := ∀ i (h : i + 1 < l.length), ∃ x k y j : Nat, l[i] = (six, x, ((wideN six - k : Nat) : Int)) ∧ l[i + 1] = (six, y, ((wideN six - j : Nat) : Int)) ∧ AL six x k ∧ AL six y j ∧ x + 2 ^ k ≤ y ∧ (k = j → ∀ c : Nat, comN six x (wideN six - k) y (wideN six - j) = c → ¬ (c : Int) = ((wideN six - j : Nat) : Int) - 1)
theorem neat_cn {six : Bool} {S : Nat → Prop} : Neat six (cn six S (wideN six) 0) := by
  intro i h
  have hL : i + 1 < (canon S (wideN six) 0).length := by unfold cn at h; rw [List.length_map] at h; exact h
  have al : ∀ q ∈ canon S (wideN six) 0, AL six q.1 q.2 := fun q hq => by
    obtain ⟨_, h2, h3, c, h4⟩ := canon_sub hq
    exact ⟨h3, by omega, c, by omega⟩
  have r := List.pairwise_iff_getElem.1 (canon_row (S := S) (k := wideN six) (x := 0)) i (i + 1) (by omega) hL (by omega)
  refine ⟨_, _, _, _, ?_, ?_, al _ (List.getElem_mem (show i < _ by omega)), al _ (List.getElem_mem hL), r, fun e c hc => no_sib (List.getElem_mem _) (List.getElem_mem _) (al _ (List.getElem_mem _)) (al _ (List.getElem_mem _)) r e c hc⟩
  · simp [cn, bl]
  · simp [cn, bl]
end Go.Proofs.YtnpcofaonimpcaaDoor
