/-
  The parts of a row of acts: a part is a row; all parts in their order are the whole.
-/
import Derived.Test.YtnpaijmibkbhfaaDChunkA
import Derived.Test.YtnpaijmibkbhfaaDChunkM
namespace Go.Proofs.Ytnpaijmibkbhfaa
open Go.RowKit
set_option linter.unusedVariables false
set_option linter.unusedSimpArgs false
/-- The x-th part of forty acts. -/
def partA (P : List ActT) (x : Nat) : List ActT := (P.drop (x * 40)).take 40
theorem partA_len (P : List ActT) (x : Nat) : (partA P x).length = min 40 (P.length - x * 40) := by rw [partA, List.length_take, List.length_drop]
theorem part_row {w : World} {g o c : Nat} {P : List ActT} {x : Nat} (r : RowA w (.slice (some ⟨g, o, none⟩) P.length c) P) (hx : x * 40 < P.length) : RowA w (partV g o P.length x) (partA P x) := by
  rcases r with ⟨e0, _⟩ | ⟨g', o', c', e, hg, hc, hr⟩
  · rw [e0] at hx; simp at hx
  · cases e
    refine .inr ⟨g, o + x * 360, min 40 (P.length - x * 40), by rw [partA_len]; rfl, hg, by rw [partA_len]; exact Nat.le_refl _, fun i hi => ?_⟩
    have hl : i < 40 ∧ x * 40 + i < P.length := by rw [partA_len] at hi; omega
    have h2 := hr (x * 40 + i) hl.2
    have e1 : (partA P x)[i] = P[x * 40 + i]'hl.2 := by simp [partA]
    have e2 : o + x * 360 + i * 9 = o + (x * 40 + i) * 9 := by omega
    rw [e1, e2]; exact h2
theorem partA_words {P : List ActT} (h : WordsA P) (x : Nat) : WordsA (partA P x) := fun a ha => h a (List.mem_of_mem_drop (List.mem_of_mem_take ha))
/-- The parts of a list of numbers, one behind the other. -/
def ptA (P : List ActT) (l : List Nat) : List ActT := (l.map (partA P)).flatten
theorem ptA_snoc (P : List ActT) (l : List Nat) (x : Nat) : ptA P (l ++ [x]) = ptA P l ++ partA P x := by simp [ptA]
theorem ptA_range (P : List ActT) : ∀ j, ptA P (List.range j) = P.take (j * 40)
  | 0 => by simp [ptA]
  | j + 1 => by
    rw [List.range_succ, ptA_snoc, ptA_range P j, partA, show (j + 1) * 40 = j * 40 + 40 by omega, List.take_add]
theorem ptA_all (P : List ActT) {K : Nat} (hK : K = (P.length + 39) / 40) : ptA P (List.range K) = P := by
  rw [ptA_range]; exact List.take_of_length_le (by omega)
/-- The first parts went wrong: so went all. -/
theorem ptA_bad {S : List RT} {P : List ActT} {j : Nat} (h : appE S (ptA P (List.range j)) ≠ 0) : appE S P = appE S (ptA P (List.range j)) := by
  rw [ptA_range] at h ⊢
  have e : P = P.take (j * 40) ++ P.drop (j * 40) := (List.take_append_drop _ _).symm
  have h3 : appE S P = appE S (P.take (j * 40) ++ P.drop (j * 40)) := congrArg _ e
  rw [h3]; exact appE_bad _ _ _ h
end Go.Proofs.Ytnpaijmibkbhfaa
