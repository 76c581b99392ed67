/-
  table.Check; the document's TableFault.
-/
import Derived.Test.YtifhakoeinalaaaTabG
import Derived.Test.YtifhakoeinalaaaRefFault
namespace Go.Proofs.Ytifhakoeinalaaa
open Go.RowKit
set_option linter.unusedVariables false
set_option linter.unusedSimpArgs false

theorem hasR_foldl (l : List RT) : ∀ (s : List RT) (p : PK), hasR (l.foldl insR s) p = (hasR s p || hasR l p) := by
  induction l with
  | nil => intro s p; simp [hasR]
  | cons r t ih =>
    intro s p
    rw [List.foldl_cons, ih, hasR_ins]
    simp only [hasR, List.any_cons]
    cases decide (r.1 = p) <;> cases (s.any fun r => decide (r.1 = p)) <;> rfl
theorem hasR_srt (l : List RT) (p : PK) : hasR (srt l) p = hasR l p := by
  unfold srt; rw [hasR_foldl]; simp [hasR]
theorem hasR_take {l : List RT} {k : Nat} {p : PK} (hk : k ≤ l.length) : hasR (l.take k) p = true ↔ ∃ j, ∃ h : j < l.length, j < k ∧ l[j].1 = p := by
  simp only [hasR, List.any_eq_true, decide_eq_true_eq]
  constructor
  · rintro ⟨x, hx, e⟩
    obtain ⟨j, hj, rfl⟩ := List.getElem_of_mem hx
    rw [List.length_take] at hj
    rw [List.getElem_take] at e
    exact ⟨j, by omega, by omega, e⟩
  · rintro ⟨j, h, hjk, e⟩
    exact ⟨l[j], List.mem_take_iff_getElem.2 ⟨j, by omega, rfl⟩, e⟩
/-- Two prefixes are the same, or differ in a cell. -/
theorem pk_cases (p q : PK) : p = q ∨ (p.1 == q.1) = false ∨ p.1 = q.1 ∧ (aH p.2.1 == aH q.2.1) = false ∨ p.1 = q.1 ∧ aH p.2.1 = aH q.2.1 ∧ (aL p.2.1 == aL q.2.1) = false ∨ p.1 = q.1 ∧ aH p.2.1 = aH q.2.1 ∧ aL p.2.1 = aL q.2.1 ∧ (p.2.2 == q.2.2) = false := by
  obtain ⟨s, x, n⟩ := p
  obtain ⟨t, y, m⟩ := q
  simp only [beq_eq_false_iff_ne, ne_eq, Prod.mk.injEq]
  by_cases h1 : s = t
  · by_cases h2 : aH x = aH y
    · by_cases h3 : aL x = aL y
      · by_cases h4 : n = m
        · exact .inl ⟨h1, a_inj h2 h3, h4⟩
        · exact .inr (.inr (.inr (.inr ⟨h1, h2, h3, h4⟩)))
      · exact .inr (.inr (.inr (.inl ⟨h1, h2, h3⟩)))
    · exact .inr (.inr (.inl ⟨h1, h2⟩))
  · exact .inr (.inl h1)
end Go.Proofs.Ytifhakoeinalaaa
