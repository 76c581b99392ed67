/-
  Plain mathematics: what a new route changes.
-/
import Derived.Test.YtifhakoeinalaaaTLongM
namespace Go.Proofs.Ytifhakoeinalaaa
open Go.RowKit
set_option linter.unusedVariables false
set_option linter.unusedSimpArgs false
theorem mB_key (s : Bool) (y : Nat) (p : PK) (h h' : Int) : mB s y (p, h) = mB s y (p, h') := rfl
theorem else_best {L : List RT} (I : InvR L) {z : PK} {h : Int} (hz : putE L (z, h) = 0) (hc : chkE z.1 z.2.1 z.2.2 = 0) (s : Bool) (y : Nat) :
    (mB s y (z, h) = true → (bestA s y L).2 ≤ z.2.2 → bestA s y (putL L (z, h)) = (h, z.2.2)) ∧
    ((mB s y (z, h) = false ∨ ¬ (bestA s y L).2 ≤ z.2.2) → bestA s y (putL L (z, h)) = bestA s y L) := by
  have J := I.put (z, h)
  have B := bestA_best (s := s) (y := y) J.val
  have A := bestA_best (s := s) (y := y) I.val
  have hm := put_mem I hz
  obtain ⟨_, n, en, _, _⟩ := chk0 hc
  constructor
  · intro h1 h2
    have C : BestIs s y (putL L (z, h)) h z.2.2 := by
      refine .inr ⟨(z, h), (hm _).2 (.inl rfl), h1, rfl, rfl, fun q hq hqm => ?_⟩
      rcases (hm q).1 hq with e | ⟨hqL, _⟩
      · rw [e]; exact Int.le_refl _
      · rcases A with ⟨a, _, _⟩ | ⟨r, _, _, _, _, a⟩
        · rw [a q hqL] at hqm; cases hqm
        · have := a q hqL hqm; omega
    obtain ⟨e1, e2⟩ := B.unique J.sorted.dist C
    exact Prod.ext e1 e2
  · intro hor
    have C : BestIs s y (putL L (z, h)) (bestA s y L).1 (bestA s y L).2 := by
      rcases A with ⟨a, a1, a2⟩ | ⟨r, hr, hrm, r1, r2, a⟩
      · rcases hor with h1 | h1
        · refine .inl ⟨fun q hq => ?_, a1, a2⟩
          rcases (hm q).1 hq with e | ⟨hqL, _⟩
          · rw [e]; exact h1
          · exact a q hqL
        · rw [a2] at h1; omega
      · have hne : r.1 ≠ z := fun e => by
          rcases hor with h1 | h1
          · obtain ⟨p, hp⟩ := r
            subst e
            rw [mB_key s y p hp h] at hrm
            rw [hrm] at h1; cases h1
          · rw [← r2, e] at h1; omega
        refine .inr ⟨r, (hm r).2 (.inr ⟨hr, hne⟩), hrm, r1, r2, fun q hq hqm => ?_⟩
        rcases (hm q).1 hq with e | ⟨hqL, _⟩
        · rcases hor with h1 | h1
          · rw [e, h1] at hqm; cases hqm
          · rw [e]; show z.2.2 ≤ _; omega
        · exact a q hqL hqm
    obtain ⟨e1, e2⟩ := B.unique J.sorted.dist C
    exact Prod.ext e1 e2
end Go.Proofs.Ytifhakoeinalaaa
