/-
  Plain mathematics: acts applied part by part.
-/
import Derived.Test.YtnpaijmibkbhfaaDBackM
namespace Go.Proofs.Ytnpaijmibkbhfaa
open Go.RowKit
set_option linter.unusedVariables false
set_option linter.unusedSimpArgs false
theorem appE_bad : ∀ (a b : List ActT) (L : List RT), appE L a ≠ 0 → appE L (a ++ b) = appE L a
  | [], b, L, h => absurd rfl h
  | x :: a, b, L, h => by
    rw [List.cons_append, appE, appE]
    rw [appE] at h
    by_cases h0 : actE L x = 0
    · rw [if_pos h0] at h ⊢
      rw [if_pos h0]; exact appE_bad a b _ h
    · rw [if_neg h0, if_neg h0]
theorem doL_inv {L : List RT} (I : InvR L) (a : ActT) : InvR (doL L a) := by
  unfold doL
  by_cases h1 : a.k = 1
  · rw [if_pos h1]; exact I.put _
  · rw [if_neg h1]
    by_cases h2 : a.k = 2
    · rw [if_pos h2]; exact I.cut _
    · rw [if_neg h2]; exact I
theorem appL_inv : ∀ (a : List ActT) {L : List RT}, InvR L → InvR (appL L a)
  | [], _, I => I
  | x :: a, _, I => appL_inv a (doL_inv I x)
/-- A part that went well: the table behind it. -/
theorem part_good {S : List RT} {P : List ActT} {i m : Nat} (h : appE S (P.take i) = 0) : appE S (P.take (i + m)) = appE (appL S (P.take i)) ((P.drop i).take m) ∧ appL S (P.take (i + m)) = appL (appL S (P.take i)) ((P.drop i).take m) := by
  rw [List.take_add]
  exact ⟨appE_app _ _ _ h, appL_app _ _ _⟩
/-- A part that went wrong: so went all. -/
theorem part_bad {S : List RT} {P : List ActT} {i m : Nat} (h : appE S (P.take i) = 0) (h2 : appE (appL S (P.take i)) ((P.drop i).take m) ≠ 0) : appE S P = appE (appL S (P.take i)) ((P.drop i).take m) := by
  have e : P = P.take i ++ ((P.drop i).take m ++ (P.drop i).drop m) := by rw [List.take_append_drop, List.take_append_drop]
  have h3 : appE S P = appE S (P.take i ++ ((P.drop i).take m ++ (P.drop i).drop m)) := congrArg _ e
  rw [h3, appE_app _ _ _ h]
  exact appE_bad _ _ _ h2
end Go.Proofs.Ytnpaijmibkbhfaa
