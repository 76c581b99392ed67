/-
  The document's hop of a prefix in a list: its closure in DeltaDiff.
-/
import Derived.Test.YtnpaijmibkbhfaaG8
import Derived.Test.YtnpaijmibkbhfaaG18
namespace Go.Proofs.Ytnpaijmibkbhfaa
open Go.RowKit
set_option linter.unusedVariables false
set_option linter.unusedSimpArgs false
/-- The first hop of a prefix, 0 if none. -/
def hopZ : List RT → PK → Int
  | [], _ => 0
  | r :: t, p => if r.1 = p then r.2 else hopZ t p
theorem hopZ_none : ∀ {T : List RT} {p : PK}, (∀ c ∈ T, c.1 ≠ p) → hopZ T p = 0
  | [], _, _ => rfl
  | r :: t, p, h => by
    rw [hopZ, if_neg (h r (by simp))]
    exact hopZ_none fun c hc => h c (by simp [hc])
theorem hopZ_at : ∀ {T : List RT} {p : PK} {k : Nat} (hk : k < T.length), (∀ c ∈ T.take k, c.1 ≠ p) → T[k].1 = p → hopZ T p = T[k].2
  | r :: t, p, 0, _, _, e => by rw [hopZ, if_pos (by simpa using e)]; rfl
  | r :: t, p, k + 1, hk, h, e => by
    rw [hopZ, if_neg (h r (by simp))]
    simpa using hopZ_at (T := t) (k := k) (by simpa using hk) (fun c hc => h c (by simp [hc])) (by simpa using e)
theorem hopZ_or (T : List RT) (p : PK) : (hopZ T p = 0 ∧ ∀ c ∈ T, c.1 ≠ p) ∨ ∃ c ∈ T, c.1 = p ∧ hopZ T p = c.2 := by
  induction T with
  | nil => exact .inl ⟨rfl, fun c h => by cases h⟩
  | cons r t ih =>
    rw [hopZ]
    by_cases h : r.1 = p
    · rw [if_pos h]; exact .inr ⟨r, by simp, h, rfl⟩
    · rw [if_neg h]
      rcases ih with ⟨a, b⟩ | ⟨c, hc, a, b⟩
      · refine .inl ⟨a, fun c hc => ?_⟩
        rcases List.mem_cons.1 hc with rfl | hc
        · exact h
        · exact b c hc
      · exact .inr ⟨c, by simp [hc], a, b⟩
theorem hop_cut {T : List RT} (I : InvR T) (r : RT) : anyP T r = !decide (hopZ T r.1 = 0) := by
  rcases hopZ_or T r.1 with ⟨a, b⟩ | ⟨c, hc, a, b⟩
  · rw [a, show anyP T r = false from by rw [anyP, List.any_eq_false]; intro s hs; simpa using b s hs]; rfl
  · have := (rtE_0 (I.fine c hc)).2.1
    rw [show anyP T r = true from List.any_eq_true.2 ⟨c, hc, decide_eq_true a⟩, decide_eq_false (by omega)]; rfl
theorem hop_put {S : List RT} (I : InvR S) {r : RT} (h1 : 1 ≤ r.2) : decide (r ∈ S) = decide (hopZ S r.1 = r.2) := by
  refine decide_eq_decide.2 ⟨fun hr => ?_, fun e => ?_⟩
  · rcases hopZ_or S r.1 with ⟨a, b⟩ | ⟨c, hc, a, b⟩
    · exact absurd rfl (b r hr)
    · rw [b, I.sorted.key hc hr a]
  · rcases hopZ_or S r.1 with ⟨a, b⟩ | ⟨c, hc, a, b⟩
    · omega
    · rw [show r = c from Prod.ext a.symm (by rw [← e, b])]; exact hc
end Go.Proofs.Ytnpaijmibkbhfaa
