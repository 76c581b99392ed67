/-
  The document's DeltaDiff.
-/
import Derived.Test.YtnpaijmibkbhfaaDeltaE
import Derived.Test.YtnpaijmibkbhfaaG12
import Derived.Deep.CutRange
import Derived.Deep.DeepCutAuto
import Derived.Deep.RegionHeld3
namespace Go.Proofs.Ytnpaijmibkbhfaa
open Go.RowKit
set_option linter.unusedVariables false
set_option linter.unusedSimpArgs false
theorem beh_keys : ∀ (t S : List RT), behE S t = 0 → (t.map Prod.fst).Nodup ∧ ∀ x ∈ t, hasR S x.1 = false
  | [], _, _ => ⟨List.nodup_nil, fun x h => by cases h⟩
  | r :: t, S, h => by
    unfold behE at h
    split at h
    · split at h
      · cases h
      · rename_i h1
        have h1' : hasR S r.1 = false := by simpa using h1
        obtain ⟨a, b⟩ := beh_keys t (insR S r) h
        have ne : ∀ x ∈ t, x.1 ≠ r.1 ∧ hasR S x.1 = false := fun x hx => by
          have g := b x hx
          rw [hasR, List.any_eq_false] at g
          refine ⟨fun e => by simpa using g r (insR_mem.2 (.inl rfl)) (decide_eq_true e.symm), ?_⟩
          rw [hasR, List.any_eq_false]
          exact fun y hy => g y (insR_mem.2 (.inr hy))
        refine ⟨?_, fun x hx => ?_⟩
        · rw [List.map_cons, List.nodup_cons]
          refine ⟨fun hm => ?_, a⟩
          obtain ⟨x, hx, e⟩ := List.mem_map.1 hm
          exact (ne x hx).1 e
        · rcases List.mem_cons.1 hx with rfl | hx
          · exact h1'
          · exact (ne x hx).2
    · rename_i h0; exact absurd h h0
theorem relU_srt {l : List RT} (h : tabE l = 0) : RelU l (srt l) := by
  refine ⟨srt_inv h, ?_, fun r => (srt_mem l r).symm⟩
  have h60 := (tabE_val h).2.2
  unfold tabE at h
  rw [if_neg (by omega)] at h
  exact (beh_keys l [] h).1
theorem putsW_take {S T : List RT} {k : Nat} (hk : k < T.length) : putsL (wiL (T.take (k + 1)) S) = putsL (wiL (T.take k) S) ++ if decide (T[k] ∈ S) then [] else [putAct T[k]] := by
  rw [wi_take hk, putsL, List.map_append]
  cases decide (T[k] ∈ S) <;> rfl
end Go.Proofs.Ytnpaijmibkbhfaa
