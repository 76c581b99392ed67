/-
  Plain mathematics: a table whose first act puts the prefix of no bits; a table and its sorted list.
-/
import Derived.Test.YtmjlmfbceccjdaaG27
import Derived.Test.YtmjlmfbceccjdaaTPlayM
import Derived.Test.YtmjlmfbceccjdaaG11
namespace Go.Proofs.Ytmjlmfbceccjdaa
open Go.RowKit
set_option linter.unusedVariables false
set_option linter.unusedSimpArgs false
theorem keep_mem : ∀ (P : List ActT) (L : List RT), InvR L → ∀ x ∈ L, (∀ a ∈ P, a.k = 1 ∨ a.k = 2 → a.p ≠ x.1) → x ∈ P.foldl doL L
  | [], L, I, x, hx, _ => hx
  | a :: P, L, I, x, hx, h => by
    refine keep_mem P (doL L a) (doL_invW I a) x ?_ fun b hb => h b (by simp [hb])
    unfold doL
    by_cases h1 : a.k = 1
    · rw [if_pos h1]
      have hne := h a (by simp) (.inl h1)
      by_cases hz : putE L (a.p, a.h) = 0
      · exact (put_mem I hz x).2 (.inr ⟨hx, fun e => hne e.symm⟩)
      · rw [put_err hz]; exact hx
    · rw [if_neg h1]
      by_cases h2 : a.k = 2
      · rw [if_pos h2]
        have hne := h a (by simp) (.inr h2)
        by_cases hz : finE L a.p = 0
        · exact (cut_mem I hz x).2 ⟨hx, fun e => hne e.symm⟩
        · rw [cut_err hz]; exact hx
      · rw [if_neg h2]; exact hx
theorem actZ_p (j : JT) (h : (actZ j).k = 1 ∨ (actZ j).k = 2) : (actZ j).p = preZ j.2.1 := by
  unfold actZ at h ⊢
  by_cases h1 : 5 < j.1 % 8
  · rw [if_pos h1] at h
    rcases h with h | h
    · exact absurd h (by show ¬ (3 : Int) = 1; decide)
    · exact absurd h (by show ¬ (3 : Int) = 2; decide)
  · rw [if_neg h1] at h ⊢
    by_cases h2 : j.1 % 8 = 5
    · rw [if_pos h2] at h
      rcases h with h | h
      · exact absurd h (by show ¬ (4 : Int) = 1; decide)
      · exact absurd h (by show ¬ (4 : Int) = 2; decide)
    · rw [if_neg h2]
      by_cases h3 : 2 < j.1 % 8
      · rw [if_pos h3]
      · rw [if_neg h3]
theorem preZ_def (z : Int) : preZ z ≠ (false, 0, 0) := fun c => by
  have := congrArg (fun q : PK => q.2.2) c
  simp only [preZ] at this
  omega
/-- The acts of the law of differences. -/
def topP (l : List JT) (h : Int) : List ActT := putAct ((false, 0, 0), 1 + h % 5) :: actsZ l 45
theorem tab_invW {L : List RT} (I : InvR L) : tabE L = 0 := tab_ofF I.fine (by rw [List.nodup_iff_pairwise_ne, List.pairwise_map]; exact I.sorted.imp fun h => ltK_ne h) I.size
theorem topP_fw (l : List JT) (h : Int) : fwE (runL (topP l h)) = 0 ∧ (topP l h).length ≤ 46 := by
  have hl : (topP l h).length ≤ 46 := by unfold topP actsZ; rw [List.length_cons, List.length_map, List.length_take]; omega
  have I := InvR.run (topP l h)
  have hh : 1 ≤ 1 + h % 5 ∧ 1 + h % 5 ≤ 999 := by
    have := Int.emod_nonneg h (show (5 : Int) ≠ 0 by decide)
    have := Int.emod_lt_of_pos h (show (0 : Int) < 5 by decide)
    omega
  have hr : rtE ((false, 0, 0), 1 + h % 5) = 0 := by rw [rtE, if_pos chk_def, if_pos hh]
  refine ⟨fwE_mk (tab_invW I) (fun r hr => ?_) ⟨((false, 0, 0), 1 + h % 5), ?_, rfl⟩, hl⟩
  · rcases run_memW _ [] (InvR.run []) r hr with c | ⟨a, ha, hk, e⟩
    · cases c
    · rw [e]
      rcases List.mem_cons.1 ha with e2 | ha
      · rw [e2]; rfl
      · obtain ⟨j, _, rfl⟩ := List.mem_map.1 ha
        show (actZ j).p.1 = false
        rw [actZ_p j (.inl hk)]; rfl
  · show _ ∈ (actsZ l 45).foldl doL (doL [] (putAct ((false, 0, 0), 1 + h % 5)))
    refine keep_mem _ _ (doL_invW (InvR.run []) _) _ ?_ fun a ha hk => ?_
    · have e : doL [] (putAct ((false, 0, 0), 1 + h % 5)) = putL [] ((false, 0, 0), 1 + h % 5) := by rw [doL, if_pos (show (putAct ((false, 0, 0), 1 + h % 5)).k = 1 from rfl)]; rfl
      show _ ∈ doL [] _
      rw [e]
      refine (put_mem (InvR.run []) ?_ _).2 (.inl rfl)
      rw [putE, if_pos hr]; rfl
    · obtain ⟨j, _, rfl⟩ := List.mem_map.1 ha
      rw [actZ_p j hk]; exact preZ_def _
theorem topP_words (l : List JT) (h : Int) : WordsA (topP l h) := fun a ha => by
  rcases List.mem_cons.1 ha with e | ha
  · rw [e]; exact ⟨by show (0 : Nat) < 2 ^ 128; decide, by show (0 : Nat) < 2 ^ 128; decide⟩
  · exact actsZ_words l 45 a ha
theorem beh_keysS : ∀ (t S : List RT), behE S t = 0 → (t.map Prod.fst).Nodup ∧ ∀ x ∈ t, hasR S x.1 = false
  | [], _, _ => ⟨List.nodup_nil, fun x h => by cases h⟩
  | r :: t, S, h => by
    unfold behE at h
    split at h
    · split at h
      · cases h
      · rename_i h1
        have h1' : hasR S r.1 = false := by simpa using h1
        obtain ⟨a, b⟩ := beh_keysS t (insR S r) h
        have ne : ∀ x ∈ t, x.1 ≠ r.1 ∧ hasR S x.1 = false := fun x hx => by
          have g := b x hx
          rw [hasR, List.any_eq_false] at g
          refine ⟨fun e => by simpa using g r (insR_mem.2 (.inl rfl)) (decide_eq_true e.symm), ?_⟩
          rw [hasR, List.any_eq_false]
          exact fun y hy => g y (insR_mem.2 (.inr hy))
        refine ⟨?_, fun x hx => ?_⟩
        · rw [List.map_cons, List.nodup_cons]
          refine ⟨fun hm => ?_, a⟩
          obtain ⟨x, hx, e⟩ := List.mem_map.1 hm
          exact (ne x hx).1 e
        · rcases List.mem_cons.1 hx with rfl | hx
          · exact h1'
          · exact (ne x hx).2
    · rename_i h0; exact absurd h h0
theorem relU_srtS {l : List RT} (h : tabE l = 0) : RelU l (srt l) := by
  refine ⟨srt_inv h, ?_, fun r => (srt_mem l r).symm⟩
  have h60 := (tabE_val h).2.2
  unfold tabE at h
  rw [if_neg (by omega)] at h
  exact (beh_keysS l [] h).1
theorem srt_same {l : List RT} (h : tabE l = 0) : SameW (srt l) l := fun s y _ => by rw [(relU_srtS h).best]
theorem srt_len {l : List RT} (h : tabE l = 0) : (srt l).length = l.length := (relU_srtS h).len.symm
end Go.Proofs.Ytmjlmfbceccjdaa
