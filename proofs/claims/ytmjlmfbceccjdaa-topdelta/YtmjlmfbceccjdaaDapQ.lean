/-
  delta.Apply on tables that are tables, with no error.
-/
import Derived.Test.YtmjlmfbceccjdaaG31
import Derived.Test.YtmjlmfbceccjdaaG29
import Derived.Test.YtmjlmfbceccjdaaG30
namespace Go.Proofs.Ytmjlmfbceccjdaa
open Go.RowKit
set_option linter.unusedVariables false
set_option linter.unusedSimpArgs false
theorem dap_eq {L : List RT} {P : List ActT} (I : InvR L) (hP : P.length ≤ 120) (h : appE L P = 0) : dapE L P = 0 ∧ dapL L P = appL L P := by
  have e : sorL L = L := by rw [sorL, if_pos (tab_self I), srt_self I]
  have h1 : dapE L P = 0 := by rw [dapE, if_pos (tab_self I), if_neg (by omega), e, h]
  exact ⟨h1, by rw [dapL, if_pos h1, e]⟩
theorem cutsL_words {S : List RT} (T : List RT) (h : WordsR S) : WordsA (cutsL S T) := fun a ha => by
  obtain ⟨r, hr, rfl⟩ := List.mem_map.1 ha
  exact ⟨h r (List.mem_filter.1 hr).1, by show (0 : Nat) < 2 ^ 128; decide⟩
theorem difL_words {S T : List RT} (hS : WordsR S) (hT : WordsR T) : WordsA (difL S T) := fun a ha => by
  rcases List.mem_append.1 ha with h | h
  · exact cutsL_words T hS a h
  · exact putsL_words (fun r hr => hT r (List.mem_filter.1 hr).1) a h
theorem difL_len (S T : List RT) : (difL S T).length ≤ S.length + T.length := by
  have c := cutsL_len S T
  have e := wiL_len T S
  rw [difL, List.length_append, putsL_len]; omega
theorem dfD_eq {S T : List RT} (hl : InvR S) (hm : InvR T) : dfE S T = 0 ∧ dfL S T = difL S T := by
  have : dfE S T = 0 := by rw [dfE, if_pos (tab_self hl), tab_self hm]
  exact ⟨this, by rw [dfL, if_pos this, srt_self hl, srt_self hm]⟩
theorem words_invD {L : List RT} (I : InvR L) : WordsR L := fun r hr => lt128 (chk0 (I.val r hr)).1
/-- delta.Diff of two tables in order. -/
theorem diffT_calls {S T : List RT} (IS : InvR S) (IT : InvR T) (v t : Value) (w : World) (r1 : RowR w v S) (r2 : RowR w t T) :
    Calls Try.prog 14 #[v, t] w fun e w' => ∃ u, e = .returned (.tuple #[u, .int .i64 0]) ∧ OwnA w' w.heap.size u (difL S T) ∧ Below w.heap.size w w' := by
  have := diff_calls S T v t (by have := IS.size; omega) (by have := IT.size; omega) (words_invD IS) (words_invD IT) w r1 r2
  rwa [(dfD_eq IS IT).1, (dfD_eq IS IT).2] at this
/-- delta.Apply of acts without error on a table in order. -/
theorem applyT_calls {S T : List RT} (IS : InvR S) (P : List ActT) (hP : P.length ≤ 120) (wP : WordsA P) (hE : appE S P = 0) (hL : appL S P = T) (v t : Value) (w : World) (r1 : RowR w v S) (r2 : RowA w t P) :
    Calls Try.prog 15 #[v, t] w fun e w' => ∃ u, e = .returned (.tuple #[u, .int .i64 0]) ∧ OwnR w' w.heap.size u T ∧ Below w.heap.size w w' := by
  have := dapply_calls S P v t (by have := IS.size; omega) (words_invD IS) (by omega) wP w r1 r2
  rwa [(dap_eq IS hP hE).1, (dap_eq IS hP hE).2, hL] at this
theorem ownA_form {w : World} {base : Nat} {u : Value} {D : List ActT} (h : OwnA w base u D) : ∃ p c, u = .slice p D.length c ∧ (D ≠ [] → ∃ g, p = some ⟨g, 0, none⟩ ∧ D.length ≤ c ∧ c ≤ 9223372036854775807) := by
  rcases h.2 with ⟨hv, h0⟩ | ⟨g, cap, cur, hv, hb, hg, hnc, hcm, _⟩
  · exact ⟨none, 0, by rw [hv, h0], fun hn => absurd (List.eq_nil_of_length_eq_zero h0) hn⟩
  · exact ⟨_, _, hv, fun _ => ⟨g, rfl, hnc, hcm⟩⟩
end Go.Proofs.Ytmjlmfbceccjdaa
