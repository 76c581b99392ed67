/-
  Plain mathematics: a valid table put route by route is its sorted list.
-/
import Derived.Test.YtepfcphhgmmlhaaTabV
import Derived.Test.YtepfcphhgmmlhaaTabN
namespace Go.Proofs.Ytepfcphhgmmlhaa
open Go.RowKit
set_option linter.unusedVariables false
set_option linter.unusedSimpArgs false
def putAct (r : RT) : ActT := ⟨1, r.1, r.2, false, 0⟩
def putsL (l : List RT) : List ActT := l.map putAct
theorem putsL_len (l : List RT) : (putsL l).length = l.length := List.length_map ..
theorem puts_foldl : ∀ (t S : List RT), behE S t = 0 → S.length + t.length ≤ 60 → (putsL t).foldl doL S = t.foldl insR S
  | [], S, _, _ => rfl
  | r :: t, S, h, hl => by
    unfold behE at h
    split at h
    · rename_i h0
      split at h
      · cases h
      · rename_i h1
        have h1' : hasR S r.1 = false := by simpa using h1
        rw [List.length_cons] at hl
        have e : doL S (putAct r) = insR S r := by
          have hr : (putAct r).p = r.1 ∧ (putAct r).h = r.2 := ⟨rfl, rfl⟩
          rw [doL, if_pos (show (putAct r).k = 1 from rfl)]
          show putL S (r.1, r.2) = _
          rw [putL, if_pos (show rtE (r.1, r.2) = 0 from h0), show hasR S (r.1, r.2).1 = false from h1']
          simp only [Bool.false_eq_true, if_false]
          rw [if_neg (by omega)]
        have hi : (insR S r).length = S.length + 1 := by
          unfold insR
          have := posR_le S r.1
          rw [List.length_append, List.length_cons, List.length_take, List.length_drop]; omega
        show ((putsL t).foldl doL (doL S (putAct r))) = t.foldl insR (insR S r)
        rw [e]
        exact puts_foldl t (insR S r) h (by omega)
    · rename_i h0; exact absurd h h0
theorem puts_run {l : List RT} (h : tabE l = 0) : runL (putsL l) = srt l ∧ playE (putsL l) = 0 ∧ playL (putsL l) = srt l := by
  have h60 := (tabE_val h).2.2
  unfold tabE at h
  rw [if_neg (by omega)] at h
  have e : runL (putsL l) = srt l := puts_foldl l [] h (by simpa using h60)
  refine ⟨e, ?_, ?_⟩
  · unfold playE; rw [putsL_len, if_neg (by omega)]
  · unfold playL; rw [putsL_len, if_neg (by omega), e]
theorem srt_inv {l : List RT} (h : tabE l = 0) : InvR (srt l) := by rw [← (puts_run h).1]; exact InvR.run _
theorem dist_tab {l : List RT} (h : tabE l = 0) : DistR l := fun a ha b hb e => (srt_inv h).sorted.dist a ((srt_mem l a).2 ha) b ((srt_mem l b).2 hb) e
end Go.Proofs.Ytepfcphhgmmlhaa
