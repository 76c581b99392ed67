/-
  Plain mathematics: the longest prefix, where an address goes, the family of the routes that acts leave.
-/
import Derived.Test.YtepfcphhgmmlhaaG10
import Derived.Test.YtepfcphhgmmlhaaTabY
import Derived.Test.YtepfcphhgmmlhaaGoesTo
namespace Go.Proofs.Ytepfcphhgmmlhaa
open Go.RowKit
set_option linter.unusedVariables false
set_option linter.unusedSimpArgs false
theorem doL_mem {L : List RT} (I : InvR L) {a : ActT} {r : RT} (h : r ∈ doL L a) : r ∈ L ∨ r.1 = a.p := by
  unfold doL at h
  split at h
  · by_cases hz : putE L (a.p, a.h) = 0
    · rcases (put_mem I hz r).1 h with e | ⟨e, _⟩
      · exact .inr (by rw [e])
      · exact .inl e
    · rw [put_err hz] at h; exact .inl h
  · split at h
    · by_cases hz : finE L a.p = 0
      · exact .inl ((cut_mem I hz r).1 h).1
      · rw [cut_err hz] at h; exact .inl h
    · exact .inl h
theorem run_mem (l : List ActT) {r : RT} (h : r ∈ runL l) : ∃ a ∈ l, r.1 = a.p := by
  suffices H : ∀ (l : List ActT) (L : List RT), InvR L → r ∈ l.foldl doL L → r ∈ L ∨ ∃ a ∈ l, r.1 = a.p by
    rcases H l [] InvR.nil h with h | h
    · cases h
    · exact h
  intro l
  induction l with
  | nil => intro L _ h; exact .inl h
  | cons a t ih =>
    intro L I h
    rcases ih (doL L a) (I.step a) h with h | ⟨b, hb, e⟩
    · rcases doL_mem I h with h | h
      · exact .inl h
      · exact .inr ⟨a, List.mem_cons_self, h⟩
    · exact .inr ⟨b, List.mem_cons_of_mem _ hb, e⟩
theorem actZ_four (j : JT) : (actZ j).p.1 = false := by
  unfold actZ
  repeat' split
  all_goals rfl
theorem acts_four (l : List JT) (n : Nat) : ∀ r ∈ runL (actsZ l n), r.1.1 = false := fun r hr => by
  obtain ⟨a, ha, e⟩ := run_mem _ hr
  unfold actsZ at ha
  obtain ⟨j, _, rfl⟩ := List.mem_map.1 ha
  rw [e]; exact actZ_four j
theorem last_bestA {L : List RT} (I : InvR L) (s : Bool) (y : Nat) : lastM (L.filter (mB s y)) = bestA s y L := by
  obtain ⟨e1, e2⟩ := (lastM_best (s := s) (y := y) I.sorted I.val).unique I.sorted.dist (bestA_best I.val)
  exact Prod.ext e1 e2
theorem look_inv {L : List RT} (I : InvR L) {s : Bool} {y : Nat} (hy : y < 2 ^ wideN s) : lookE L s y = 0 ∧ lookA L s y = bestA s y L := by
  have h : lookE L s y = 0 := by rw [lookE, if_pos (tab_inv I), if_pos hy]
  exact ⟨h, by rw [lookA, if_pos h]⟩
theorem goes_inv {L : List RT} (I : InvR L) {s : Bool} {y : Nat} (hy : y < 2 ^ wideN s) : goesZ L s y = (bestM s y L).1 := by
  obtain ⟨a, b⟩ := look_inv I hy
  rw [goesZ, if_pos a, b]; rfl
theorem inv_words {L : List RT} (I : InvR L) : WordsR L := fun r hr => lt128 (chk0 (I.val r hr)).1
/-- The last answer of a look behind acts. -/
theorem long_end {as_ M : List ActT} {XL : List (Int × Int × Int)} {y : Nat} {g : ActT} {n : Nat} (h : runX [] M = XL) (e : M = as_ ++ [g]) (hg : g = ⟨3, (false, 0, 0), 0, false, y⟩) (hy : y < 2 ^ wideN false) (hn : as_.length = n) (i0 : n < XL.length) :
    XL[n] = (0, (bestM false y (runL as_)).1, if (bestM false y (runL as_)).2 < 0 then 0 else (bestM false y (runL as_)).2) := by
  subst hn
  have I := InvR.run as_
  have l0 : (runX [] as_).length = as_.length := runX_len _ _
  have eX : XL = runX [] as_ ++ [doA (runL as_) g] := by rw [← h, e, runX_snoc]; rfl
  subst eX
  rw [List.getElem_append_right (by omega)]
  simp only [l0, Nat.sub_self, List.getElem_cons_zero]
  rw [hg]
  show (if y < 2 ^ wideN false then _ else _) = _
  rw [if_pos hy, last_bestA I]
  rfl
end Go.Proofs.Ytepfcphhgmmlhaa
