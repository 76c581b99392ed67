/-
  Plain mathematics: puts that have room have no error.
-/
import Derived.Test.YtnpaijmibkbhfaaDBackN
import Derived.Test.YtnpaijmibkbhfaaDChunkM
import Derived.Test.YtnpaijmibkbhfaaDNoneM
import Derived.Test.YtnpaijmibkbhfaaTabY
import Derived.Test.YtnpaijmibkbhfaaAppRow
namespace Go.Proofs.Ytnpaijmibkbhfaa
open Go.RowKit
set_option linter.unusedVariables false
set_option linter.unusedSimpArgs false
theorem act_put {L : List RT} {a : ActT} (hk : a.k = 1) : actE L a = putE L (a.p, a.h) ∧ doL L a = putL L (a.p, a.h) := by
  refine ⟨?_, by rw [doL, if_pos hk]⟩
  rw [actE, if_pos (.inl hk), doA, if_pos hk]
theorem put_len (L : List RT) (r : RT) : (putL L r).length ≤ L.length + 1 := by
  unfold putL
  split
  · split
    · simp
    · split
      · omega
      · unfold insR
        have := posR_le L r.1
        rw [List.length_append, List.length_cons, List.length_take, List.length_drop]; omega
  · omega
theorem puts_fine : ∀ (P : List ActT) (L : List RT), (∀ a ∈ P, a.k = 1 ∧ rtE (a.p, a.h) = 0) → L.length + P.length ≤ 60 → appE L P = 0
  | [], _, _, _ => rfl
  | a :: P, L, h, hl => by
    obtain ⟨h1, h2⟩ := h a (by simp)
    obtain ⟨e1, e2⟩ := act_put (L := L) h1
    rw [List.length_cons] at hl
    have hz : putE L (a.p, a.h) = 0 := by
      rw [putE, if_pos h2]
      by_cases hh : hasR L (a.p, a.h).1 = true
      · rw [if_pos hh]
      · rw [if_neg hh, if_neg (by omega)]
    rw [appE, if_pos (by rw [e1]; exact hz), e2]
    have := put_len L (a.p, a.h)
    exact puts_fine P _ (fun x hx => h x (by simp [hx])) (by omega)
theorem actZ_put (j : JT) (h : (actZ j).k = 1) : rtE ((actZ j).p, (actZ j).h) = 0 := by
  unfold actZ at h ⊢
  by_cases h1 : 5 < j.1 % 8
  · rw [if_pos h1] at h; exact absurd h (by show ¬ (3 : Int) = 1; decide)
  · rw [if_neg h1] at h ⊢
    by_cases h2 : j.1 % 8 = 5
    · rw [if_pos h2] at h; exact absurd h (by show ¬ (4 : Int) = 1; decide)
    · rw [if_neg h2] at h ⊢
      by_cases h3 : 2 < j.1 % 8
      · rw [if_pos h3] at h; exact absurd h (by show ¬ (2 : Int) = 1; decide)
      · rw [if_neg h3]
        have := Int.emod_nonneg j.2.2 (show (5 : Int) ≠ 0 by decide)
        have := Int.emod_lt_of_pos j.2.2 (show (0 : Int) < 5 by decide)
        exact rt_mk (preZ_ok _) (by show 1 ≤ 1 + j.2.2 % 5; omega) (by show 1 + j.2.2 % 5 ≤ 999; omega)
/-- The puts of a list. -/
def onlyP (l : List ActT) : List ActT := l.filter fun a => decide (a.k = 1)
theorem onlyP_take {l : List ActT} {k : Nat} (hk : k < l.length) : onlyP (l.take (k + 1)) = onlyP (l.take k) ++ if l[k].k = 1 then [l[k]] else [] := by
  unfold onlyP
  rw [List.take_succ_eq_append_getElem hk, List.filter_append]
  by_cases h : l[k].k = 1 <;> simp [h]
theorem onlyP_len (l : List ActT) : (onlyP l).length ≤ l.length := List.length_filter_le ..
theorem onlyP_fine (l : List JT) (n : Nat) : ∀ a ∈ onlyP (actsZ l n), a.k = 1 ∧ rtE (a.p, a.h) = 0 := fun a ha => by
  obtain ⟨h1, h2⟩ := List.mem_filter.1 ha
  have h3 : a.k = 1 := of_decide_eq_true h2
  obtain ⟨j, _, rfl⟩ := List.mem_map.1 h1
  exact ⟨h3, actZ_put j h3⟩
def onePut : ActT := putAct ((false, 0, 0), 3)
theorem nil_inv : InvR [] := InvR.run []
theorem one_app : appE [] [onePut] = 0 ∧ (appL [] [onePut]).length = 1 := by
  have hr : rtE ((false, 0, 0), 3) = 0 := one_inv.fine _ (by simp [oneT])
  refine ⟨puts_fine _ _ (fun a ha => ?_) (by simp), ?_⟩
  · rw [List.mem_singleton] at ha; subst ha; exact ⟨rfl, hr⟩
  · show (doL [] onePut).length = 1
    rw [show doL [] onePut = putL [] ((false, 0, 0), 3) from put_doL [] _, putL, if_pos hr]
    rfl
theorem part_all {L : List RT} {P : List ActT} (h : ∀ a ∈ P, a.k = 1 ∧ rtE (a.p, a.h) = 0) (hl : L.length + P.length ≤ 60) (k : Nat) :
    appE L P = 0 ∧ appE L (P.take k) = 0 ∧ appE (appL L (P.take k)) (P.drop k) = 0 ∧ appL (appL L (P.take k)) (P.drop k) = appL L P := by
  have h1 := puts_fine P L h hl
  have h2 := puts_fine (P.take k) L (fun a ha => h a (List.mem_of_mem_take ha)) (by rw [List.length_take]; omega)
  have e1 := appE_app (P.take k) (P.drop k) L h2
  have e2 := appL_app (P.take k) (P.drop k) L
  rw [List.take_append_drop] at e1 e2
  exact ⟨h1, h2, by rw [← e1]; exact h1, e2.symm⟩
theorem ownA_form2 {w : World} {base : Nat} {u : Value} {D : List ActT} (h : OwnA w base u D) : (u = .slice none 0 0 ∧ D = []) ∨ ∃ g c, u = .slice (some ⟨g, 0, none⟩) D.length c ∧ D.length ≤ c ∧ c ≤ 9223372036854775807 := by
  rcases h.2 with ⟨hv, h0⟩ | ⟨g, cap, cur, hv, hb, hg, hnc, hcm, _⟩
  · exact .inl ⟨hv, List.eq_nil_of_length_eq_zero h0⟩
  · exact .inr ⟨g, cap, hv, hnc, hcm⟩
/-- The parts of a row of acts, before and behind k. -/
theorem act_parts {W : World} {g c : Nat} {P : List ActT} (row : RowA W (.slice (some ⟨g, 0, none⟩) P.length c) P) (hc : P.length ≤ c) {k : Nat} (hk : k ≤ P.length) :
    RowA W (.slice (some ⟨g, 0, none⟩) k c) (P.take k) ∧ RowA W (.slice (if c = k then some ⟨g, 0, none⟩ else some ⟨g, k * 9, none⟩) (P.length - k) (c - k)) (P.drop k) := by
  by_cases hn : P = []
  · subst hn
    have : k = 0 := by simpa using hk
    subst this
    exact ⟨.inl ⟨by simp, _, _, rfl⟩, .inl ⟨by simp, _, _, rfl⟩⟩
  · refine ⟨?_, ?_⟩
    · have := RowK.part row hn 0 k (Nat.zero_le _) hk hc
      simpa using this
    · by_cases h : c = k
      · rw [if_pos h]
        exact .inl ⟨List.eq_nil_of_length_eq_zero (by rw [List.length_drop]; omega), some ⟨g, 0, none⟩, c - k, by rw [show P.length - k = 0 by omega]⟩
      · rw [if_neg h]
        have := RowK.part row hn k P.length hk (Nat.le_refl _) hc
        rw [List.take_length] at this
        simpa using this
end Go.Proofs.Ytnpaijmibkbhfaa
