/-
  Plain mathematics: a difference with one act left out makes another table.
-/
import Derived.Test.YtmjlmfbceccjdaaDBackM
namespace Go.Proofs.Ytmjlmfbceccjdaa
open Go.RowKit
set_option linter.unusedVariables false
set_option linter.unusedSimpArgs false
theorem put_actE {L : List RT} {r : RT} (h : putE L r = 0) : actE L (putAct r) = 0 := by
  rw [actE, if_pos (.inl rfl)]
  show (doA L (putAct r)).1 = 0
  rw [doA, if_pos (show (putAct r).k = 1 from rfl)]; exact h
theorem put_doL (L : List RT) (r : RT) : doL L (putAct r) = putL L r := by rw [doL, if_pos (show (putAct r).k = 1 from rfl)]; rfl
theorem puts_appK {K : List PK} (hK : K.length ≤ 60) : ∀ (R L : List RT), InvR L → (∀ r ∈ R, rtE r = 0 ∧ r.1 ∈ K) → (∀ x ∈ L, x.1 ∈ K) → (R.map Prod.fst).Nodup →
    appE L (putsL R) = 0 ∧ InvR (appL L (putsL R)) ∧ ∀ x, x ∈ appL L (putsL R) ↔ x ∈ R ∨ (x ∈ L ∧ ∀ r ∈ R, x.1 ≠ r.1)
  | [], L, I, _, _, _ => ⟨rfl, I, fun x => by simp [appL, putsL]⟩
  | r :: R, L, I, hR, hL, hk => by
    rw [List.map_cons, List.nodup_cons] at hk
    have hr := hR r (by simp)
    have hz : putE L (r.1, r.2) = 0 := by
      rw [putE, if_pos (show rtE (r.1, r.2) = 0 from hr.1)]
      by_cases hh : hasR L (r.1, r.2).1 = true
      · rw [if_pos hh]
      · rw [if_neg hh, if_neg]
        intro h60
        have hh' : ∀ x ∈ L, x.1 ≠ r.1 := fun x hx e => hh (List.any_eq_true.2 ⟨x, hx, decide_eq_true e⟩)
        have nd : (r.1 :: L.map Prod.fst).Nodup := by
          rw [List.nodup_cons]
          refine ⟨fun hm => ?_, keys_inv I⟩
          obtain ⟨x, hx, e⟩ := List.mem_map.1 hm
          exact hh' x hx e
        have := nodup_lenG (r.1 :: L.map Prod.fst) K nd (fun k hkm => by
          rcases List.mem_cons.1 hkm with rfl | hkm
          · exact hr.2
          · obtain ⟨x, hx, rfl⟩ := List.mem_map.1 hkm
            exact hL x hx)
        rw [List.length_cons, List.length_map] at this
        omega
    have ha := put_actE hz
    have hd := put_doL L (r.1, r.2)
    have mem := fun x => put_mem I hz x
    obtain ⟨a, b, c⟩ := puts_appK hK R (putL L (r.1, r.2)) (I.put _) (fun x hx => hR x (by simp [hx])) (fun x hx => by
      rcases (mem x).1 hx with rfl | ⟨h, _⟩
      · exact hr.2
      · exact hL x h) hk.2
    refine ⟨?_, ?_, fun x => ?_⟩
    · show appE L (putAct r :: putsL R) = 0
      rw [appE, if_pos ha, hd]; exact a
    · show InvR (appL (doL L (putAct r)) _); rw [show doL L (putAct r) = _ from hd]; exact b
    · show x ∈ appL (doL L (putAct r)) (putsL R) ↔ _
      rw [show doL L (putAct r) = _ from hd, c x, mem x]
      constructor
      · rintro (h | ⟨h, h3⟩)
        · exact .inl (by simp [h])
        · rcases h with rfl | ⟨h1, h2⟩
          · exact .inl (by simp)
          · refine .inr ⟨h1, fun y hy => ?_⟩
            rcases List.mem_cons.1 hy with rfl | hy
            · exact h2
            · exact h3 y hy
      · rintro (h | ⟨h1, h2⟩)
        · rcases List.mem_cons.1 h with rfl | h
          · exact .inr ⟨.inl rfl, fun y hy e => hk.1 (List.mem_map.2 ⟨y, hy, e.symm⟩)⟩
          · exact .inl h
        · exact .inr ⟨.inr ⟨h1, h2 r (by simp)⟩, fun y hy => h2 y (by simp [hy])⟩
/-- A list without one of its elements. -/
def erL {α : Type} (R : List α) (k : Nat) : List α := R.take k ++ R.drop (k + 1)
theorem erL_mem {α : Type} {R : List α} {k : Nat} {x : α} (h : x ∈ erL R k) : x ∈ R := by
  rcases List.mem_append.1 h with h | h
  · exact List.mem_of_mem_take h
  · exact List.mem_of_mem_drop h
theorem erL_or {α : Type} {R : List α} {k : Nat} (hk : k < R.length) {x : α} (h : x ∈ R) : x = R[k] ∨ x ∈ erL R k := by
  have e : R = R.take k ++ R[k] :: R.drop (k + 1) := by rw [← List.drop_eq_getElem_cons hk, List.take_append_drop]
  rw [e] at h
  rcases List.mem_append.1 h with h | h
  · exact .inr (List.mem_append.2 (.inl h))
  · rcases List.mem_cons.1 h with h | h
    · exact .inl h
    · exact .inr (List.mem_append.2 (.inr h))
theorem erL_map {α β : Type} (f : α → β) (R : List α) (k : Nat) : erL (R.map f) k = (erL R k).map f := by unfold erL; rw [List.map_append, List.map_take, List.map_drop]
theorem erL_sub {α : Type} (R : List α) (k : Nat) : (erL R k).Sublist R := by
  have : (R.take k ++ R.drop (k + 1)).Sublist (R.take k ++ R.drop k) := by
    refine List.Sublist.append (List.Sublist.refl _) ?_
    rw [show k + 1 = k + 1 from rfl, ← List.drop_drop]
    exact List.drop_sublist _ _
  rwa [List.take_append_drop] at this
theorem erL_key {α β : Type} {f : α → β} {R : List α} {k : Nat} (hk : k < R.length) (hn : (R.map f).Nodup) : ∀ r ∈ erL R k, f R[k] ≠ f r := by
  have e : R = R.take k ++ R[k] :: R.drop (k + 1) := by rw [← List.drop_eq_getElem_cons hk, List.take_append_drop]
  rw [e, List.map_append, List.map_cons, List.nodup_append] at hn
  obtain ⟨h1, h2, h3⟩ := hn
  rw [List.nodup_cons] at h2
  intro r hr e2
  rcases List.mem_append.1 hr with h | h
  · exact h3 _ (List.mem_map.2 ⟨r, h, rfl⟩) _ (List.mem_cons_self ..) e2.symm
  · exact h2.1 (List.mem_map.2 ⟨r, h, e2.symm⟩)
theorem erL_app1 {α : Type} {A B : List α} {k : Nat} (h : k < A.length) : erL (A ++ B) k = erL A k ++ B := by
  unfold erL
  rw [List.take_append_of_le_length (by omega), List.drop_append_of_le_length (by omega), List.append_assoc]
theorem erL_app2 {α : Type} {A B : List α} {k : Nat} (h : A.length ≤ k) : erL (A ++ B) k = A ++ erL B (k - A.length) := by
  unfold erL
  rw [List.take_append, List.take_of_length_le h, List.drop_append, List.drop_of_length_le (show A.length ≤ k + 1 by omega), List.nil_append, List.append_assoc, show k + 1 - A.length = k - A.length + 1 by omega]
theorem dif_less {S T : List RT} (IS : InvR S) (IT : InvR T) (hT : T.length ≤ 59) {k : Nat} (hk : k < (difL S T).length) : appE S (erL (difL S T) k) = 0 ∧ appL S (erL (difL S T) k) ≠ T := by
  have kS := keys_inv IS
  have kT := keys_inv IT
  obtain ⟨C, hC⟩ : ∃ C, S.filter (fun r => !anyP T r) = C := ⟨_, rfl⟩
  have eC : cutsL S T = C.map fun r => cutAct r.1 := by rw [← hC]; rfl
  have kC : (C.map Prod.fst).Nodup := by rw [← hC]; exact kS.sublist ((List.filter_sublist).map _)
  have memC : ∀ r, r ∈ C ↔ r ∈ S ∧ anyP T r = false := fun r => by rw [← hC, List.mem_filter]; simp
  have anyT : ∀ r, anyP T r = true ↔ ∃ t ∈ T, t.1 = r.1 := fun r => by
    rw [anyP, List.any_eq_true]
    exact ⟨fun ⟨t, a, b⟩ => ⟨t, a, of_decide_eq_true b⟩, fun ⟨t, a, b⟩ => ⟨t, a, decide_eq_true b⟩⟩
  have wi : ∀ t, t ∈ wiL T S ↔ t ∈ T ∧ t ∉ S := fun t => by simp [wiL, List.mem_filter]
  have kW : ((wiL T S).map Prod.fst).Nodup := kT.sublist ((List.filter_sublist).map _)
  rw [difL, eC] at hk ⊢
  by_cases hlt : k < C.length
  · rw [erL_app1 (by rw [List.length_map]; exact hlt), erL_map]
    obtain ⟨a, b, c⟩ := cuts_app (erL C k) S IS (fun r hr => ((memC r).1 (erL_mem hr)).1) (kC.sublist ((erL_sub _ _).map _))
    have hCk := (memC _).1 (List.getElem_mem hlt)
    obtain ⟨a2, b2, c2⟩ := puts_appK (K := C[k].1 :: T.map Prod.fst) (by rw [List.length_cons, List.length_map]; omega) (wiL T S) _ b
      (fun r hr => ⟨IT.fine r ((wi r).1 hr).1, List.mem_cons.2 (.inr (List.mem_map.2 ⟨r, ((wi r).1 hr).1, rfl⟩))⟩)
      (fun x hx => by
        obtain ⟨h1, h2⟩ := (c x).1 hx
        cases hp : anyP T x with
        | true =>
          obtain ⟨t, ht, e⟩ := (anyT x).1 hp
          exact List.mem_cons.2 (.inr (List.mem_map.2 ⟨t, ht, e⟩))
        | false =>
          rcases erL_or hlt ((memC x).2 ⟨h1, hp⟩) with rfl | h
          · exact List.mem_cons_self ..
          · exact absurd rfl (h2 x h)) kW
    refine ⟨by rw [appE_app _ _ _ a]; exact a2, fun e => ?_⟩
    rw [appL_app] at e
    have hin : C[k] ∈ T := by
      rw [← e]
      refine (c2 _).2 (.inr ⟨(c _).2 ⟨hCk.1, fun r hr => erL_key (f := Prod.fst) hlt kC r hr⟩, fun r hr e2 => ?_⟩)
      have := (anyT C[k]).2 ⟨r, ((wi r).1 hr).1, e2.symm⟩
      rw [hCk.2] at this; cases this
    have := (anyT C[k]).2 ⟨_, hin, rfl⟩
    rw [hCk.2] at this; cases this
  · have hk2 : k - C.length < (wiL T S).length := by rw [List.length_append, List.length_map, putsL_len] at hk; omega
    rw [erL_app2 (by rw [List.length_map]; omega), List.length_map, putsL, erL_map]
    obtain ⟨a, b, c⟩ := cuts_app C S IS (fun r hr => ((memC r).1 hr).1) kC
    generalize k - C.length = j at hk2
    obtain ⟨a2, b2, c2⟩ := puts_appK (K := T.map Prod.fst) (by rw [List.length_map]; omega) (erL (wiL T S) j) _ b
      (fun r hr => ⟨IT.fine r ((wi r).1 (erL_mem hr)).1, List.mem_map.2 ⟨r, ((wi r).1 (erL_mem hr)).1, rfl⟩⟩)
      (fun x hx => by
        obtain ⟨h1, h2⟩ := (c x).1 hx
        cases hp : anyP T x with
        | true =>
          obtain ⟨t, ht, e⟩ := (anyT x).1 hp
          exact List.mem_map.2 ⟨t, ht, e⟩
        | false => exact absurd rfl (h2 x ((memC x).2 ⟨h1, hp⟩))) (kW.sublist ((erL_sub _ _).map _))
    refine ⟨by rw [appE_app _ _ _ a]; exact a2, fun e => ?_⟩
    rw [appL_app] at e
    have hw := (wi _).1 (List.getElem_mem hk2)
    have hin := hw.1
    have hky := erL_key (f := Prod.fst) hk2 kW
    generalize (wiL T S)[j] = t at hw hin hky
    rw [← e] at hin
    rcases (c2 _).1 hin with h | ⟨h, _⟩
    · exact hky _ h rfl
    · exact hw.2 ((c _).1 h).1
theorem dif_nil {S T : List RT} (IS : InvR S) (IT : InvR T) (h : difL S T = []) : S = T := by
  have := (dif_app IS IT).2
  rw [h] at this
  exact this
end Go.Proofs.Ytmjlmfbceccjdaa
