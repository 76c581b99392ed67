/-
  Plain mathematics: the difference of two tables makes the one of the other.
-/
import Derived.Test.YtmjlmfbceccjdaaG23
import Derived.Test.YtmjlmfbceccjdaaG14
namespace Go.Proofs.Ytmjlmfbceccjdaa
open Go.RowKit
set_option linter.unusedVariables false
set_option linter.unusedSimpArgs false
theorem nodup_lenG {α : Type} [DecidableEq α] : ∀ (A L : List α), A.Nodup → (∀ x ∈ A, x ∈ L) → A.length ≤ L.length
  | [], L, _, _ => by simp
  | a :: A, L, hn, hs => by
    rw [List.nodup_cons] at hn
    have ha := hs a (by simp)
    have ih := nodup_lenG A (L.erase a) hn.2 fun x hx => (List.mem_erase_of_ne (fun e => hn.1 (by rw [← e]; exact hx))).2 (hs x (by simp [hx]))
    rw [List.length_erase_of_mem ha] at ih
    have : 0 < L.length := List.length_pos_of_mem ha
    rw [List.length_cons]; omega
theorem appE_app : ∀ (a b : List ActT) (L : List RT), appE L a = 0 → appE L (a ++ b) = appE (appL L a) b
  | [], b, L, _ => rfl
  | x :: a, b, L, h => by
    rw [appE] at h
    by_cases h0 : actE L x = 0
    · rw [if_pos h0] at h
      rw [List.cons_append, appE, if_pos h0, appE_app a b _ h]; rfl
    · rw [if_neg h0] at h; exact absurd h h0
theorem appL_app (a b : List ActT) (L : List RT) : appL L (a ++ b) = appL (appL L a) b := List.foldl_append ..
theorem cuts_app : ∀ (R L : List RT), InvR L → (∀ r ∈ R, r ∈ L) → (R.map Prod.fst).Nodup →
    appE L (R.map fun r => cutAct r.1) = 0 ∧ InvR (appL L (R.map fun r => cutAct r.1)) ∧ ∀ x, x ∈ appL L (R.map fun r => cutAct r.1) ↔ x ∈ L ∧ ∀ r ∈ R, x.1 ≠ r.1
  | [], L, I, _, _ => ⟨rfl, I, fun x => by simp [appL]⟩
  | r :: R, L, I, hR, hk => by
    rw [List.map_cons, List.nodup_cons] at hk
    have hr := hR r (by simp)
    have hz : finE L r.1 = 0 := by
      have h1 := I.val r hr
      have h2 : hasR L r.1 = true := List.any_eq_true.2 ⟨r, hr, decide_eq_true rfl⟩
      rw [finE, if_pos h1, if_pos h2]
    have ha : actE L (cutAct r.1) = 0 := by
      rw [actE, if_pos (.inr rfl)]
      show (doA L (cutAct r.1)).1 = 0
      rw [doA, if_neg (show ¬ (cutAct r.1).k = 1 from by show ¬ (2 : Int) = 1; decide), if_pos (show (cutAct r.1).k = 2 from rfl)]; exact hz
    have hd : doL L (cutAct r.1) = cutL L r.1 := by rw [doL, if_neg (show ¬ (cutAct r.1).k = 1 from by show ¬ (2 : Int) = 1; decide), if_pos (show (cutAct r.1).k = 2 from rfl)]; rfl
    have mem := fun x => cut_mem I hz x
    obtain ⟨a, b, c⟩ := cuts_app R (cutL L r.1) (I.cut _) (fun x hx => (mem x).2 ⟨hR x (by simp [hx]), fun e => hk.1 (List.mem_map.2 ⟨x, hx, e⟩)⟩) hk.2
    refine ⟨?_, ?_, fun x => ?_⟩
    · rw [List.map_cons, appE, if_pos ha, hd]; exact a
    · show InvR (appL (doL L (cutAct r.1)) _); rw [hd]; exact b
    · show x ∈ appL (doL L (cutAct r.1)) _ ↔ _
      rw [hd, c x, mem x]
      constructor
      · rintro ⟨⟨h1, h2⟩, h3⟩
        refine ⟨h1, fun y hy => ?_⟩
        rcases List.mem_cons.1 hy with rfl | hy
        · exact h2
        · exact h3 y hy
      · rintro ⟨h1, h2⟩
        exact ⟨⟨h1, h2 r (by simp)⟩, fun y hy => h2 y (by simp [hy])⟩
theorem puts_app {T : List RT} (IT : InvR T) : ∀ (R L : List RT), InvR L → (∀ r ∈ R, r ∈ T) → (∀ x ∈ L, ∃ t ∈ T, t.1 = x.1) → (R.map Prod.fst).Nodup →
    appE L (putsL R) = 0 ∧ InvR (appL L (putsL R)) ∧ ∀ x, x ∈ appL L (putsL R) ↔ x ∈ R ∨ (x ∈ L ∧ ∀ r ∈ R, x.1 ≠ r.1)
  | [], L, I, _, _, _ => ⟨rfl, I, fun x => by simp [appL, putsL]⟩
  | r :: R, L, I, hR, hL, hk => by
    rw [List.map_cons, List.nodup_cons] at hk
    have hr := hR r (by simp)
    have hz : putE L (r.1, r.2) = 0 := by
      rw [putE, if_pos (show rtE (r.1, r.2) = 0 from IT.fine r hr)]
      by_cases hh : hasR L (r.1, r.2).1 = true
      · rw [if_pos hh]
      · rw [if_neg hh, if_neg]
        intro h60
        -- the keys of L and of r are keys of T
        have hh' : ∀ x ∈ L, x.1 ≠ r.1 := fun x hx e => hh (List.any_eq_true.2 ⟨x, hx, decide_eq_true e⟩)
        have nd : (r.1 :: L.map Prod.fst).Nodup := by
          rw [List.nodup_cons]
          refine ⟨fun hm => ?_, keys_inv I⟩
          obtain ⟨x, hx, e⟩ := List.mem_map.1 hm
          exact hh' x hx e
        have := nodup_lenG (r.1 :: L.map Prod.fst) (T.map Prod.fst) nd (fun k hkm => by
          rcases List.mem_cons.1 hkm with rfl | hkm
          · exact List.mem_map.2 ⟨r, hr, rfl⟩
          · obtain ⟨x, hx, rfl⟩ := List.mem_map.1 hkm
            obtain ⟨t, ht, e⟩ := hL x hx
            exact List.mem_map.2 ⟨t, ht, e⟩)
        rw [List.length_cons, List.length_map, List.length_map] at this
        have := IT.size
        omega
    have ha : actE L (putAct r) = 0 := by
      rw [actE, if_pos (.inl rfl)]
      show (doA L (putAct r)).1 = 0
      rw [doA, if_pos (show (putAct r).k = 1 from rfl)]; exact hz
    have hd : doL L (putAct r) = putL L (r.1, r.2) := by rw [doL, if_pos (show (putAct r).k = 1 from rfl)]; rfl
    have mem := fun x => put_mem I hz x
    obtain ⟨a, b, c⟩ := puts_app IT R (putL L (r.1, r.2)) (I.put _) (fun x hx => hR x (by simp [hx])) (fun x hx => by
      rcases (mem x).1 hx with rfl | ⟨h, _⟩
      · exact ⟨r, hr, rfl⟩
      · exact hL x h) hk.2
    refine ⟨?_, ?_, fun x => ?_⟩
    · show appE L (putAct r :: putsL R) = 0
      rw [appE, if_pos ha, hd]; exact a
    · show InvR (appL (doL L (putAct r)) _); rw [hd]; exact b
    · show x ∈ appL (doL L (putAct r)) (putsL R) ↔ _
      rw [hd, c x, mem x]
      constructor
      · rintro (h | ⟨h, h3⟩)
        · exact .inl (by simp [h])
        · rcases h with rfl | ⟨h1, h2⟩
          · exact .inl (by simp)
          · refine .inr ⟨h1, fun y hy => ?_⟩
            rcases List.mem_cons.1 hy with rfl | hy
            · exact h2
            · exact h3 y hy
      · rintro (h | ⟨h1, h2⟩)
        · rcases List.mem_cons.1 h with rfl | h
          · exact .inr ⟨.inl rfl, fun y hy e => hk.1 (List.mem_map.2 ⟨y, hy, e.symm⟩)⟩
          · exact .inl h
        · exact .inr ⟨.inr ⟨h1, h2 r (by simp)⟩, fun y hy => h2 y (by simp [hy])⟩
/-- The difference of two tables, applied to the first one, makes the second one, with no error. -/
theorem dif_app {S T : List RT} (IS : InvR S) (IT : InvR T) : appE S (difL S T) = 0 ∧ appL S (difL S T) = T := by
  have kS := keys_inv IS
  have kT := keys_inv IT
  obtain ⟨a, b, c⟩ := cuts_app (S.filter fun r => !anyP T r) S IS (fun r hr => (List.mem_filter.1 hr).1) (kS.sublist ((List.filter_sublist).map _))
  have inT : ∀ x, x ∈ appL S (cutsL S T) ↔ x ∈ S ∧ ∃ t ∈ T, t.1 = x.1 := fun x => by
    refine (c x).trans ⟨fun ⟨h1, h2⟩ => ⟨h1, ?_⟩, fun ⟨h1, t, ht, e⟩ => ⟨h1, fun r hr e2 => ?_⟩⟩
    · cases hp : anyP T x with
      | true =>
        obtain ⟨t, ht, e⟩ := List.any_eq_true.1 hp
        exact ⟨t, ht, of_decide_eq_true e⟩
      | false => exact absurd rfl (h2 x (List.mem_filter.2 ⟨h1, by rw [hp]; rfl⟩))
    · have h3 := (List.mem_filter.1 hr).2
      have : anyP T r = true := List.any_eq_true.2 ⟨t, ht, decide_eq_true (e.trans e2)⟩
      rw [this] at h3; cases h3
  obtain ⟨a2, b2, c2⟩ := puts_app IT (wiL T S) (appL S (cutsL S T)) b (fun r hr => (List.mem_filter.1 hr).1) (fun x hx => ((inT x).1 hx).2) (kT.sublist ((List.filter_sublist).map _))
  refine ⟨by rw [difL, appE_app _ _ _ (show appE S (cutsL S T) = 0 from a)]; exact a2, ?_⟩
  rw [difL, appL_app]
  refine sorted_same _ _ b2.sorted IT.sorted fun x => ?_
  rw [c2 x]
  have wi : ∀ t, t ∈ wiL T S ↔ t ∈ T ∧ t ∉ S := fun t => by simp [wiL, List.mem_filter]
  constructor
  · rintro (h | ⟨h1, h2⟩)
    · exact ((wi x).1 h).1
    · obtain ⟨hx, t, ht, e⟩ := (inT x).1 h1
      by_cases hts : t ∈ S
      · rw [← IS.sorted.key hts hx e]; exact ht
      · exact absurd e.symm (h2 t ((wi t).2 ⟨ht, hts⟩))
  · intro hx
    by_cases hs : x ∈ S
    · refine .inr ⟨(inT x).2 ⟨hs, x, hx, rfl⟩, fun r hr e => ?_⟩
      obtain ⟨hrT, hrS⟩ := (wi r).1 hr
      exact hrS (by rw [← IT.sorted.key hx hrT e]; exact hs)
    · exact .inl ((wi x).2 ⟨hx, hs⟩)
end Go.Proofs.Ytmjlmfbceccjdaa
