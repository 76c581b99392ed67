/-
  Laid together: DNoneM, DeltaG, DBackM, DChunkM, DBackN.
-/
import Derived.Test.YtmjlmfbceccjdaaG29
import Derived.Test.YtmjlmfbceccjdaaG14
import Derived.Test.YtmjlmfbceccjdaaG15
import Derived.Test.YtmjlmfbceccjdaaG16
import Derived.Deep.QuietTactic
/-
  Plain mathematics of DeltaNone: a table in another order; the difference of a table and itself.
-/
namespace Go.Proofs.Ytmjlmfbceccjdaa
open Go.RowKit
set_option linter.unusedVariables false
set_option linter.unusedSimpArgs false
theorem nodup_keysD {U : List RT} (h : (U.map Prod.fst).Nodup) : U.Nodup := by
  rw [List.nodup_iff_pairwise_ne] at *
  rw [List.pairwise_map] at h
  exact h.imp fun {a b} g e => g (by rw [e])
theorem nodup_injD {α : Type} {l : List α} (h : l.Nodup) {i j : Nat} (hi : i < l.length) (hj : j < l.length) (e : l[i] = l[j]) : i = j := by
  rw [List.nodup_iff_pairwise_ne, List.pairwise_iff_getElem] at h
  rcases Nat.lt_trichotomy i j with c | c | c
  · exact absurd e (h i j hi hj c)
  · exact c
  · exact absurd e.symm (h j i hj hi c)
theorem beh_of : ∀ (t S : List RT), (∀ r ∈ t, rtE r = 0) → (t.map Prod.fst).Nodup → (∀ r ∈ t, hasR S r.1 = false) → behE S t = 0
  | [], _, _, _, _ => rfl
  | r :: t, S, h1, h2, h3 => by
    rw [List.map_cons, List.nodup_cons] at h2
    rw [behE, if_pos (h1 r (by simp)), h3 r (by simp)]
    refine beh_of t _ (fun x hx => h1 x (by simp [hx])) h2.2 fun x hx => ?_
    have g := h3 x (by simp [hx])
    rw [hasR, List.any_eq_false] at g ⊢
    intro y hy
    rcases insR_mem.1 hy with rfl | hy
    · simp only [decide_eq_true_eq]
      intro e
      exact h2.1 (List.mem_map.2 ⟨x, hx, e.symm⟩)
    · exact g y hy
theorem tab_of {t : List RT} (h1 : ∀ r ∈ t, rtE r = 0) (h2 : (t.map Prod.fst).Nodup) (h3 : t.length ≤ 60) : tabE t = 0 := by
  unfold tabE; rw [if_neg (by omega)]; exact beh_of t [] h1 h2 fun r _ => rfl
theorem keys_inv {L : List RT} (I : InvR L) : (L.map Prod.fst).Nodup := by
  rw [List.nodup_iff_pairwise_ne, List.pairwise_map]
  exact I.sorted.imp fun h => ltK_ne h
theorem tab_self {L : List RT} (I : InvR L) : tabE L = 0 := tab_of I.fine (keys_inv I) I.size
theorem srt_self {L : List RT} (I : InvR L) : srt L = L := sorted_same _ _ (srt_inv (tab_self I)).sorted I.sorted (srt_mem L)
/-- A list begun at another place. -/
def rotL (L : List RT) (d k : Nat) : List RT := (List.range k).map fun i => L[(i + d) % L.length]!
theorem rotL_len (L : List RT) (d k : Nat) : (rotL L d k).length = k := by simp [rotL]
theorem rotL_succ (L : List RT) (d k : Nat) : rotL L d (k + 1) = rotL L d k ++ [L[(k + d) % L.length]!] := by simp [rotL, List.range_succ]
theorem rotL_mem {L : List RT} {d k : Nat} (h0 : 0 < L.length) {r : RT} (h : r ∈ rotL L d k) : r ∈ L := by
  obtain ⟨i, _, rfl⟩ := List.mem_map.1 h
  have := Nat.mod_lt (i + d) h0
  rw [getElem!_pos L _ this]; exact List.getElem_mem this
theorem rot_inj {m d i j : Nat} (hi : i < m) (hj : j < m) (h : (i + d) % m = (j + d) % m) : i = j := by
  have h1 := Nat.div_add_mod (i + d) m
  have h2 := Nat.div_add_mod (j + d) m
  rw [h] at h1
  rcases Nat.lt_trichotomy ((i + d) / m) ((j + d) / m) with c | c | c
  · have : m * ((i + d) / m) + m ≤ m * ((j + d) / m) := by rw [← Nat.mul_succ]; exact Nat.mul_le_mul_left m c
    omega
  · rw [c] at h1; omega
  · have : m * ((j + d) / m) + m ≤ m * ((i + d) / m) := by rw [← Nat.mul_succ]; exact Nat.mul_le_mul_left m c
    omega
theorem rot_keys {L : List RT} (I : InvR L) (d : Nat) : ((rotL L d L.length).map Prod.fst).Nodup := by
  rw [rotL, List.map_map, List.nodup_iff_pairwise_ne, List.pairwise_map]
  refine List.pairwise_iff_getElem.2 fun i j hi hj hij => ?_
  simp only [List.length_range] at hi hj
  simp only [List.getElem_range, Function.comp]
  intro e
  have h0 : 0 < L.length := by omega
  have a := Nat.mod_lt (i + d) h0
  have b := Nat.mod_lt (j + d) h0
  rw [getElem!_pos L _ a, getElem!_pos L _ b] at e
  have k := keys_inv I
  have := nodup_injD k (i := (i + d) % L.length) (j := (j + d) % L.length) (by simpa using a) (by simpa using b) (by simpa using e)
  have := rot_inj hi hj this
  omega
theorem rot_tab {L : List RT} (I : InvR L) (d : Nat) : tabE (rotL L d L.length) = 0 := by
  rcases Nat.eq_zero_or_pos L.length with h | h
  · rw [h]; rfl
  · exact tab_of (fun r hr => I.fine r (rotL_mem h hr)) (rot_keys I d) (by rw [rotL_len]; exact I.size)
theorem rot_srt {L : List RT} (I : InvR L) (d : Nat) : srt (rotL L d L.length) = L := by
  refine sorted_same _ _ (srt_inv (rot_tab I d)).sorted I.sorted fun x => ?_
  rw [srt_mem]
  rcases Nat.eq_zero_or_pos L.length with h | h
  · rw [h, List.eq_nil_of_length_eq_zero h]; simp [rotL]
  · refine ⟨rotL_mem h, fun hx => ?_⟩
    have nd := nodup_keysD (rot_keys I d)
    refine Classical.byContradiction fun hn => ?_
    have := nodup_len (x :: rotL L d L.length) L (List.nodup_cons.2 ⟨hn, nd⟩) (fun y hy => by
      rcases List.mem_cons.1 hy with rfl | hy
      · exact hx
      · exact rotL_mem h hy)
    rw [List.length_cons, rotL_len] at this
    omega
theorem dif_self {L : List RT} : difL L L = [] := by
  have a : cutsL L L = [] := by
    unfold cutsL
    rw [List.filter_eq_nil_iff.2 fun r hr => by
      have : anyP L r = true := List.any_eq_true.2 ⟨r, hr, decide_eq_true rfl⟩
      simp [this]]
    rfl
  have b : wiL L L = [] := by
    unfold wiL
    rw [List.filter_eq_nil_iff.2 fun r hr => by simp [hr]]
  rw [difL, a, b]; rfl
def oneT : List RT := [((false, 0, 0), 3)]
theorem one_inv : InvR oneT where
  sorted := by simp [oneT, SortedR]
  fine := fun r hr => by
    simp only [oneT, List.mem_singleton] at hr
    subst hr
    have : chkE false 0 0 = 0 := chk_mk false 0 0 (by decide) (by decide) (by unfold lowN; simp)
    simp [rtE, this]
  size := by simp [oneT]
theorem one_dif : dfE [] oneT = 0 ∧ (dfL [] oneT).length = 1 := by
  have h1 : tabE [] = 0 := rfl
  have h2 := tab_self one_inv
  have e : dfE [] oneT = 0 := by rw [dfE, if_pos h1, h2]
  refine ⟨e, ?_⟩
  rw [dfL, if_pos e, srt_self one_inv]
  rfl
end Go.Proofs.Ytmjlmfbceccjdaa
/-
  delta.play: acts on a sorted table, up to the first one with an error.
-/
namespace Go.Proofs.Ytmjlmfbceccjdaa
open Go.RowKit
set_option linter.unusedVariables false
set_option linter.unusedSimpArgs false
/-- The error of an act in a list of acts that may be puts and cuts alone. -/
def actE (L : List RT) (a : ActT) : Int := if a.k = 1 ∨ a.k = 2 then (doA L a).1 else 3
def appE : List RT → List ActT → Int
  | _, [] => 0
  | L, a :: t => if actE L a = 0 then appE (doL L a) t else actE L a
def appL (L : List RT) (l : List ActT) : List RT := l.foldl doL L
theorem runX_app : ∀ (a b : List ActT) (L : List RT), runX L (a ++ b) = runX L a ++ runX (appL L a) b
  | [], b, L => rfl
  | x :: a, b, L => by
    show _ :: runX (doL L x) (a ++ b) = _ :: (runX (doL L x) a ++ _)
    rw [runX_app a b (doL L x)]
    rfl
theorem runL_app (a b : List ActT) : runL (a ++ b) = appL (runL a) b := List.foldl_append ..
theorem runX_atD : ∀ (l : List ActT) (L : List RT) (k : Nat) (hk : k < l.length), (runX L l)[k]? = some (doA (appL L (l.take k)) l[k])
  | a :: t, L, 0, _ => rfl
  | a :: t, L, k + 1, hk => by
    show (doA L a :: runX (doL L a) t)[k + 1]? = _
    rw [List.getElem?_cons_succ, runX_atD t (doL L a) k (by simpa using hk)]
    rfl
theorem appL_take {L : List RT} {l : List ActT} {k : Nat} (hk : k < l.length) : appL L (l.take (k + 1)) = doL (appL L (l.take k)) l[k] := by
  unfold appL; rw [take_snoc hk, List.foldl_append]; rfl
theorem appE_drop {L : List RT} {l : List ActT} {k : Nat} (hk : k < l.length) (h : actE (appL L (l.take k)) l[k] = 0) : appE (appL L (l.take k)) (l.drop k) = appE (appL L (l.take (k + 1))) (l.drop (k + 1)) := by
  rw [List.drop_eq_getElem_cons hk, appE, if_pos h, appL_take hk]
theorem appE_stop {L : List RT} {l : List ActT} {k : Nat} (hk : k < l.length) (h : actE (appL L (l.take k)) l[k] ≠ 0) : appE (appL L (l.take k)) (l.drop k) = actE (appL L (l.take k)) l[k] := by
  rw [List.drop_eq_getElem_cons hk, appE, if_neg h]
/-- A play of the puts of a sorted table and some acts. -/
theorem play_puts {S : List RT} (I : InvR S) {P : List ActT} (hP : P.length ≤ 40) : playE (putsL S ++ P) = 0 ∧ playL (putsL S ++ P) = appL S P ∧ playX (putsL S ++ P) = runX [] (putsL S) ++ runX S P := by
  have h1 : runL (putsL S) = S := by rw [(puts_run (tab_self I)).1, srt_self I]
  have hl : ¬ 100 < (putsL S ++ P).length := by rw [List.length_append, putsL_len]; have := I.size; omega
  refine ⟨by rw [playE, if_neg hl], by rw [playL, if_neg hl, runL_app, h1], by rw [playX, if_neg hl, runX_app]; rw [show appL [] (putsL S) = runL (putsL S) from rfl, h1]⟩
end Go.Proofs.Ytmjlmfbceccjdaa
/-
  Plain mathematics: the difference of two tables makes the one of the other.
-/
namespace Go.Proofs.Ytmjlmfbceccjdaa
open Go.RowKit
set_option linter.unusedVariables false
set_option linter.unusedSimpArgs false
theorem nodup_lenG {α : Type} [DecidableEq α] : ∀ (A L : List α), A.Nodup → (∀ x ∈ A, x ∈ L) → A.length ≤ L.length
  | [], L, _, _ => by simp
  | a :: A, L, hn, hs => by
    rw [List.nodup_cons] at hn
    have ha := hs a (by simp)
    have ih := nodup_lenG A (L.erase a) hn.2 fun x hx => (List.mem_erase_of_ne (fun e => hn.1 (by rw [← e]; exact hx))).2 (hs x (by simp [hx]))
    rw [List.length_erase_of_mem ha] at ih
    have : 0 < L.length := List.length_pos_of_mem ha
    rw [List.length_cons]; omega
theorem appE_app : ∀ (a b : List ActT) (L : List RT), appE L a = 0 → appE L (a ++ b) = appE (appL L a) b
  | [], b, L, _ => rfl
  | x :: a, b, L, h => by
    rw [appE] at h
    by_cases h0 : actE L x = 0
    · rw [if_pos h0] at h
      rw [List.cons_append, appE, if_pos h0, appE_app a b _ h]; rfl
    · rw [if_neg h0] at h; exact absurd h h0
theorem appL_app (a b : List ActT) (L : List RT) : appL L (a ++ b) = appL (appL L a) b := List.foldl_append ..
theorem cuts_app : ∀ (R L : List RT), InvR L → (∀ r ∈ R, r ∈ L) → (R.map Prod.fst).Nodup →
    appE L (R.map fun r => cutAct r.1) = 0 ∧ InvR (appL L (R.map fun r => cutAct r.1)) ∧ ∀ x, x ∈ appL L (R.map fun r => cutAct r.1) ↔ x ∈ L ∧ ∀ r ∈ R, x.1 ≠ r.1
  | [], L, I, _, _ => ⟨rfl, I, fun x => by simp [appL]⟩
  | r :: R, L, I, hR, hk => by
    rw [List.map_cons, List.nodup_cons] at hk
    have hr := hR r (by simp)
    have hz : finE L r.1 = 0 := by
      have h1 := I.val r hr
      have h2 : hasR L r.1 = true := List.any_eq_true.2 ⟨r, hr, decide_eq_true rfl⟩
      rw [finE, if_pos h1, if_pos h2]
    have ha : actE L (cutAct r.1) = 0 := by
      rw [actE, if_pos (.inr rfl)]
      show (doA L (cutAct r.1)).1 = 0
      rw [doA, if_neg (show ¬ (cutAct r.1).k = 1 from by show ¬ (2 : Int) = 1; decide), if_pos (show (cutAct r.1).k = 2 from rfl)]; exact hz
    have hd : doL L (cutAct r.1) = cutL L r.1 := by rw [doL, if_neg (show ¬ (cutAct r.1).k = 1 from by show ¬ (2 : Int) = 1; decide), if_pos (show (cutAct r.1).k = 2 from rfl)]; rfl
    have mem := fun x => cut_mem I hz x
    obtain ⟨a, b, c⟩ := cuts_app R (cutL L r.1) (I.cut _) (fun x hx => (mem x).2 ⟨hR x (by simp [hx]), fun e => hk.1 (List.mem_map.2 ⟨x, hx, e⟩)⟩) hk.2
    refine ⟨?_, ?_, fun x => ?_⟩
    · rw [List.map_cons, appE, if_pos ha, hd]; exact a
    · show InvR (appL (doL L (cutAct r.1)) _); rw [hd]; exact b
    · show x ∈ appL (doL L (cutAct r.1)) _ ↔ _
      rw [hd, c x, mem x]
      constructor
      · rintro ⟨⟨h1, h2⟩, h3⟩
        refine ⟨h1, fun y hy => ?_⟩
        rcases List.mem_cons.1 hy with rfl | hy
        · exact h2
        · exact h3 y hy
      · rintro ⟨h1, h2⟩
        exact ⟨⟨h1, h2 r (by simp)⟩, fun y hy => h2 y (by simp [hy])⟩
theorem puts_app {T : List RT} (IT : InvR T) : ∀ (R L : List RT), InvR L → (∀ r ∈ R, r ∈ T) → (∀ x ∈ L, ∃ t ∈ T, t.1 = x.1) → (R.map Prod.fst).Nodup →
    appE L (putsL R) = 0 ∧ InvR (appL L (putsL R)) ∧ ∀ x, x ∈ appL L (putsL R) ↔ x ∈ R ∨ (x ∈ L ∧ ∀ r ∈ R, x.1 ≠ r.1)
  | [], L, I, _, _, _ => ⟨rfl, I, fun x => by simp [appL, putsL]⟩
  | r :: R, L, I, hR, hL, hk => by
    rw [List.map_cons, List.nodup_cons] at hk
    have hr := hR r (by simp)
    have hz : putE L (r.1, r.2) = 0 := by
      rw [putE, if_pos (show rtE (r.1, r.2) = 0 from IT.fine r hr)]
      by_cases hh : hasR L (r.1, r.2).1 = true
      · rw [if_pos hh]
      · rw [if_neg hh, if_neg]
        intro h60
        -- the keys of L and of r are keys of T
        have hh' : ∀ x ∈ L, x.1 ≠ r.1 := fun x hx e => hh (List.any_eq_true.2 ⟨x, hx, decide_eq_true e⟩)
        have nd : (r.1 :: L.map Prod.fst).Nodup := by
          rw [List.nodup_cons]
          refine ⟨fun hm => ?_, keys_inv I⟩
          obtain ⟨x, hx, e⟩ := List.mem_map.1 hm
          exact hh' x hx e
        have := nodup_lenG (r.1 :: L.map Prod.fst) (T.map Prod.fst) nd (fun k hkm => by
          rcases List.mem_cons.1 hkm with rfl | hkm
          · exact List.mem_map.2 ⟨r, hr, rfl⟩
          · obtain ⟨x, hx, rfl⟩ := List.mem_map.1 hkm
            obtain ⟨t, ht, e⟩ := hL x hx
            exact List.mem_map.2 ⟨t, ht, e⟩)
        rw [List.length_cons, List.length_map, List.length_map] at this
        have := IT.size
        omega
    have ha : actE L (putAct r) = 0 := by
      rw [actE, if_pos (.inl rfl)]
      show (doA L (putAct r)).1 = 0
      rw [doA, if_pos (show (putAct r).k = 1 from rfl)]; exact hz
    have hd : doL L (putAct r) = putL L (r.1, r.2) := by rw [doL, if_pos (show (putAct r).k = 1 from rfl)]; rfl
    have mem := fun x => put_mem I hz x
    obtain ⟨a, b, c⟩ := puts_app IT R (putL L (r.1, r.2)) (I.put _) (fun x hx => hR x (by simp [hx])) (fun x hx => by
      rcases (mem x).1 hx with rfl | ⟨h, _⟩
      · exact ⟨r, hr, rfl⟩
      · exact hL x h) hk.2
    refine ⟨?_, ?_, fun x => ?_⟩
    · show appE L (putAct r :: putsL R) = 0
      rw [appE, if_pos ha, hd]; exact a
    · show InvR (appL (doL L (putAct r)) _); rw [hd]; exact b
    · show x ∈ appL (doL L (putAct r)) (putsL R) ↔ _
      rw [hd, c x, mem x]
      constructor
      · rintro (h | ⟨h, h3⟩)
        · exact .inl (by simp [h])
        · rcases h with rfl | ⟨h1, h2⟩
          · exact .inl (by simp)
          · refine .inr ⟨h1, fun y hy => ?_⟩
            rcases List.mem_cons.1 hy with rfl | hy
            · exact h2
            · exact h3 y hy
      · rintro (h | ⟨h1, h2⟩)
        · rcases List.mem_cons.1 h with rfl | h
          · exact .inr ⟨.inl rfl, fun y hy e => hk.1 (List.mem_map.2 ⟨y, hy, e.symm⟩)⟩
          · exact .inl h
        · exact .inr ⟨.inr ⟨h1, h2 r (by simp)⟩, fun y hy => h2 y (by simp [hy])⟩
/-- The difference of two tables, applied to the first one, makes the second one, with no error. -/
theorem dif_app {S T : List RT} (IS : InvR S) (IT : InvR T) : appE S (difL S T) = 0 ∧ appL S (difL S T) = T := by
  have kS := keys_inv IS
  have kT := keys_inv IT
  obtain ⟨a, b, c⟩ := cuts_app (S.filter fun r => !anyP T r) S IS (fun r hr => (List.mem_filter.1 hr).1) (kS.sublist ((List.filter_sublist).map _))
  have inT : ∀ x, x ∈ appL S (cutsL S T) ↔ x ∈ S ∧ ∃ t ∈ T, t.1 = x.1 := fun x => by
    refine (c x).trans ⟨fun ⟨h1, h2⟩ => ⟨h1, ?_⟩, fun ⟨h1, t, ht, e⟩ => ⟨h1, fun r hr e2 => ?_⟩⟩
    · cases hp : anyP T x with
      | true =>
        obtain ⟨t, ht, e⟩ := List.any_eq_true.1 hp
        exact ⟨t, ht, of_decide_eq_true e⟩
      | false => exact absurd rfl (h2 x (List.mem_filter.2 ⟨h1, by rw [hp]; rfl⟩))
    · have h3 := (List.mem_filter.1 hr).2
      have : anyP T r = true := List.any_eq_true.2 ⟨t, ht, decide_eq_true (e.trans e2)⟩
      rw [this] at h3; cases h3
  obtain ⟨a2, b2, c2⟩ := puts_app IT (wiL T S) (appL S (cutsL S T)) b (fun r hr => (List.mem_filter.1 hr).1) (fun x hx => ((inT x).1 hx).2) (kT.sublist ((List.filter_sublist).map _))
  refine ⟨by rw [difL, appE_app _ _ _ (show appE S (cutsL S T) = 0 from a)]; exact a2, ?_⟩
  rw [difL, appL_app]
  refine sorted_same _ _ b2.sorted IT.sorted fun x => ?_
  rw [c2 x]
  have wi : ∀ t, t ∈ wiL T S ↔ t ∈ T ∧ t ∉ S := fun t => by simp [wiL, List.mem_filter]
  constructor
  · rintro (h | ⟨h1, h2⟩)
    · exact ((wi x).1 h).1
    · obtain ⟨hx, t, ht, e⟩ := (inT x).1 h1
      by_cases hts : t ∈ S
      · rw [← IS.sorted.key hts hx e]; exact ht
      · exact absurd e.symm (h2 t ((wi t).2 ⟨ht, hts⟩))
  · intro hx
    by_cases hs : x ∈ S
    · refine .inr ⟨(inT x).2 ⟨hs, x, hx, rfl⟩, fun r hr e => ?_⟩
      obtain ⟨hrT, hrS⟩ := (wi r).1 hr
      exact hrS (by rw [← IT.sorted.key hx hrT e]; exact hs)
    · exact .inl ((wi x).2 ⟨hx, hs⟩)
end Go.Proofs.Ytmjlmfbceccjdaa
/-
  Plain mathematics: acts applied part by part.
-/
namespace Go.Proofs.Ytmjlmfbceccjdaa
open Go.RowKit
set_option linter.unusedVariables false
set_option linter.unusedSimpArgs false
theorem appE_bad : ∀ (a b : List ActT) (L : List RT), appE L a ≠ 0 → appE L (a ++ b) = appE L a
  | [], b, L, h => absurd rfl h
  | x :: a, b, L, h => by
    rw [List.cons_append, appE, appE]
    rw [appE] at h
    by_cases h0 : actE L x = 0
    · rw [if_pos h0] at h ⊢
      rw [if_pos h0]; exact appE_bad a b _ h
    · rw [if_neg h0, if_neg h0]
theorem doL_inv {L : List RT} (I : InvR L) (a : ActT) : InvR (doL L a) := by
  unfold doL
  by_cases h1 : a.k = 1
  · rw [if_pos h1]; exact I.put _
  · rw [if_neg h1]
    by_cases h2 : a.k = 2
    · rw [if_pos h2]; exact I.cut _
    · rw [if_neg h2]; exact I
theorem appL_inv : ∀ (a : List ActT) {L : List RT}, InvR L → InvR (appL L a)
  | [], _, I => I
  | x :: a, _, I => appL_inv a (doL_inv I x)
/-- A part that went well: the table behind it. -/
theorem part_good {S : List RT} {P : List ActT} {i m : Nat} (h : appE S (P.take i) = 0) : appE S (P.take (i + m)) = appE (appL S (P.take i)) ((P.drop i).take m) ∧ appL S (P.take (i + m)) = appL (appL S (P.take i)) ((P.drop i).take m) := by
  rw [List.take_add]
  exact ⟨appE_app _ _ _ h, appL_app _ _ _⟩
/-- A part that went wrong: so went all. -/
theorem part_bad {S : List RT} {P : List ActT} {i m : Nat} (h : appE S (P.take i) = 0) (h2 : appE (appL S (P.take i)) ((P.drop i).take m) ≠ 0) : appE S P = appE (appL S (P.take i)) ((P.drop i).take m) := by
  have e : P = P.take i ++ ((P.drop i).take m ++ (P.drop i).drop m) := by rw [List.take_append_drop, List.take_append_drop]
  have h3 : appE S P = appE S (P.take i ++ ((P.drop i).take m ++ (P.drop i).drop m)) := congrArg _ e
  rw [h3, appE_app _ _ _ h]
  exact appE_bad _ _ _ h2
end Go.Proofs.Ytmjlmfbceccjdaa
/-
  Plain mathematics: a difference with one act left out makes another table.
-/
namespace Go.Proofs.Ytmjlmfbceccjdaa
open Go.RowKit
set_option linter.unusedVariables false
set_option linter.unusedSimpArgs false
theorem put_actE {L : List RT} {r : RT} (h : putE L r = 0) : actE L (putAct r) = 0 := by
  rw [actE, if_pos (.inl rfl)]
  show (doA L (putAct r)).1 = 0
  rw [doA, if_pos (show (putAct r).k = 1 from rfl)]; exact h
theorem put_doL (L : List RT) (r : RT) : doL L (putAct r) = putL L r := by rw [doL, if_pos (show (putAct r).k = 1 from rfl)]; rfl
theorem puts_appK {K : List PK} (hK : K.length ≤ 60) : ∀ (R L : List RT), InvR L → (∀ r ∈ R, rtE r = 0 ∧ r.1 ∈ K) → (∀ x ∈ L, x.1 ∈ K) → (R.map Prod.fst).Nodup →
    appE L (putsL R) = 0 ∧ InvR (appL L (putsL R)) ∧ ∀ x, x ∈ appL L (putsL R) ↔ x ∈ R ∨ (x ∈ L ∧ ∀ r ∈ R, x.1 ≠ r.1)
  | [], L, I, _, _, _ => ⟨rfl, I, fun x => by simp [appL, putsL]⟩
  | r :: R, L, I, hR, hL, hk => by
    rw [List.map_cons, List.nodup_cons] at hk
    have hr := hR r (by simp)
    have hz : putE L (r.1, r.2) = 0 := by
      rw [putE, if_pos (show rtE (r.1, r.2) = 0 from hr.1)]
      by_cases hh : hasR L (r.1, r.2).1 = true
      · rw [if_pos hh]
      · rw [if_neg hh, if_neg]
        intro h60
        have hh' : ∀ x ∈ L, x.1 ≠ r.1 := fun x hx e => hh (List.any_eq_true.2 ⟨x, hx, decide_eq_true e⟩)
        have nd : (r.1 :: L.map Prod.fst).Nodup := by
          rw [List.nodup_cons]
          refine ⟨fun hm => ?_, keys_inv I⟩
          obtain ⟨x, hx, e⟩ := List.mem_map.1 hm
          exact hh' x hx e
        have := nodup_lenG (r.1 :: L.map Prod.fst) K nd (fun k hkm => by
          rcases List.mem_cons.1 hkm with rfl | hkm
          · exact hr.2
          · obtain ⟨x, hx, rfl⟩ := List.mem_map.1 hkm
            exact hL x hx)
        rw [List.length_cons, List.length_map] at this
        omega
    have ha := put_actE hz
    have hd := put_doL L (r.1, r.2)
    have mem := fun x => put_mem I hz x
    obtain ⟨a, b, c⟩ := puts_appK hK R (putL L (r.1, r.2)) (I.put _) (fun x hx => hR x (by simp [hx])) (fun x hx => by
      rcases (mem x).1 hx with rfl | ⟨h, _⟩
      · exact hr.2
      · exact hL x h) hk.2
    refine ⟨?_, ?_, fun x => ?_⟩
    · show appE L (putAct r :: putsL R) = 0
      rw [appE, if_pos ha, hd]; exact a
    · show InvR (appL (doL L (putAct r)) _); rw [show doL L (putAct r) = _ from hd]; exact b
    · show x ∈ appL (doL L (putAct r)) (putsL R) ↔ _
      rw [show doL L (putAct r) = _ from hd, c x, mem x]
      constructor
      · rintro (h | ⟨h, h3⟩)
        · exact .inl (by simp [h])
        · rcases h with rfl | ⟨h1, h2⟩
          · exact .inl (by simp)
          · refine .inr ⟨h1, fun y hy => ?_⟩
            rcases List.mem_cons.1 hy with rfl | hy
            · exact h2
            · exact h3 y hy
      · rintro (h | ⟨h1, h2⟩)
        · rcases List.mem_cons.1 h with rfl | h
          · exact .inr ⟨.inl rfl, fun y hy e => hk.1 (List.mem_map.2 ⟨y, hy, e.symm⟩)⟩
          · exact .inl h
        · exact .inr ⟨.inr ⟨h1, h2 r (by simp)⟩, fun y hy => h2 y (by simp [hy])⟩
/-- A list without one of its elements. -/
def erL {α : Type} (R : List α) (k : Nat) : List α := R.take k ++ R.drop (k + 1)
theorem erL_mem {α : Type} {R : List α} {k : Nat} {x : α} (h : x ∈ erL R k) : x ∈ R := by
  rcases List.mem_append.1 h with h | h
  · exact List.mem_of_mem_take h
  · exact List.mem_of_mem_drop h
theorem erL_or {α : Type} {R : List α} {k : Nat} (hk : k < R.length) {x : α} (h : x ∈ R) : x = R[k] ∨ x ∈ erL R k := by
  have e : R = R.take k ++ R[k] :: R.drop (k + 1) := by rw [← List.drop_eq_getElem_cons hk, List.take_append_drop]
  rw [e] at h
  rcases List.mem_append.1 h with h | h
  · exact .inr (List.mem_append.2 (.inl h))
  · rcases List.mem_cons.1 h with h | h
    · exact .inl h
    · exact .inr (List.mem_append.2 (.inr h))
theorem erL_map {α β : Type} (f : α → β) (R : List α) (k : Nat) : erL (R.map f) k = (erL R k).map f := by unfold erL; rw [List.map_append, List.map_take, List.map_drop]
theorem erL_sub {α : Type} (R : List α) (k : Nat) : (erL R k).Sublist R := by
  have : (R.take k ++ R.drop (k + 1)).Sublist (R.take k ++ R.drop k) := by
    refine List.Sublist.append (List.Sublist.refl _) ?_
    rw [show k + 1 = k + 1 from rfl, ← List.drop_drop]
    exact List.drop_sublist _ _
  rwa [List.take_append_drop] at this
theorem erL_key {α β : Type} {f : α → β} {R : List α} {k : Nat} (hk : k < R.length) (hn : (R.map f).Nodup) : ∀ r ∈ erL R k, f R[k] ≠ f r := by
  have e : R = R.take k ++ R[k] :: R.drop (k + 1) := by rw [← List.drop_eq_getElem_cons hk, List.take_append_drop]
  rw [e, List.map_append, List.map_cons, List.nodup_append] at hn
  obtain ⟨h1, h2, h3⟩ := hn
  rw [List.nodup_cons] at h2
  intro r hr e2
  rcases List.mem_append.1 hr with h | h
  · exact h3 _ (List.mem_map.2 ⟨r, h, rfl⟩) _ (List.mem_cons_self ..) e2.symm
  · exact h2.1 (List.mem_map.2 ⟨r, h, e2.symm⟩)
theorem erL_app1 {α : Type} {A B : List α} {k : Nat} (h : k < A.length) : erL (A ++ B) k = erL A k ++ B := by
  unfold erL
  rw [List.take_append_of_le_length (by omega), List.drop_append_of_le_length (by omega), List.append_assoc]
theorem erL_app2 {α : Type} {A B : List α} {k : Nat} (h : A.length ≤ k) : erL (A ++ B) k = A ++ erL B (k - A.length) := by
  unfold erL
  rw [List.take_append, List.take_of_length_le h, List.drop_append, List.drop_of_length_le (show A.length ≤ k + 1 by omega), List.nil_append, List.append_assoc, show k + 1 - A.length = k - A.length + 1 by omega]
theorem dif_less {S T : List RT} (IS : InvR S) (IT : InvR T) (hT : T.length ≤ 59) {k : Nat} (hk : k < (difL S T).length) : appE S (erL (difL S T) k) = 0 ∧ appL S (erL (difL S T) k) ≠ T := by
  have kS := keys_inv IS
  have kT := keys_inv IT
  obtain ⟨C, hC⟩ : ∃ C, S.filter (fun r => !anyP T r) = C := ⟨_, rfl⟩
  have eC : cutsL S T = C.map fun r => cutAct r.1 := by rw [← hC]; rfl
  have kC : (C.map Prod.fst).Nodup := by rw [← hC]; exact kS.sublist ((List.filter_sublist).map _)
  have memC : ∀ r, r ∈ C ↔ r ∈ S ∧ anyP T r = false := fun r => by rw [← hC, List.mem_filter]; simp
  have anyT : ∀ r, anyP T r = true ↔ ∃ t ∈ T, t.1 = r.1 := fun r => by
    rw [anyP, List.any_eq_true]
    exact ⟨fun ⟨t, a, b⟩ => ⟨t, a, of_decide_eq_true b⟩, fun ⟨t, a, b⟩ => ⟨t, a, decide_eq_true b⟩⟩
  have wi : ∀ t, t ∈ wiL T S ↔ t ∈ T ∧ t ∉ S := fun t => by simp [wiL, List.mem_filter]
  have kW : ((wiL T S).map Prod.fst).Nodup := kT.sublist ((List.filter_sublist).map _)
  rw [difL, eC] at hk ⊢
  by_cases hlt : k < C.length
  · rw [erL_app1 (by rw [List.length_map]; exact hlt), erL_map]
    obtain ⟨a, b, c⟩ := cuts_app (erL C k) S IS (fun r hr => ((memC r).1 (erL_mem hr)).1) (kC.sublist ((erL_sub _ _).map _))
    have hCk := (memC _).1 (List.getElem_mem hlt)
    obtain ⟨a2, b2, c2⟩ := puts_appK (K := C[k].1 :: T.map Prod.fst) (by rw [List.length_cons, List.length_map]; omega) (wiL T S) _ b
      (fun r hr => ⟨IT.fine r ((wi r).1 hr).1, List.mem_cons.2 (.inr (List.mem_map.2 ⟨r, ((wi r).1 hr).1, rfl⟩))⟩)
      (fun x hx => by
        obtain ⟨h1, h2⟩ := (c x).1 hx
        cases hp : anyP T x with
        | true =>
          obtain ⟨t, ht, e⟩ := (anyT x).1 hp
          exact List.mem_cons.2 (.inr (List.mem_map.2 ⟨t, ht, e⟩))
        | false =>
          rcases erL_or hlt ((memC x).2 ⟨h1, hp⟩) with rfl | h
          · exact List.mem_cons_self ..
          · exact absurd rfl (h2 x h)) kW
    refine ⟨by rw [appE_app _ _ _ a]; exact a2, fun e => ?_⟩
    rw [appL_app] at e
    have hin : C[k] ∈ T := by
      rw [← e]
      refine (c2 _).2 (.inr ⟨(c _).2 ⟨hCk.1, fun r hr => erL_key (f := Prod.fst) hlt kC r hr⟩, fun r hr e2 => ?_⟩)
      have := (anyT C[k]).2 ⟨r, ((wi r).1 hr).1, e2.symm⟩
      rw [hCk.2] at this; cases this
    have := (anyT C[k]).2 ⟨_, hin, rfl⟩
    rw [hCk.2] at this; cases this
  · have hk2 : k - C.length < (wiL T S).length := by rw [List.length_append, List.length_map, putsL_len] at hk; omega
    rw [erL_app2 (by rw [List.length_map]; omega), List.length_map, putsL, erL_map]
    obtain ⟨a, b, c⟩ := cuts_app C S IS (fun r hr => ((memC r).1 hr).1) kC
    generalize k - C.length = j at hk2
    obtain ⟨a2, b2, c2⟩ := puts_appK (K := T.map Prod.fst) (by rw [List.length_map]; omega) (erL (wiL T S) j) _ b
      (fun r hr => ⟨IT.fine r ((wi r).1 (erL_mem hr)).1, List.mem_map.2 ⟨r, ((wi r).1 (erL_mem hr)).1, rfl⟩⟩)
      (fun x hx => by
        obtain ⟨h1, h2⟩ := (c x).1 hx
        cases hp : anyP T x with
        | true =>
          obtain ⟨t, ht, e⟩ := (anyT x).1 hp
          exact List.mem_map.2 ⟨t, ht, e⟩
        | false => exact absurd rfl (h2 x ((memC x).2 ⟨h1, hp⟩))) (kW.sublist ((erL_sub _ _).map _))
    refine ⟨by rw [appE_app _ _ _ a]; exact a2, fun e => ?_⟩
    rw [appL_app] at e
    have hw := (wi _).1 (List.getElem_mem hk2)
    have hin := hw.1
    have hky := erL_key (f := Prod.fst) hk2 kW
    generalize (wiL T S)[j] = t at hw hin hky
    rw [← e] at hin
    rcases (c2 _).1 hin with h | ⟨h, _⟩
    · exact hky _ h rfl
    · exact hw.2 ((c _).1 h).1
theorem dif_nil {S T : List RT} (IS : InvR S) (IT : InvR T) (h : difL S T = []) : S = T := by
  have := (dif_app IS IT).2
  rw [h] at this
  exact this
end Go.Proofs.Ytmjlmfbceccjdaa
