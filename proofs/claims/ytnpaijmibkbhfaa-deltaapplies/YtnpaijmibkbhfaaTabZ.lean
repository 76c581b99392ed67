/-
  Plain mathematics: a route put and cut again; the hop of a prefix.
-/
import Derived.Test.YtnpaijmibkbhfaaG7
namespace Go.Proofs.Ytnpaijmibkbhfaa
open Go.RowKit
set_option linter.unusedVariables false
set_option linter.unusedSimpArgs false

theorem pos_keys (l : List RT) (p : PK) : posR l p = (l.map Prod.fst).countP fun k => decide (ltK k p) := by unfold posR; rw [List.countP_map]; rfl
theorem set_keys {L : List RT} {i : Nat} {r : RT} (hi : i < L.length) (e : (L[i]).1 = r.1) : (L.set i r).map Prod.fst = L.map Prod.fst := by
  rw [List.map_set]
  refine List.ext_getElem (by simp) fun j h1 h2 => ?_
  rw [List.getElem_set]
  split
  · rename_i h; subst h; simp [e]
  · rfl
theorem has_keys (l : List RT) (p : PK) : hasR l p = (l.map Prod.fst).any fun k => decide (k = p) := by unfold hasR; rw [List.any_map]; rfl
theorem pos_set {L : List RT} {i : Nat} {r : RT} (hi : i < L.length) (e : (L[i]).1 = r.1) (p : PK) : posR (L.set i r) p = posR L p := by rw [pos_keys, pos_keys, set_keys hi e]
theorem has_set {L : List RT} {i : Nat} {r : RT} (hi : i < L.length) (e : (L[i]).1 = r.1) (p : PK) : hasR (L.set i r) p = hasR L p := by rw [has_keys, has_keys, set_keys hi e]
theorem pos_ins {L : List RT} (hs : SortedR L) {r : RT} (hn : hasR L r.1 = false) : posR (insR L r) r.1 = posR L r.1 := by
  have hp := posR_le L r.1
  have hS := hs.ins hn
  have hl := insR_len L r
  have hat : (insR L r)[posR L r.1]'(by omega) = r := by
    unfold insR
    rw [List.getElem_append_right (by rw [List.length_take]; omega)]
    simp [List.length_take, Nat.min_eq_left hp]
  refine posR_of _ (by omega) (fun t ht hlt => ?_) (fun t ht hge => ?_)
  · have := hS.lt hlt (show posR L r.1 < (insR L r).length by omega)
    rw [hat] at this
    exact this
  · by_cases e : t = posR L r.1
    · subst e; rw [hat]; exact ltK_irrefl _
    · have := hS.lt (show posR L r.1 < t by omega) ht
      rw [hat] at this
      exact ltK_asymm this
theorem del_ins {L : List RT} (hs : SortedR L) {r : RT} (hn : hasR L r.1 = false) : delR (insR L r) r.1 = L := by
  unfold delR
  rw [pos_ins hs hn]
  have hp := posR_le L r.1
  have hl : (L.take (posR L r.1)).length = posR L r.1 := by rw [List.length_take]; omega
  unfold insR
  rw [List.take_append_of_le_length (by omega), List.take_of_length_le (by omega), List.drop_append, List.drop_eq_nil_of_le (by omega), hl, Nat.add_sub_cancel_left]
  simp
/-- The hop of the last route with this prefix. -/
def hadZ (q : PK) (l : List RT) : Int := l.foldl (fun h r => if r.1 = q then r.2 else h) 0
theorem hadZ_take {q : PK} {l : List RT} {k : Nat} (hk : k < l.length) : hadZ q (l.take (k + 1)) = if l[k].1 = q then l[k].2 else hadZ q (l.take k) := by
  unfold hadZ; rw [take_snoc hk, List.foldl_append, List.foldl_cons, List.foldl_nil]
theorem had_none (q : PK) : ∀ (l : List RT) (h : Int), (∀ r ∈ l, r.1 ≠ q) → l.foldl (fun h r => if r.1 = q then r.2 else h) h = h
  | [], h, _ => rfl
  | r :: t, h, hr => by rw [List.foldl_cons, if_neg (hr r (by simp))]; exact had_none q t h (fun x hx => hr x (by simp [hx]))
theorem hadZ_eq {q : PK} {L : List RT} (hs : SortedR L) : hadZ q L = if hasR L q then hopR L q else 0 := by
  by_cases hh : hasR L q = true
  · rw [if_pos hh]
    obtain ⟨ht, e⟩ := hs.found.1 hh
    have e4 : (L[posR L q]'ht).2 = hopR L q := by simp [hopR, List.getElem?_eq_getElem ht]
    have eL : L = L.take (posR L q) ++ (L[posR L q]'ht :: L.drop (posR L q + 1)) := by rw [← List.drop_eq_getElem_cons ht, List.take_append_drop]
    unfold hadZ
    conv => lhs; rw [eL]
    rw [List.foldl_append, List.foldl_cons, if_pos e, had_none q _ _ (fun r hr => ?_), e4]
    obtain ⟨t, h1, rfl⟩ := List.getElem_of_mem hr
    rw [List.length_drop] at h1
    rw [List.getElem_drop]
    have := hs.lt (show posR L q < posR L q + 1 + t by omega) (by omega)
    rw [e] at this
    exact fun e2 => ltK_irrefl q (by rw [e2] at this; exact this)
  · rw [if_neg hh]
    refine had_none q L 0 fun r hr e => hh ?_
    exact List.any_eq_true.2 ⟨r, hr, decide_eq_true e⟩
theorem hopR_fine {L : List RT} (I : InvR L) {q : PK} (hh : hasR L q = true) : 1 ≤ hopR L q ∧ hopR L q ≤ 999 := by
  obtain ⟨ht, e⟩ := I.sorted.found.1 hh
  have := (rtE_0 (I.fine _ (List.getElem_mem ht))).2
  have e4 : (L[posR L q]'ht).2 = hopR L q := by simp [hopR, List.getElem?_eq_getElem ht]
  rw [e4] at this
  exact this
theorem rt_mk {q : PK} {h : Int} (hc : chkE q.1 q.2.1 q.2.2 = 0) (h1 : 1 ≤ h) (h2 : h ≤ 999) : rtE (q, h) = 0 := by rw [rtE, if_pos hc, if_pos ⟨h1, h2⟩]
/-- What is put and undone leaves no trace. -/
theorem undone {L : List RT} (I : InvR L) {q : PK} {h : Int} (hc : chkE q.1 q.2.1 q.2.2 = 0) (h1 : 1 ≤ h) (h2 : h ≤ 999) :
    (hadZ q L = 0 → cutL (putL L (q, h)) q = L) ∧ (hadZ q L ≠ 0 → putL (putL L (q, h)) (q, hadZ q L) = L) := by
  have hz := rt_mk hc h1 h2
  have he := hadZ_eq (q := q) I.sorted
  constructor
  · intro h0
    have hh : hasR L q = false := by
      rw [Bool.eq_false_iff]
      intro hh
      rw [he, if_pos hh] at h0
      have := (hopR_fine I hh).1
      omega
    unfold putL
    rw [if_pos hz]
    simp only [hh, Bool.false_eq_true, if_false]
    split
    · rw [cutL, if_neg (by simp [finE, hc, hh])]
    · have hf : finE (insR L (q, h)) q = 0 := by
        have : hasR (insR L (q, h)) q = true := by rw [hasR_ins]; simp
        simp [finE, hc, this]
      rw [cutL, if_pos hf]
      exact del_ins I.sorted (r := (q, h)) hh
  · intro h0
    have hh : hasR L q = true := by
      rw [he] at h0
      split at h0
      · assumption
      · exact absurd rfl h0
    rw [he, if_pos hh]
    have hp := hopR_fine I hh
    obtain ⟨ht, e⟩ := I.sorted.found.1 hh
    have e4 : (L[posR L q]'ht).2 = hopR L q := by simp [hopR, List.getElem?_eq_getElem ht]
    have a : putL L (q, h) = L.set (posR L q) (q, h) := by rw [putL, if_pos hz, if_pos (by exact hh)]
    have b : hasR (L.set (posR L q) (q, h)) q = true := by rw [has_set ht e]; exact hh
    rw [a, putL, if_pos (rt_mk hc hp.1 hp.2), if_pos (by exact b)]
    show (L.set (posR L q) (q, h)).set (posR (L.set (posR L q) (q, h)) q) (q, hopR L q) = L
    rw [pos_set ht e, List.set_set, show ((q, hopR L q) : RT) = L[posR L q]'ht from Prod.ext e.symm e4.symm]
    exact List.set_getElem_self ht
end Go.Proofs.Ytnpaijmibkbhfaa
