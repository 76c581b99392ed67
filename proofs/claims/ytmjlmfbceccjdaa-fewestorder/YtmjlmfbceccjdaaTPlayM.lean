/-
  Plain mathematics: the document's play, a list in the order of the puts, and ours, in the order of the prefixes.
-/
import Derived.Test.YtmjlmfbceccjdaaG28
namespace Go.Proofs.Ytmjlmfbceccjdaa
open Go.RowKit
set_option linter.unusedVariables false
set_option linter.unusedSimpArgs false
/-- The last place of a prefix in a list, -1 if none: as the document's loop finds it. -/
def atF (p : PK) (l : List RT) : Int := (l.foldl (fun s r => (s.1 + 1, if r.1 = p then s.1 else s.2)) ((0 : Int), (-1 : Int))).2
theorem atF_fst (p : PK) : ∀ l : List RT, (l.foldl (fun s r => (s.1 + 1, if r.1 = p then s.1 else s.2)) ((0 : Int), (-1 : Int))).1 = l.length := by
  intro l
  suffices H : ∀ (l : List RT) (a b : Int), (l.foldl (fun s r => (s.1 + 1, if r.1 = p then s.1 else s.2)) (a, b)).1 = a + l.length by rw [H]; omega
  intro l
  induction l with
  | nil => intro a b; simp
  | cons r t ih => intro a b; rw [List.foldl_cons, ih, List.length_cons]; omega
theorem atF_snoc (p : PK) (l : List RT) (r : RT) : atF p (l ++ [r]) = if r.1 = p then (l.length : Int) else atF p l := by
  unfold atF
  rw [List.foldl_append, List.foldl_cons, List.foldl_nil]
  simp only [atF_fst]
theorem atF_take {p : PK} {l : List RT} {k : Nat} (hk : k < l.length) : atF p (l.take (k + 1)) = if l[k].1 = p then (k : Int) else atF p (l.take k) := by
  rw [List.take_succ_eq_append_getElem hk, atF_snoc, List.length_take, Nat.min_eq_left (Nat.le_of_lt hk)]
theorem atF_or (p : PK) (l : List RT) : (atF p l = -1 ∧ ∀ r ∈ l, r.1 ≠ p) ∨ ∃ i, ∃ h : i < l.length, atF p l = i ∧ l[i].1 = p := by
  suffices H : ∀ k, k ≤ l.length → (atF p (l.take k) = -1 ∧ ∀ r ∈ l.take k, r.1 ≠ p) ∨ ∃ i, ∃ h : i < l.length, i < k ∧ atF p (l.take k) = i ∧ l[i].1 = p by
    have := H l.length (Nat.le_refl _)
    rw [List.take_length] at this
    rcases this with h | ⟨i, h, _, a, b⟩
    · exact .inl h
    · exact .inr ⟨i, h, a, b⟩
  intro k
  induction k with
  | zero => intro _; exact .inl ⟨rfl, fun r hr => by simp at hr⟩
  | succ k ih =>
    intro hk
    rw [atF_take hk]
    by_cases e : l[k].1 = p
    · rw [if_pos e]; exact .inr ⟨k, hk, by omega, rfl, e⟩
    · rw [if_neg e]
      rcases ih (by omega) with ⟨a, b⟩ | ⟨i, h, c, a, b⟩
      · refine .inl ⟨a, fun r hr => ?_⟩
        rw [List.take_succ_eq_append_getElem hk] at hr
        rcases List.mem_append.1 hr with hr | hr
        · exact b r hr
        · simp only [List.mem_singleton] at hr; subst hr; exact e
      · exact .inr ⟨i, h, by omega, a, b⟩
/-- The document's list and our table hold the same routes. -/
structure RelU (U L : List RT) : Prop where
  inv : InvR L
  keys : (U.map Prod.fst).Nodup
  same : ∀ r, r ∈ U ↔ r ∈ L
theorem nodup_keys {U : List RT} (h : (U.map Prod.fst).Nodup) : U.Nodup := by
  rw [List.nodup_iff_pairwise_ne] at *
  rw [List.pairwise_map] at h
  exact h.imp fun {a b} g e => g (by rw [e])
theorem nodup_inj {α : Type} {l : List α} (h : l.Nodup) {i j : Nat} (hi : i < l.length) (hj : j < l.length) (e : l[i] = l[j]) : i = j := by
  rw [List.nodup_iff_pairwise_ne, List.pairwise_iff_getElem] at h
  rcases Nat.lt_trichotomy i j with c | c | c
  · exact absurd e (h i j hi hj c)
  · exact c
  · exact absurd e.symm (h j i hj hi c)
theorem key_same {U : List RT} (h : (U.map Prod.fst).Nodup) {a b : RT} (ha : a ∈ U) (hb : b ∈ U) (e : a.1 = b.1) : a = b := by
  obtain ⟨i, hi, rfl⟩ := List.getElem_of_mem ha
  obtain ⟨j, hj, rfl⟩ := List.getElem_of_mem hb
  have : i = j := by
    have h1 : (U.map Prod.fst)[i]'(by simpa using hi) = (U.map Prod.fst)[j]'(by simpa using hj) := by simpa using e
    exact nodup_inj h _ _ h1
  subst this; rfl
theorem RelU.len {U L : List RT} (R : RelU U L) : U.length = L.length :=
  Nat.le_antisymm (nodup_len _ _ (nodup_keys R.keys) fun x hx => (R.same x).1 hx) (nodup_len _ _ R.inv.sorted.nodup fun x hx => (R.same x).2 hx)
theorem RelU.has {U L : List RT} (R : RelU U L) (p : PK) : hasR L p = true ↔ ∃ r ∈ U, r.1 = p := by
  rw [hasR, List.any_eq_true]
  constructor
  · rintro ⟨r, hr, h⟩; exact ⟨r, (R.same r).2 hr, of_decide_eq_true h⟩
  · rintro ⟨r, hr, h⟩; exact ⟨r, (R.same r).1 hr, decide_eq_true h⟩
theorem RelU.nil : RelU [] [] := ⟨InvR.nil, List.nodup_nil, fun r => Iff.rfl⟩
/-- What is at a place that the loop has found. -/
theorem RelU.found {U L : List RT} (R : RelU U L) {p : PK} {i : Nat} (hi : i < U.length) (e : U[i].1 = p) : hasR L p = true ∧ hopR L p = U[i].2 ∧ hadZ p L = U[i].2 := by
  have hm : (p, U[i].2) ∈ L := by
    have : U[i] = (p, U[i].2) := by rw [← e]
    rw [← this]; exact (R.same _).1 (List.getElem_mem hi)
  have hh : hasR L p = true := (R.has p).2 ⟨_, List.getElem_mem hi, e⟩
  have h1 := had_some R.inv hm
  have h2 := hadZ_eq (q := p) R.inv.sorted
  rw [if_pos hh] at h2
  exact ⟨hh, by rw [← h2]; exact h1, h1⟩
theorem RelU.lost {U L : List RT} (R : RelU U L) {p : PK} (h : ∀ r ∈ U, r.1 ≠ p) : hasR L p = false := by
  cases hh : hasR L p with
  | false => rfl
  | true => obtain ⟨r, hr, e⟩ := (R.has p).1 hh; exact absurd e (h r hr)
theorem RelU.best {U L : List RT} (R : RelU U L) (s : Bool) (y : Nat) : bestA s y U = bestA s y L := by
  have hv : ValR U := fun r hr => R.inv.val r ((R.same r).1 hr)
  obtain ⟨e1, e2⟩ := ((bestA_best (s := s) (y := y) hv).congr R.same).unique R.inv.sorted.dist (bestA_best R.inv.val)
  exact Prod.ext e1 e2
theorem RelU.put_at {U L : List RT} (R : RelU U L) {p : PK} {h : Int} {i : Nat} (hi : i < U.length) (e : U[i].1 = p) (hz : putE L (p, h) = 0) : RelU (U.set i (p, h)) (putL L (p, h)) where
  inv := R.inv.put _
  keys := by rw [set_keys hi e]; exact R.keys
  same := fun r => by
    rw [put_mem R.inv hz]
    constructor
    · intro hr
      obtain ⟨j, hj, rfl⟩ := List.getElem_of_mem hr
      rw [List.length_set] at hj
      rw [List.getElem_set]
      by_cases c : i = j
      · rw [if_pos c]; exact .inl rfl
      · rw [if_neg c]
        refine .inr ⟨(R.same _).1 (List.getElem_mem hj), fun g => c ?_⟩
        have : U[j] = U[i] := key_same R.keys (List.getElem_mem hj) (List.getElem_mem hi) (by rw [g, e])
        exact (nodup_inj (nodup_keys R.keys) _ _ this).symm
    · rintro (rfl | ⟨hr, hn⟩)
      · exact List.mem_set hi _
      · obtain ⟨j, hj, rfl⟩ := List.getElem_of_mem ((R.same _).2 hr)
        have c : i ≠ j := fun c => hn (by subst c; exact e)
        have : (U.set i (p, h))[j]'(by rw [List.length_set]; exact hj) = U[j] := by rw [List.getElem_set, if_neg c]
        rw [← this]; exact List.getElem_mem _
theorem RelU.put_new {U L : List RT} (R : RelU U L) {p : PK} {h : Int} (hn : ∀ r ∈ U, r.1 ≠ p) (hz : putE L (p, h) = 0) : RelU (U ++ [(p, h)]) (putL L (p, h)) where
  inv := R.inv.put _
  keys := by
    rw [List.map_append, List.nodup_append]
    refine ⟨R.keys, by simp, fun a ha b hb => ?_⟩
    obtain ⟨r, hr, rfl⟩ := List.mem_map.1 ha
    simp only [List.map_cons, List.map_nil, List.mem_singleton] at hb
    rw [hb]; exact hn r hr
  same := fun r => by
    rw [put_mem R.inv hz, List.mem_append, List.mem_singleton]
    constructor
    · rintro (hr | e)
      · exact .inr ⟨(R.same r).1 hr, hn r hr⟩
      · exact .inl e
    · rintro (e | ⟨hr, _⟩)
      · exact .inr e
      · exact .inl ((R.same r).2 hr)
theorem RelU.cut_at {U L : List RT} (R : RelU U L) {p : PK} {i : Nat} (hi : i < U.length) (e : U[i].1 = p) (hz : finE L p = 0) : RelU (U.take i ++ U.drop (i + 1)) (cutL L p) where
  inv := R.inv.cut _
  keys := by
    rw [← List.eraseIdx_eq_take_drop_succ]
    exact R.keys.sublist ((List.eraseIdx_sublist U i).map _)
  same := fun r => by
    rw [cut_mem R.inv hz, ← List.eraseIdx_eq_take_drop_succ, List.mem_eraseIdx_iff_getElem]
    constructor
    · rintro ⟨j, hj, hx⟩
      obtain ⟨c, rfl⟩ := hx
      refine ⟨(R.same _).1 (List.getElem_mem hj), fun g => c ?_⟩
      have : U[j] = U[i] := key_same R.keys (List.getElem_mem hj) (List.getElem_mem hi) (by rw [g, e])
      exact nodup_inj (nodup_keys R.keys) _ _ this
    · rintro ⟨hx, hn⟩
      obtain ⟨j, hj, rfl⟩ := List.getElem_of_mem ((R.same _).2 hx)
      exact ⟨j, hj, fun c => hn (by subst c; exact e), rfl⟩
/-- A sorted list with the members of the table is the table. -/
theorem RelU.sorted {U L S : List RT} (R : RelU U L) (hs : SortedR S) (hm : ∀ r, r ∈ S ↔ r ∈ U) : S = L :=
  sorted_same _ _ hs R.inv.sorted fun r => (hm r).trans (R.same r)
end Go.Proofs.Ytmjlmfbceccjdaa
