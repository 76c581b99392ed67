/-
  Laid together: TLongM, TPlayM, TPlayN.
-/
import Derived.Test.YtnpaijmibkbhfaaG18
import Derived.Test.YtnpaijmibkbhfaaTabY
import Derived.Test.YtnpaijmibkbhfaaGoesTo
/-
  Plain mathematics: the longest prefix, where an address goes, the family of the routes that acts leave.
-/
namespace Go.Proofs.Ytnpaijmibkbhfaa
open Go.RowKit
set_option linter.unusedVariables false
set_option linter.unusedSimpArgs false
theorem doL_mem {L : List RT} (I : InvR L) {a : ActT} {r : RT} (h : r ∈ doL L a) : r ∈ L ∨ r.1 = a.p := by
  unfold doL at h
  split at h
  · by_cases hz : putE L (a.p, a.h) = 0
    · rcases (put_mem I hz r).1 h with e | ⟨e, _⟩
      · exact .inr (by rw [e])
      · exact .inl e
    · rw [put_err hz] at h; exact .inl h
  · split at h
    · by_cases hz : finE L a.p = 0
      · exact .inl ((cut_mem I hz r).1 h).1
      · rw [cut_err hz] at h; exact .inl h
    · exact .inl h
theorem run_mem (l : List ActT) {r : RT} (h : r ∈ runL l) : ∃ a ∈ l, r.1 = a.p := by
  suffices H : ∀ (l : List ActT) (L : List RT), InvR L → r ∈ l.foldl doL L → r ∈ L ∨ ∃ a ∈ l, r.1 = a.p by
    rcases H l [] InvR.nil h with h | h
    · cases h
    · exact h
  intro l
  induction l with
  | nil => intro L _ h; exact .inl h
  | cons a t ih =>
    intro L I h
    rcases ih (doL L a) (I.step a) h with h | ⟨b, hb, e⟩
    · rcases doL_mem I h with h | h
      · exact .inl h
      · exact .inr ⟨a, List.mem_cons_self, h⟩
    · exact .inr ⟨b, List.mem_cons_of_mem _ hb, e⟩
theorem actZ_four (j : JT) : (actZ j).p.1 = false := by
  unfold actZ
  repeat' split
  all_goals rfl
theorem acts_four (l : List JT) (n : Nat) : ∀ r ∈ runL (actsZ l n), r.1.1 = false := fun r hr => by
  obtain ⟨a, ha, e⟩ := run_mem _ hr
  unfold actsZ at ha
  obtain ⟨j, _, rfl⟩ := List.mem_map.1 ha
  rw [e]; exact actZ_four j
theorem last_bestA {L : List RT} (I : InvR L) (s : Bool) (y : Nat) : lastM (L.filter (mB s y)) = bestA s y L := by
  obtain ⟨e1, e2⟩ := (lastM_best (s := s) (y := y) I.sorted I.val).unique I.sorted.dist (bestA_best I.val)
  exact Prod.ext e1 e2
theorem look_inv {L : List RT} (I : InvR L) {s : Bool} {y : Nat} (hy : y < 2 ^ wideN s) : lookE L s y = 0 ∧ lookA L s y = bestA s y L := by
  have h : lookE L s y = 0 := by rw [lookE, if_pos (tab_inv I), if_pos hy]
  exact ⟨h, by rw [lookA, if_pos h]⟩
theorem goes_inv {L : List RT} (I : InvR L) {s : Bool} {y : Nat} (hy : y < 2 ^ wideN s) : goesZ L s y = (bestM s y L).1 := by
  obtain ⟨a, b⟩ := look_inv I hy
  rw [goesZ, if_pos a, b]; rfl
theorem inv_words {L : List RT} (I : InvR L) : WordsR L := fun r hr => lt128 (chk0 (I.val r hr)).1
/-- The last answer of a look behind acts. -/
theorem long_end {as_ M : List ActT} {XL : List (Int × Int × Int)} {y : Nat} {g : ActT} {n : Nat} (h : runX [] M = XL) (e : M = as_ ++ [g]) (hg : g = ⟨3, (false, 0, 0), 0, false, y⟩) (hy : y < 2 ^ wideN false) (hn : as_.length = n) (i0 : n < XL.length) :
    XL[n] = (0, (bestM false y (runL as_)).1, if (bestM false y (runL as_)).2 < 0 then 0 else (bestM false y (runL as_)).2) := by
  subst hn
  have I := InvR.run as_
  have l0 : (runX [] as_).length = as_.length := runX_len _ _
  have eX : XL = runX [] as_ ++ [doA (runL as_) g] := by rw [← h, e, runX_snoc]; rfl
  subst eX
  rw [List.getElem_append_right (by omega)]
  simp only [l0, Nat.sub_self, List.getElem_cons_zero]
  rw [hg]
  show (if y < 2 ^ wideN false then _ else _) = _
  rw [if_pos hy, last_bestA I]
  rfl
end Go.Proofs.Ytnpaijmibkbhfaa
/-
  Plain mathematics: the document's play, a list in the order of the puts, and ours, in the order of the prefixes.
-/
namespace Go.Proofs.Ytnpaijmibkbhfaa
open Go.RowKit
set_option linter.unusedVariables false
set_option linter.unusedSimpArgs false
/-- The last place of a prefix in a list, -1 if none: as the document's loop finds it. -/
def atF (p : PK) (l : List RT) : Int := (l.foldl (fun s r => (s.1 + 1, if r.1 = p then s.1 else s.2)) ((0 : Int), (-1 : Int))).2
theorem atF_fst (p : PK) : ∀ l : List RT, (l.foldl (fun s r => (s.1 + 1, if r.1 = p then s.1 else s.2)) ((0 : Int), (-1 : Int))).1 = l.length := by
  intro l
  suffices H : ∀ (l : List RT) (a b : Int), (l.foldl (fun s r => (s.1 + 1, if r.1 = p then s.1 else s.2)) (a, b)).1 = a + l.length by rw [H]; omega
  intro l
  induction l with
  | nil => intro a b; simp
  | cons r t ih => intro a b; rw [List.foldl_cons, ih, List.length_cons]; omega
theorem atF_snoc (p : PK) (l : List RT) (r : RT) : atF p (l ++ [r]) = if r.1 = p then (l.length : Int) else atF p l := by
  unfold atF
  rw [List.foldl_append, List.foldl_cons, List.foldl_nil]
  simp only [atF_fst]
theorem atF_take {p : PK} {l : List RT} {k : Nat} (hk : k < l.length) : atF p (l.take (k + 1)) = if l[k].1 = p then (k : Int) else atF p (l.take k) := by
  rw [List.take_succ_eq_append_getElem hk, atF_snoc, List.length_take, Nat.min_eq_left (Nat.le_of_lt hk)]
theorem atF_or (p : PK) (l : List RT) : (atF p l = -1 ∧ ∀ r ∈ l, r.1 ≠ p) ∨ ∃ i, ∃ h : i < l.length, atF p l = i ∧ l[i].1 = p := by
  suffices H : ∀ k, k ≤ l.length → (atF p (l.take k) = -1 ∧ ∀ r ∈ l.take k, r.1 ≠ p) ∨ ∃ i, ∃ h : i < l.length, i < k ∧ atF p (l.take k) = i ∧ l[i].1 = p by
    have := H l.length (Nat.le_refl _)
    rw [List.take_length] at this
    rcases this with h | ⟨i, h, _, a, b⟩
    · exact .inl h
    · exact .inr ⟨i, h, a, b⟩
  intro k
  induction k with
  | zero => intro _; exact .inl ⟨rfl, fun r hr => by simp at hr⟩
  | succ k ih =>
    intro hk
    rw [atF_take hk]
    by_cases e : l[k].1 = p
    · rw [if_pos e]; exact .inr ⟨k, hk, by omega, rfl, e⟩
    · rw [if_neg e]
      rcases ih (by omega) with ⟨a, b⟩ | ⟨i, h, c, a, b⟩
      · refine .inl ⟨a, fun r hr => ?_⟩
        rw [List.take_succ_eq_append_getElem hk] at hr
        rcases List.mem_append.1 hr with hr | hr
        · exact b r hr
        · simp only [List.mem_singleton] at hr; subst hr; exact e
      · exact .inr ⟨i, h, by omega, a, b⟩
/-- The document's list and our table hold the same routes. -/
structure RelU (U L : List RT) : Prop where
  inv : InvR L
  keys : (U.map Prod.fst).Nodup
  same : ∀ r, r ∈ U ↔ r ∈ L
theorem nodup_keys {U : List RT} (h : (U.map Prod.fst).Nodup) : U.Nodup := by
  rw [List.nodup_iff_pairwise_ne] at *
  rw [List.pairwise_map] at h
  exact h.imp fun {a b} g e => g (by rw [e])
theorem nodup_inj {α : Type} {l : List α} (h : l.Nodup) {i j : Nat} (hi : i < l.length) (hj : j < l.length) (e : l[i] = l[j]) : i = j := by
  rw [List.nodup_iff_pairwise_ne, List.pairwise_iff_getElem] at h
  rcases Nat.lt_trichotomy i j with c | c | c
  · exact absurd e (h i j hi hj c)
  · exact c
  · exact absurd e.symm (h j i hj hi c)
theorem key_same {U : List RT} (h : (U.map Prod.fst).Nodup) {a b : RT} (ha : a ∈ U) (hb : b ∈ U) (e : a.1 = b.1) : a = b := by
  obtain ⟨i, hi, rfl⟩ := List.getElem_of_mem ha
  obtain ⟨j, hj, rfl⟩ := List.getElem_of_mem hb
  have : i = j := by
    have h1 : (U.map Prod.fst)[i]'(by simpa using hi) = (U.map Prod.fst)[j]'(by simpa using hj) := by simpa using e
    exact nodup_inj h _ _ h1
  subst this; rfl
theorem RelU.len {U L : List RT} (R : RelU U L) : U.length = L.length :=
  Nat.le_antisymm (nodup_len _ _ (nodup_keys R.keys) fun x hx => (R.same x).1 hx) (nodup_len _ _ R.inv.sorted.nodup fun x hx => (R.same x).2 hx)
theorem RelU.has {U L : List RT} (R : RelU U L) (p : PK) : hasR L p = true ↔ ∃ r ∈ U, r.1 = p := by
  rw [hasR, List.any_eq_true]
  constructor
  · rintro ⟨r, hr, h⟩; exact ⟨r, (R.same r).2 hr, of_decide_eq_true h⟩
  · rintro ⟨r, hr, h⟩; exact ⟨r, (R.same r).1 hr, decide_eq_true h⟩
theorem RelU.nil : RelU [] [] := ⟨InvR.nil, List.nodup_nil, fun r => Iff.rfl⟩
/-- What is at a place that the loop has found. -/
theorem RelU.found {U L : List RT} (R : RelU U L) {p : PK} {i : Nat} (hi : i < U.length) (e : U[i].1 = p) : hasR L p = true ∧ hopR L p = U[i].2 ∧ hadZ p L = U[i].2 := by
  have hm : (p, U[i].2) ∈ L := by
    have : U[i] = (p, U[i].2) := by rw [← e]
    rw [← this]; exact (R.same _).1 (List.getElem_mem hi)
  have hh : hasR L p = true := (R.has p).2 ⟨_, List.getElem_mem hi, e⟩
  have h1 := had_some R.inv hm
  have h2 := hadZ_eq (q := p) R.inv.sorted
  rw [if_pos hh] at h2
  exact ⟨hh, by rw [← h2]; exact h1, h1⟩
theorem RelU.lost {U L : List RT} (R : RelU U L) {p : PK} (h : ∀ r ∈ U, r.1 ≠ p) : hasR L p = false := by
  cases hh : hasR L p with
  | false => rfl
  | true => obtain ⟨r, hr, e⟩ := (R.has p).1 hh; exact absurd e (h r hr)
theorem RelU.best {U L : List RT} (R : RelU U L) (s : Bool) (y : Nat) : bestA s y U = bestA s y L := by
  have hv : ValR U := fun r hr => R.inv.val r ((R.same r).1 hr)
  obtain ⟨e1, e2⟩ := ((bestA_best (s := s) (y := y) hv).congr R.same).unique R.inv.sorted.dist (bestA_best R.inv.val)
  exact Prod.ext e1 e2
theorem RelU.put_at {U L : List RT} (R : RelU U L) {p : PK} {h : Int} {i : Nat} (hi : i < U.length) (e : U[i].1 = p) (hz : putE L (p, h) = 0) : RelU (U.set i (p, h)) (putL L (p, h)) where
  inv := R.inv.put _
  keys := by rw [set_keys hi e]; exact R.keys
  same := fun r => by
    rw [put_mem R.inv hz]
    constructor
    · intro hr
      obtain ⟨j, hj, rfl⟩ := List.getElem_of_mem hr
      rw [List.length_set] at hj
      rw [List.getElem_set]
      by_cases c : i = j
      · rw [if_pos c]; exact .inl rfl
      · rw [if_neg c]
        refine .inr ⟨(R.same _).1 (List.getElem_mem hj), fun g => c ?_⟩
        have : U[j] = U[i] := key_same R.keys (List.getElem_mem hj) (List.getElem_mem hi) (by rw [g, e])
        exact (nodup_inj (nodup_keys R.keys) _ _ this).symm
    · rintro (rfl | ⟨hr, hn⟩)
      · exact List.mem_set hi _
      · obtain ⟨j, hj, rfl⟩ := List.getElem_of_mem ((R.same _).2 hr)
        have c : i ≠ j := fun c => hn (by subst c; exact e)
        have : (U.set i (p, h))[j]'(by rw [List.length_set]; exact hj) = U[j] := by rw [List.getElem_set, if_neg c]
        rw [← this]; exact List.getElem_mem _
theorem RelU.put_new {U L : List RT} (R : RelU U L) {p : PK} {h : Int} (hn : ∀ r ∈ U, r.1 ≠ p) (hz : putE L (p, h) = 0) : RelU (U ++ [(p, h)]) (putL L (p, h)) where
  inv := R.inv.put _
  keys := by
    rw [List.map_append, List.nodup_append]
    refine ⟨R.keys, by simp, fun a ha b hb => ?_⟩
    obtain ⟨r, hr, rfl⟩ := List.mem_map.1 ha
    simp only [List.map_cons, List.map_nil, List.mem_singleton] at hb
    rw [hb]; exact hn r hr
  same := fun r => by
    rw [put_mem R.inv hz, List.mem_append, List.mem_singleton]
    constructor
    · rintro (hr | e)
      · exact .inr ⟨(R.same r).1 hr, hn r hr⟩
      · exact .inl e
    · rintro (e | ⟨hr, _⟩)
      · exact .inr e
      · exact .inl ((R.same r).2 hr)
theorem RelU.cut_at {U L : List RT} (R : RelU U L) {p : PK} {i : Nat} (hi : i < U.length) (e : U[i].1 = p) (hz : finE L p = 0) : RelU (U.take i ++ U.drop (i + 1)) (cutL L p) where
  inv := R.inv.cut _
  keys := by
    rw [← List.eraseIdx_eq_take_drop_succ]
    exact R.keys.sublist ((List.eraseIdx_sublist U i).map _)
  same := fun r => by
    rw [cut_mem R.inv hz, ← List.eraseIdx_eq_take_drop_succ, List.mem_eraseIdx_iff_getElem]
    constructor
    · rintro ⟨j, hj, hx⟩
      obtain ⟨c, rfl⟩ := hx
      refine ⟨(R.same _).1 (List.getElem_mem hj), fun g => c ?_⟩
      have : U[j] = U[i] := key_same R.keys (List.getElem_mem hj) (List.getElem_mem hi) (by rw [g, e])
      exact nodup_inj (nodup_keys R.keys) _ _ this
    · rintro ⟨hx, hn⟩
      obtain ⟨j, hj, rfl⟩ := List.getElem_of_mem ((R.same _).2 hx)
      exact ⟨j, hj, fun c => hn (by subst c; exact e), rfl⟩
/-- A sorted list with the members of the table is the table. -/
theorem RelU.sorted {U L S : List RT} (R : RelU U L) (hs : SortedR S) (hm : ∀ r, r ∈ S ↔ r ∈ U) : S = L :=
  sorted_same _ _ hs R.inv.sorted fun r => (hm r).trans (R.same r)
end Go.Proofs.Ytnpaijmibkbhfaa
/-
  Plain mathematics: one act, case by case, in the document's order.
-/
namespace Go.Proofs.Ytnpaijmibkbhfaa
open Go.RowKit
set_option linter.unusedVariables false
set_option linter.unusedSimpArgs false
variable {U L : List RT} {a : ActT}
/-- What an act answers and leaves. -/
def Told (U' L : List RT) (a : ActT) (c h n : Int) : Prop := doA L a = (c, h, n) ∧ RelU U' (doL L a)
theorem doL_other (h1 : a.k ≠ 1) (h2 : a.k ≠ 2) : doL L a = L := by rw [doL, if_neg h1, if_neg h2]
theorem play_kind (R : RelU U L) (h : a.k < 1 ∨ 4 < a.k) : Told U L a 3 0 0 := by
  refine ⟨?_, by rw [doL_other (by omega) (by omega)]; exact R⟩
  rw [doA, if_neg (by omega), if_neg (by omega), if_neg (by omega), if_neg (by omega)]
theorem play_form (R : RelU U L) (h : a.k = 3) (hy : ¬ a.y < 2 ^ wideN a.s) : Told U L a 4 0 0 := by
  refine ⟨?_, by rw [doL_other (by omega) (by omega)]; exact R⟩
  rw [doA, if_neg (by omega), if_neg (by omega), if_pos h, if_neg hy]
theorem play_look (R : RelU U L) (h : a.k = 3) (hy : a.y < 2 ^ wideN a.s) : Told U L a 0 (bestA a.s a.y U).1 (bestA a.s a.y U).2 := by
  refine ⟨?_, by rw [doL_other (by omega) (by omega)]; exact R⟩
  rw [doA, if_neg (by omega), if_neg (by omega), if_pos h, if_pos hy, last_bestA R.inv, R.best]
theorem rtE_chk {p : PK} {h : Int} (hc : chkE p.1 p.2.1 p.2.2 ≠ 0) : rtE (p, h) = chkE p.1 p.2.1 p.2.2 := by rw [rtE, if_neg hc]
theorem play_fault (R : RelU U L) (h : a.k = 1 ∨ a.k = 2 ∨ a.k = 4) (hc : chkE a.p.1 a.p.2.1 a.p.2.2 ≠ 0) : Told U L a (chkE a.p.1 a.p.2.1 a.p.2.2) 0 0 := by
  have hf : finE L a.p = chkE a.p.1 a.p.2.1 a.p.2.2 := by rw [finE, if_neg hc]
  have hr := rtE_chk (h := a.h) hc
  rcases h with h | h | h
  · have hne : putE L (a.p, a.h) = chkE a.p.1 a.p.2.1 a.p.2.2 := by rw [putE, hr, if_neg hc]
    refine ⟨?_, ?_⟩
    · rw [doA, if_pos h, hne, putA, hr, if_neg hc]
    · rw [doL, if_pos h, put_err (by rw [hne]; exact hc)]; exact R
  · refine ⟨?_, ?_⟩
    · rw [doA, if_neg (by omega), if_pos h, hf, cutA, hf, if_neg hc]
    · rw [doL, if_neg (by omega), if_pos h, cut_err (by rw [hf]; exact hc)]; exact R
  · refine ⟨?_, by rw [doL_other (by omega) (by omega)]; exact R⟩
    rw [doA, if_neg (by omega), if_neg (by omega), if_neg (by omega), if_pos h, getR, hf, if_neg hc]
theorem play_range (R : RelU U L) (h : a.k = 1) (hc : chkE a.p.1 a.p.2.1 a.p.2.2 = 0) (hh : ¬ (1 ≤ a.h ∧ a.h ≤ 999)) : Told U L a 2 0 0 := by
  have hr : rtE (a.p, a.h) = 2 := by rw [rtE, if_pos hc, if_neg hh]
  have hne : putE L (a.p, a.h) = 2 := by rw [putE, hr, if_neg (by decide)]
  refine ⟨?_, ?_⟩
  · rw [doA, if_pos h, hne, putA, hr, if_neg (by decide)]
  · rw [doL, if_pos h, put_err (by rw [hne]; decide)]; exact R
theorem play_put_at (R : RelU U L) (h : a.k = 1) (hc : chkE a.p.1 a.p.2.1 a.p.2.2 = 0) (h1 : 1 ≤ a.h) (h2 : a.h ≤ 999) {i : Nat} (hi : i < U.length) (e : U[i].1 = a.p) : Told (U.set i (a.p, a.h)) L a 0 U[i].2 0 := by
  have hr := rt_mk hc h1 h2
  obtain ⟨f1, f2, _⟩ := R.found hi e
  have hz : putE L (a.p, a.h) = 0 := by rw [putE, if_pos hr, if_pos f1]
  refine ⟨?_, ?_⟩
  · rw [doA, if_pos h, hz, putA, if_pos hr, if_pos f1, f2]
  · rw [doL, if_pos h]; exact R.put_at hi e hz
theorem play_full (R : RelU U L) (h : a.k = 1) (hc : chkE a.p.1 a.p.2.1 a.p.2.2 = 0) (h1 : 1 ≤ a.h) (h2 : a.h ≤ 999) (hn : ∀ r ∈ U, r.1 ≠ a.p) (h6 : 60 ≤ U.length) : Told U L a 9 0 0 := by
  have hr := rt_mk hc h1 h2
  have f1 : ¬ hasR L a.p = true := by rw [R.lost hn]; decide
  have h6' : 60 ≤ L.length := by rw [← R.len]; exact h6
  have hz : putE L (a.p, a.h) = 9 := by rw [putE, if_pos hr, if_neg f1, if_pos h6']
  refine ⟨?_, ?_⟩
  · rw [doA, if_pos h, hz, putA, if_pos hr, if_neg f1]
  · rw [doL, if_pos h, put_err (by rw [hz]; decide)]; exact R
theorem play_put_new (R : RelU U L) (h : a.k = 1) (hc : chkE a.p.1 a.p.2.1 a.p.2.2 = 0) (h1 : 1 ≤ a.h) (h2 : a.h ≤ 999) (hn : ∀ r ∈ U, r.1 ≠ a.p) (h6 : ¬ 60 ≤ U.length) : Told (U ++ [(a.p, a.h)]) L a 0 0 0 := by
  have hr := rt_mk hc h1 h2
  have f1 : ¬ hasR L a.p = true := by rw [R.lost hn]; decide
  have h6' : ¬ 60 ≤ L.length := by rw [← R.len]; exact h6
  have hz : putE L (a.p, a.h) = 0 := by rw [putE, if_pos hr, if_neg f1, if_neg h6']
  refine ⟨?_, ?_⟩
  · rw [doA, if_pos h, hz, putA, if_pos hr, if_neg f1]
  · rw [doL, if_pos h]; exact R.put_new hn hz
theorem play_none (R : RelU U L) (h : a.k = 2 ∨ a.k = 4) (hc : chkE a.p.1 a.p.2.1 a.p.2.2 = 0) (hn : ∀ r ∈ U, r.1 ≠ a.p) : Told U L a 7 0 0 := by
  have f1 : ¬ hasR L a.p = true := by rw [R.lost hn]; decide
  have hf : finE L a.p = 7 := by rw [finE, if_pos hc, if_neg f1]
  rcases h with h | h
  · refine ⟨?_, ?_⟩
    · rw [doA, if_neg (by omega), if_pos h, hf, cutA, hf, if_neg (by decide)]
    · rw [doL, if_neg (by omega), if_pos h, cut_err (by rw [hf]; decide)]; exact R
  · refine ⟨?_, by rw [doL_other (by omega) (by omega)]; exact R⟩
    rw [doA, if_neg (by omega), if_neg (by omega), if_neg (by omega), if_pos h, getR, hf, if_neg (by decide)]
theorem play_get (R : RelU U L) (h : a.k = 4) (hc : chkE a.p.1 a.p.2.1 a.p.2.2 = 0) {i : Nat} (hi : i < U.length) (e : U[i].1 = a.p) : Told U L a 0 U[i].2 a.p.2.2 := by
  obtain ⟨f1, f2, _⟩ := R.found hi e
  have hf : finE L a.p = 0 := by rw [finE, if_pos hc, if_pos f1]
  refine ⟨?_, by rw [doL_other (by omega) (by omega)]; exact R⟩
  rw [doA, if_neg (by omega), if_neg (by omega), if_neg (by omega), if_pos h, getR, if_pos hf, hf, f2]
theorem play_cut (R : RelU U L) (h : a.k = 2) (hc : chkE a.p.1 a.p.2.1 a.p.2.2 = 0) {i : Nat} (hi : i < U.length) (e : U[i].1 = a.p) : Told (U.take i ++ U.drop (i + 1)) L a 0 U[i].2 0 := by
  obtain ⟨f1, f2, _⟩ := R.found hi e
  have hf : finE L a.p = 0 := by rw [finE, if_pos hc, if_pos f1]
  refine ⟨?_, ?_⟩
  · rw [doA, if_neg (by omega), if_pos h, hf, cutA, if_pos hf, f2]
  · rw [doL, if_neg (by omega), if_pos h]; exact R.cut_at hi e hf
end Go.Proofs.Ytnpaijmibkbhfaa
