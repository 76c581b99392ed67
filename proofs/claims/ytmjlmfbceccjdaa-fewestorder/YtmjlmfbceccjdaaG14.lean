/-
  Laid together: TabZ, TOrderM, TToldM.
-/
import Derived.Test.YtmjlmfbceccjdaaG13
/-
  Plain mathematics: a route put and cut again; the hop of a prefix.
-/
namespace Go.Proofs.Ytmjlmfbceccjdaa
open Go.RowKit
set_option linter.unusedVariables false
set_option linter.unusedSimpArgs false

theorem pos_keys (l : List RT) (p : PK) : posR l p = (l.map Prod.fst).countP fun k => decide (ltK k p) := by unfold posR; rw [List.countP_map]; rfl
theorem set_keys {L : List RT} {i : Nat} {r : RT} (hi : i < L.length) (e : (L[i]).1 = r.1) : (L.set i r).map Prod.fst = L.map Prod.fst := by
  rw [List.map_set]
  refine List.ext_getElem (by simp) fun j h1 h2 => ?_
  rw [List.getElem_set]
  split
  · rename_i h; subst h; simp [e]
  · rfl
theorem has_keys (l : List RT) (p : PK) : hasR l p = (l.map Prod.fst).any fun k => decide (k = p) := by unfold hasR; rw [List.any_map]; rfl
theorem pos_set {L : List RT} {i : Nat} {r : RT} (hi : i < L.length) (e : (L[i]).1 = r.1) (p : PK) : posR (L.set i r) p = posR L p := by rw [pos_keys, pos_keys, set_keys hi e]
theorem has_set {L : List RT} {i : Nat} {r : RT} (hi : i < L.length) (e : (L[i]).1 = r.1) (p : PK) : hasR (L.set i r) p = hasR L p := by rw [has_keys, has_keys, set_keys hi e]
theorem pos_ins {L : List RT} (hs : SortedR L) {r : RT} (hn : hasR L r.1 = false) : posR (insR L r) r.1 = posR L r.1 := by
  have hp := posR_le L r.1
  have hS := hs.ins hn
  have hl := insR_len L r
  have hat : (insR L r)[posR L r.1]'(by omega) = r := by
    unfold insR
    rw [List.getElem_append_right (by rw [List.length_take]; omega)]
    simp [List.length_take, Nat.min_eq_left hp]
  refine posR_of _ (by omega) (fun t ht hlt => ?_) (fun t ht hge => ?_)
  · have := hS.lt hlt (show posR L r.1 < (insR L r).length by omega)
    rw [hat] at this
    exact this
  · by_cases e : t = posR L r.1
    · subst e; rw [hat]; exact ltK_irrefl _
    · have := hS.lt (show posR L r.1 < t by omega) ht
      rw [hat] at this
      exact ltK_asymm this
theorem del_ins {L : List RT} (hs : SortedR L) {r : RT} (hn : hasR L r.1 = false) : delR (insR L r) r.1 = L := by
  unfold delR
  rw [pos_ins hs hn]
  have hp := posR_le L r.1
  have hl : (L.take (posR L r.1)).length = posR L r.1 := by rw [List.length_take]; omega
  unfold insR
  rw [List.take_append_of_le_length (by omega), List.take_of_length_le (by omega), List.drop_append, List.drop_eq_nil_of_le (by omega), hl, Nat.add_sub_cancel_left]
  simp
/-- The hop of the last route with this prefix. -/
def hadZ (q : PK) (l : List RT) : Int := l.foldl (fun h r => if r.1 = q then r.2 else h) 0
theorem hadZ_take {q : PK} {l : List RT} {k : Nat} (hk : k < l.length) : hadZ q (l.take (k + 1)) = if l[k].1 = q then l[k].2 else hadZ q (l.take k) := by
  unfold hadZ; rw [take_snoc hk, List.foldl_append, List.foldl_cons, List.foldl_nil]
theorem had_none (q : PK) : ∀ (l : List RT) (h : Int), (∀ r ∈ l, r.1 ≠ q) → l.foldl (fun h r => if r.1 = q then r.2 else h) h = h
  | [], h, _ => rfl
  | r :: t, h, hr => by rw [List.foldl_cons, if_neg (hr r (by simp))]; exact had_none q t h (fun x hx => hr x (by simp [hx]))
theorem hadZ_eq {q : PK} {L : List RT} (hs : SortedR L) : hadZ q L = if hasR L q then hopR L q else 0 := by
  by_cases hh : hasR L q = true
  · rw [if_pos hh]
    obtain ⟨ht, e⟩ := hs.found.1 hh
    have e4 : (L[posR L q]'ht).2 = hopR L q := by simp [hopR, List.getElem?_eq_getElem ht]
    have eL : L = L.take (posR L q) ++ (L[posR L q]'ht :: L.drop (posR L q + 1)) := by rw [← List.drop_eq_getElem_cons ht, List.take_append_drop]
    unfold hadZ
    conv => lhs; rw [eL]
    rw [List.foldl_append, List.foldl_cons, if_pos e, had_none q _ _ (fun r hr => ?_), e4]
    obtain ⟨t, h1, rfl⟩ := List.getElem_of_mem hr
    rw [List.length_drop] at h1
    rw [List.getElem_drop]
    have := hs.lt (show posR L q < posR L q + 1 + t by omega) (by omega)
    rw [e] at this
    exact fun e2 => ltK_irrefl q (by rw [e2] at this; exact this)
  · rw [if_neg hh]
    refine had_none q L 0 fun r hr e => hh ?_
    exact List.any_eq_true.2 ⟨r, hr, decide_eq_true e⟩
theorem hopR_fine {L : List RT} (I : InvR L) {q : PK} (hh : hasR L q = true) : 1 ≤ hopR L q ∧ hopR L q ≤ 999 := by
  obtain ⟨ht, e⟩ := I.sorted.found.1 hh
  have := (rtE_0 (I.fine _ (List.getElem_mem ht))).2
  have e4 : (L[posR L q]'ht).2 = hopR L q := by simp [hopR, List.getElem?_eq_getElem ht]
  rw [e4] at this
  exact this
theorem rt_mk {q : PK} {h : Int} (hc : chkE q.1 q.2.1 q.2.2 = 0) (h1 : 1 ≤ h) (h2 : h ≤ 999) : rtE (q, h) = 0 := by rw [rtE, if_pos hc, if_pos ⟨h1, h2⟩]
/-- What is put and undone leaves no trace. -/
theorem undone {L : List RT} (I : InvR L) {q : PK} {h : Int} (hc : chkE q.1 q.2.1 q.2.2 = 0) (h1 : 1 ≤ h) (h2 : h ≤ 999) :
    (hadZ q L = 0 → cutL (putL L (q, h)) q = L) ∧ (hadZ q L ≠ 0 → putL (putL L (q, h)) (q, hadZ q L) = L) := by
  have hz := rt_mk hc h1 h2
  have he := hadZ_eq (q := q) I.sorted
  constructor
  · intro h0
    have hh : hasR L q = false := by
      rw [Bool.eq_false_iff]
      intro hh
      rw [he, if_pos hh] at h0
      have := (hopR_fine I hh).1
      omega
    unfold putL
    rw [if_pos hz]
    simp only [hh, Bool.false_eq_true, if_false]
    split
    · rw [cutL, if_neg (by simp [finE, hc, hh])]
    · have hf : finE (insR L (q, h)) q = 0 := by
        have : hasR (insR L (q, h)) q = true := by rw [hasR_ins]; simp
        simp [finE, hc, this]
      rw [cutL, if_pos hf]
      exact del_ins I.sorted (r := (q, h)) hh
  · intro h0
    have hh : hasR L q = true := by
      rw [he] at h0
      split at h0
      · assumption
      · exact absurd rfl h0
    rw [he, if_pos hh]
    have hp := hopR_fine I hh
    obtain ⟨ht, e⟩ := I.sorted.found.1 hh
    have e4 : (L[posR L q]'ht).2 = hopR L q := by simp [hopR, List.getElem?_eq_getElem ht]
    have a : putL L (q, h) = L.set (posR L q) (q, h) := by rw [putL, if_pos hz, if_pos (by exact hh)]
    have b : hasR (L.set (posR L q) (q, h)) q = true := by rw [has_set ht e]; exact hh
    rw [a, putL, if_pos (rt_mk hc hp.1 hp.2), if_pos (by exact b)]
    show (L.set (posR L q) (q, h)).set (posR (L.set (posR L q) (q, h)) q) (q, hopR L q) = L
    rw [pos_set ht e, List.set_set, show ((q, hopR L q) : RT) = L[posR L q]'ht from Prod.ext e.symm e4.symm]
    exact List.set_getElem_self ht
end Go.Proofs.Ytmjlmfbceccjdaa
/-
  Plain mathematics: routes put in any order make the same table.
-/
namespace Go.Proofs.Ytmjlmfbceccjdaa
open Go.RowKit
set_option linter.unusedVariables false
set_option linter.unusedSimpArgs false

/-- The act that puts a route. -/
def putOf (r : RT) : ActT := ⟨1, r.1, r.2, false, 0⟩
theorem run_puts (R : List RT) : runL (R.map putOf) = R.foldl putL [] := by
  unfold runL
  rw [List.foldl_map]
  have : (fun (x : List RT) (y : RT) => doL x (putOf y)) = putL := by
    funext x y
    rw [doL, if_pos (show (putOf y).k = 1 from rfl)]
    rfl
  rw [this]
theorem SortedR.key {L : List RT} (h : SortedR L) {a b : RT} (ha : a ∈ L) (hb : b ∈ L) (e : a.1 = b.1) : a = b := by
  obtain ⟨i, hi, rfl⟩ := List.getElem_of_mem ha
  obtain ⟨j, hj, rfl⟩ := List.getElem_of_mem hb
  rcases Nat.lt_trichotomy i j with g | g | g
  · exact absurd e (ltK_ne (h.lt g hj))
  · subst g; rfl
  · exact absurd e.symm (ltK_ne (h.lt g hi))
theorem SortedR.nodup {L : List RT} (h : SortedR L) : L.Nodup := h.imp fun {a b} g e => by subst e; exact ltK_irrefl _ g
theorem nodup_len : ∀ (A L : List RT), A.Nodup → (∀ x ∈ A, x ∈ L) → A.length ≤ L.length
  | [], L, _, _ => by simp
  | a :: A, L, hn, hs => by
    have ha := hs a (by simp)
    have hn' := List.nodup_cons.1 hn
    have ih := nodup_len A (L.erase a) hn'.2 (fun x hx => (List.mem_erase_of_ne (fun e => hn'.1 (by rw [← e]; exact hx))).2 (hs x (by simp [hx])))
    rw [List.length_erase_of_mem ha] at ih
    have : 0 < L.length := List.length_pos_of_mem ha
    simp; omega
theorem sorted_same : ∀ (A B : List RT), SortedR A → SortedR B → (∀ x, x ∈ A ↔ x ∈ B) → A = B
  | [], [], _, _, _ => rfl
  | [], b :: B, _, _, h => by have := (h b).2 (by simp); cases this
  | a :: A, [], _, _, h => by have := (h a).1 (by simp); cases this
  | a :: A, b :: B, hA, hB, h => by
    have pa := List.pairwise_cons.1 hA
    have pb := List.pairwise_cons.1 hB
    have e : a = b := by
      rcases List.mem_cons.1 ((h a).1 (by simp)) with e | g1
      · exact e
      · rcases List.mem_cons.1 ((h b).2 (by simp)) with e | g2
        · exact e.symm
        · exact absurd (pb.1 a g1) (ltK_asymm (pa.1 b g2))
    subst e
    rw [sorted_same A B pa.2 pb.2 (fun x => ?_)]
    constructor
    · intro hx
      rcases List.mem_cons.1 ((h x).1 (by simp [hx])) with e | g
      · exact absurd (pa.1 x hx) (by rw [e]; exact ltK_irrefl _)
      · exact g
    · intro hx
      rcases List.mem_cons.1 ((h x).2 (by simp [hx])) with e | g
      · exact absurd (pb.1 x hx) (by rw [e]; exact ltK_irrefl _)
      · exact g
theorem put_step {L S : List RT} (I : InvR L) (J : InvR S) (hS : ∀ x ∈ S, x ∈ L) {r : RT} (hr : r ∈ L) (x : RT) : x ∈ putL S r ↔ x = r ∨ x ∈ S := by
  unfold putL
  rw [if_pos (I.fine r hr)]
  by_cases hh : hasR S r.1 = true
  · rw [if_pos hh]
    obtain ⟨ht, e⟩ := J.sorted.found.1 hh
    have : S[posR S r.1]'ht = r := I.sorted.key (hS _ (List.getElem_mem ht)) hr e
    have hset : S.set (posR S r.1) r = S := by
      conv => lhs; rw [← this]
      rw [show posR S (S[posR S r.1]'ht).1 = posR S r.1 by rw [this]]
      exact List.set_getElem_self ht
    rw [hset]
    constructor
    · exact .inr
    · rintro (rfl | h)
      · rw [← this]; exact List.getElem_mem ht
      · exact h
  · rw [if_neg hh]
    have hh' : hasR S r.1 = false := by simpa using hh
    have := nodup_len (insR S r) L (J.sorted.ins hh').nodup (fun y hy => by
      rcases insR_mem.1 hy with rfl | h
      · exact hr
      · exact hS y h)
    rw [insR_len] at this
    have := I.size
    rw [if_neg (by omega)]
    exact insR_mem
theorem puts_mem {L : List RT} (I : InvR L) : ∀ (R S : List RT), InvR S → (∀ x ∈ S, x ∈ L) → (∀ x ∈ R, x ∈ L) → SortedR (R.foldl putL S) ∧ ∀ x, x ∈ R.foldl putL S ↔ x ∈ S ∨ x ∈ R
  | [], S, J, hS, hR => ⟨J.sorted, fun x => by simp⟩
  | r :: R, S, J, hS, hR => by
    have hr := hR r (by simp)
    have st := put_step I J hS hr
    obtain ⟨h1, h2⟩ := puts_mem I R (putL S r) (J.put r) (fun x hx => by
      rcases (st x).1 hx with rfl | h
      · exact hr
      · exact hS x h) (fun x hx => hR x (by simp [hx]))
    refine ⟨h1, fun x => ?_⟩
    rw [List.foldl_cons, h2, st, List.mem_cons]
    constructor
    · rintro ((h | h) | h) <;> simp [h]
    · rintro (h | h | h) <;> simp [h]
theorem puts_same {L R : List RT} (I : InvR L) (h1 : ∀ x ∈ R, x ∈ L) (h2 : ∀ x ∈ L, x ∈ R) : runL (R.map putOf) = L := by
  obtain ⟨s, m⟩ := puts_mem I R [] InvR.nil (fun x hx => by cases hx) h1
  rw [run_puts]
  refine sorted_same _ _ s I.sorted fun x => ?_
  rw [m x]
  exact ⟨fun h => by rcases h with h | h; cases h; exact h1 x h, fun h => .inr (h2 x h)⟩
theorem beh_inv : ∀ (t seen : List RT), (∀ r ∈ t, rtE r = 0) → SortedR t → (∀ s ∈ seen, ∀ r ∈ t, ltK s.1 r.1) → behE seen t = 0
  | [], seen, _, _, _ => rfl
  | r :: t, seen, h1, h2, h3 => by
    have p := List.pairwise_cons.1 h2
    have hh : hasR seen r.1 = false := by
      rw [Bool.eq_false_iff]
      intro hh
      obtain ⟨s, hs, e⟩ := List.any_eq_true.1 hh
      exact ltK_ne (h3 s hs r (by simp)) (of_decide_eq_true e)
    rw [behE, if_pos (h1 r (by simp)), hh]
    simp only [Bool.false_eq_true, if_false]
    refine beh_inv t _ (fun x hx => h1 x (by simp [hx])) p.2 (fun s hs x hx => ?_)
    rcases insR_mem.1 hs with rfl | hs
    · exact p.1 x hx
    · exact h3 s hs x (by simp [hx])
theorem tab_inv {L : List RT} (I : InvR L) : tabE L = 0 := by
  have := I.size
  rw [tabE, if_neg (by omega)]
  exact beh_inv L [] I.fine I.sorted (fun s hs => by cases hs)
/-- Turned about, every place is met. -/
theorem turned {m d j : Nat} (hd : d < m) (hj : j < m) : ∃ i, i < m ∧ (i + d) % m = j :=
  ⟨(j + m - d) % m, Nat.mod_lt _ (by omega), by rw [Nat.mod_add_mod, show j + m - d + d = j + m by omega, Nat.add_mod_right, Nat.mod_eq_of_lt hj]⟩
theorem words_puts {L R : List RT} (h : WordsR L) (h1 : ∀ x ∈ R, x ∈ L) : WordsA (R.map putOf) := fun a ha => by
  obtain ⟨r, hr, rfl⟩ := List.mem_map.1 ha
  exact ⟨h r (h1 r hr), by show (0 : Nat) < 2 ^ 128; decide⟩
end Go.Proofs.Ytmjlmfbceccjdaa
/-
  Plain mathematics: what acts tell of a prefix.
-/
namespace Go.Proofs.Ytmjlmfbceccjdaa
open Go.RowKit
set_option linter.unusedVariables false
set_option linter.unusedSimpArgs false

theorem SortedR.ne {L : List RT} (h : SortedR L) {i j : Nat} (hi : i < L.length) (hj : j < L.length) (e : i ≠ j) : L[i].1 ≠ L[j].1 := fun g => by
  rcases Nat.lt_or_gt_of_ne e with c | c
  · exact ltK_ne (h.lt c hj) g
  · exact ltK_ne (h.lt c hi) g.symm
theorem put_mem {L : List RT} (I : InvR L) {r : RT} (h : putE L r = 0) (x : RT) : x ∈ putL L r ↔ x = r ∨ (x ∈ L ∧ x.1 ≠ r.1) := by
  unfold putE at h
  unfold putL
  by_cases hz : rtE r = 0
  · rw [if_pos hz] at h ⊢
    by_cases hh : hasR L r.1 = true
    · rw [if_pos hh]
      obtain ⟨ht, e⟩ := I.sorted.found.1 hh
      constructor
      · intro hx
        obtain ⟨j, hj, rfl⟩ := List.getElem_of_mem hx
        rw [List.length_set] at hj
        rw [List.getElem_set]
        by_cases c : posR L r.1 = j
        · rw [if_pos c]; exact .inl rfl
        · rw [if_neg c]
          refine .inr ⟨List.getElem_mem hj, fun g => ?_⟩
          exact I.sorted.ne hj ht (Ne.symm c) (g.trans e.symm)
      · rintro (rfl | ⟨hx, hn⟩)
        · exact List.mem_set ht _
        · obtain ⟨j, hj, rfl⟩ := List.getElem_of_mem hx
          have c : posR L r.1 ≠ j := fun c => hn (by subst c; exact e)
          have : (L.set (posR L r.1) r)[j]'(by rw [List.length_set]; exact hj) = L[j] := by rw [List.getElem_set, if_neg c]
          rw [← this]; exact List.getElem_mem _
    · rw [if_neg hh] at h ⊢
      split at h
      · cases h
      · rename_i h6
        rw [if_neg h6, insR_mem]
        constructor
        · rintro (e | hx)
          · exact .inl e
          · exact .inr ⟨hx, fun g => hh (List.any_eq_true.2 ⟨x, hx, decide_eq_true g⟩)⟩
        · rintro (e | ⟨hx, _⟩)
          · exact .inl e
          · exact .inr hx
  · rw [if_neg hz] at h; exact absurd h hz
theorem put_err {L : List RT} {r : RT} (h : putE L r ≠ 0) : putL L r = L := by
  unfold putE at h
  unfold putL
  by_cases hz : rtE r = 0
  · rw [if_pos hz] at h ⊢
    by_cases hh : hasR L r.1 = true
    · rw [if_pos hh] at h; exact absurd rfl h
    · rw [if_neg hh] at h ⊢
      split at h
      · rename_i h6; rw [if_pos h6]
      · exact absurd rfl h
  · rw [if_neg hz]
theorem cut_mem {L : List RT} (I : InvR L) {p : PK} (h : finE L p = 0) (x : RT) : x ∈ cutL L p ↔ x ∈ L ∧ x.1 ≠ p := by
  obtain ⟨_, _, _, ht, e, _⟩ := finE_0 I.sorted h
  rw [cutL, if_pos h, delR, ← List.eraseIdx_eq_take_drop_succ, List.mem_eraseIdx_iff_getElem]
  constructor
  · rintro ⟨j, hj, hx⟩
    obtain ⟨c, rfl⟩ := hx
    exact ⟨List.getElem_mem hj, fun g => I.sorted.ne hj ht c (g.trans e.symm)⟩
  · rintro ⟨hx, hn⟩
    obtain ⟨j, hj, rfl⟩ := List.getElem_of_mem hx
    exact ⟨j, hj, fun c => hn (by subst c; exact e), rfl⟩
theorem cut_err {L : List RT} {p : PK} (h : finE L p ≠ 0) : cutL L p = L := by rw [cutL, if_neg h]
theorem had_some {L : List RT} (I : InvR L) {q : PK} {h : Int} (hm : (q, h) ∈ L) : hadZ q L = h := by
  have hh : hasR L q = true := List.any_eq_true.2 ⟨_, hm, decide_eq_true rfl⟩
  obtain ⟨ht, e⟩ := I.sorted.found.1 hh
  have := I.sorted.key (List.getElem_mem ht) hm e
  rw [hadZ_eq I.sorted, if_pos hh, hopR, List.getElem?_eq_getElem ht, this]
theorem had_zero {L : List RT} {q : PK} (hn : ∀ r ∈ L, r.1 ≠ q) : hadZ q L = 0 := had_none q L 0 hn
theorem had_or {L : List RT} (q : PK) : (∀ r ∈ L, r.1 ≠ q) ∨ ∃ h, (q, h) ∈ L := by
  by_cases c : ∃ r ∈ L, r.1 = q
  · obtain ⟨r, hr, rfl⟩ := c
    exact .inr ⟨r.2, hr⟩
  · exact .inl fun r hr e => c ⟨r, hr, e⟩
theorem had_same {L M : List RT} (I : InvR L) (J : InvR M) {q : PK} (h : ∀ h, (q, h) ∈ M ↔ (q, h) ∈ L) : hadZ q M = hadZ q L := by
  rcases had_or (L := L) q with c | ⟨y, hy⟩
  · rw [had_zero c, had_zero fun r hr e => by
      obtain ⟨p, y⟩ := r
      subst e
      exact c _ ((h y).1 hr) rfl]
  · rw [had_some I hy, had_some J ((h y).2 hy)]
theorem had_put {L : List RT} (I : InvR L) {p q : PK} {h : Int} (hz : putE L (p, h) = 0) : hadZ q (putL L (p, h)) = if p = q then h else hadZ q L := by
  split
  · rename_i e; subst e
    exact had_some (I.put _) ((put_mem I hz _).2 (.inl rfl))
  · rename_i e
    refine had_same I (I.put _) fun y => ?_
    rw [put_mem I hz]
    constructor
    · rintro (g | ⟨g, _⟩)
      · exact absurd (congrArg Prod.fst g).symm e
      · exact g
    · exact fun g => .inr ⟨g, fun c => e c.symm⟩
theorem had_cut {L : List RT} (I : InvR L) {p q : PK} (hz : finE L p = 0) : hadZ q (cutL L p) = if p = q then 0 else hadZ q L := by
  split
  · rename_i e; subst e
    exact had_zero fun r hr => ((cut_mem I hz r).1 hr).2
  · rename_i e
    refine had_same I (I.cut _) fun y => ?_
    rw [cut_mem I hz]
    exact ⟨fun g => g.1, fun g => ⟨g, fun c => e c.symm⟩⟩
/-- What the law's loop makes of an act and its answer. -/
def toldF (q : PK) (c : Int) (h : Int) (a : ActT) : Int := if a.p = q ∧ c = 0 then (if a.k = 1 then a.h else if a.k = 2 then 0 else h) else h
theorem had_step {L : List RT} (I : InvR L) (q : PK) (a : ActT) : hadZ q (doL L a) = toldF q (doA L a).1 (hadZ q L) a := by
  unfold doL doA toldF
  by_cases h1 : a.k = 1
  · simp only [h1, if_true]
    by_cases hz : putE L (a.p, a.h) = 0
    · rw [had_put I hz]; simp [hz]
    · rw [put_err hz]; simp [hz]
  · simp only [h1, if_false]
    by_cases h2 : a.k = 2
    · simp only [h2, if_true]
      by_cases hz : finE L a.p = 0
      · rw [had_cut I hz]; simp [hz]
      · rw [cut_err hz]; simp [hz]
    · simp only [h2, if_false]
      simp
theorem runX_at {l : List ActT} {k : Nat} (hk : k < l.length) : (runX [] l)[k]'(by rw [runX_len]; exact hk) = doA (runL (l.take k)) l[k] := by
  suffices H : ∀ (l : List ActT) (L : List RT) (k : Nat) (hk : k < l.length), (runX L l)[k]'(by rw [runX_len]; exact hk) = doA ((l.take k).foldl doL L) l[k] from H l [] k hk
  intro l
  induction l with
  | nil => intro L k hk; simp at hk
  | cons a t ih =>
    intro L k hk
    cases k with
    | zero => simp [runX]
    | succ k => simp only [runX, List.getElem_cons_succ, List.take_succ_cons, List.foldl_cons]; exact ih _ k (by simpa using hk)
theorem doL_len (L : List RT) (a : ActT) : (doL L a).length ≤ L.length + 1 := by
  unfold doL putL cutL delR
  split
  · split
    · split
      · simp
      · split
        · omega
        · rw [insR_len]; omega
    · omega
  · split
    · split
      · simp; omega
      · omega
    · omega
theorem runL_len (l : List ActT) : (runL l).length ≤ l.length := by
  suffices H : ∀ (l : List ActT) (L : List RT), (l.foldl doL L).length ≤ L.length + l.length by have := H l []; simpa [runL] using this
  intro l
  induction l with
  | nil => intro L; simp
  | cons a t ih => intro L; have := ih (doL L a); have := doL_len L a; simp only [List.foldl_cons, List.length_cons]; omega
theorem put_small {L : List RT} (h : L.length < 60) {r : RT} (hz : rtE r = 0) : putE L r = 0 := by
  unfold putE
  rw [if_pos hz]
  split
  · rfl
  · rw [if_neg (by omega)]
theorem get_had {L : List RT} (I : InvR L) {q : PK} (hc : chkE q.1 q.2.1 q.2.2 = 0) : finE L q = (if hadZ q L = 0 then 7 else 0) ∧ (getR L q).1 = hadZ q L ∧ cutA L q = hadZ q L := by
  have e := hadZ_eq (q := q) I.sorted
  unfold getR cutA finE
  rw [if_pos hc]
  by_cases hh : hasR L q = true
  · have := hopR_fine I hh
    rw [if_pos hh] at e ⊢
    simp only [if_true, e]
    rw [if_neg (by omega)]
    simp
  · rw [if_neg hh] at e ⊢
    rw [e]
    simp
theorem putA_had {L : List RT} (I : InvR L) {q : PK} {h : Int} (hz : rtE (q, h) = 0) : putA L (q, h) = hadZ q L := by
  rw [putA, if_pos hz, hadZ_eq I.sorted]
theorem told_end {as_ M : List ActT} {XL : List (Int × Int × Int)} {z : PK} {la g4 : ActT} {hh : Int} {n : Nat} (h : runX [] M = XL) (e : M = as_ ++ [g4, la, g4]) (hg : g4 = ⟨4, z, 0, false, 0⟩) (hla : la = ⟨1, z, 9, false, 0⟩ ∨ la = ⟨2, z, 0, false, 0⟩)
    (hc : chkE z.1 z.2.1 z.2.2 = 0) (hn : as_.length = n) (hl : n ≤ 50) (H : hadZ z (runL as_) = hh) (i0 : n < XL.length) (i1 : n + 1 < XL.length) (i2 : n + 2 < XL.length) :
    XL[n].1 = (if hh = 0 then 7 else 0) ∧ XL[n].2.1 = hh ∧ XL[n + 1].2.1 = hh ∧ ((la.k = 2 ∧ XL[n + 2].1 = 7 ∧ XL[n + 1].1 = (if hh = 0 then 7 else 0)) ∨ (la.k = 1 ∧ XL[n + 1].1 = 0 ∧ XL[n + 2].2.1 = 9)) := by
  subst hn
  have I := InvR.run as_
  have e3 : as_ ++ [g4, la, g4] = ((as_ ++ [g4]) ++ [la]) ++ [g4] := by simp
  have eX : XL = runX [] as_ ++ [doA (runL as_) g4, doA (runL as_) la, doA (doL (runL as_) la) g4] := by
    rw [← h, e, e3, runX_snoc, runX_snoc, runX_snoc]
    have a : (as_ ++ [g4]).foldl doL [] = runL as_ := by
      rw [List.foldl_append]
      show doL (runL as_) g4 = _
      rw [hg]; rfl
    have b : ((as_ ++ [g4]) ++ [la]).foldl doL [] = doL (runL as_) la := by rw [List.foldl_append, a]; rfl
    rw [a, b]
    show ((_ ++ [doA (runL as_) g4]) ++ _) ++ _ = _
    simp
  subst eX
  have l0 : (runX [] as_).length = as_.length := runX_len _ _
  have x0 : (runX [] as_ ++ [doA (runL as_) g4, doA (runL as_) la, doA (doL (runL as_) la) g4])[as_.length]'i0 = doA (runL as_) g4 := by rw [List.getElem_append_right (by omega)]; simp [l0]
  have x1 : (runX [] as_ ++ [doA (runL as_) g4, doA (runL as_) la, doA (doL (runL as_) la) g4])[as_.length + 1]'i1 = doA (runL as_) la := by rw [List.getElem_append_right (by omega)]; simp [l0]
  have x2 : (runX [] as_ ++ [doA (runL as_) g4, doA (runL as_) la, doA (doL (runL as_) la) g4])[as_.length + 2]'i2 = doA (doL (runL as_) la) g4 := by rw [List.getElem_append_right (by omega)]; simp [l0]
  rw [x0, x1, x2]
  have hlen : (runL as_).length < 60 := by have := runL_len as_; omega
  generalize runL as_ = L at I H hlen
  obtain ⟨t1, t2, t3⟩ := get_had I hc
  have d4 : ∀ K, doA K g4 = (finE K z, (getR K z).1, (getR K z).2) := fun K => by rw [hg]; rfl
  rw [H] at t1 t2 t3
  refine ⟨by rw [d4]; exact t1, by rw [d4]; exact t2, ?_, ?_⟩
  · rcases hla with e | e
    · rw [e]; show putA L (z, 9) = hh
      rw [putA_had I (rt_mk hc (by decide) (by decide)), H]
    · rw [e]; show cutA L z = hh
      exact t3
  · rcases hla with e | e
    · right
      subst e
      have hz := put_small hlen (rt_mk hc (show (1 : Int) ≤ 9 by decide) (show (9 : Int) ≤ 999 by decide))
      refine ⟨rfl, hz, ?_⟩
      rw [d4]
      show (getR (putL L (z, 9)) z).1 = 9
      rw [(get_had (I.put _) hc).2.1, had_put I hz, if_pos rfl]
    · left
      subst e
      refine ⟨rfl, ?_, t1⟩
      rw [d4]
      show finE (cutL L z) z = 7
      rw [(get_had (I.cut _) hc).1]
      by_cases hf : finE L z = 0
      · rw [had_cut I hf, if_pos rfl, if_pos rfl]
      · rw [cut_err hf, H]
        by_cases h0 : hh = 0
        · rw [if_pos h0]
        · rw [t1, if_neg h0] at hf; exact absurd rfl hf
end Go.Proofs.Ytmjlmfbceccjdaa
