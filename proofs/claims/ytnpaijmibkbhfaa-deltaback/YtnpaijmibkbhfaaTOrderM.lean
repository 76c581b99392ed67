/-
  Plain mathematics: routes put in any order make the same table.
-/
import Derived.Test.YtnpaijmibkbhfaaTabZ
namespace Go.Proofs.Ytnpaijmibkbhfaa
open Go.RowKit
set_option linter.unusedVariables false
set_option linter.unusedSimpArgs false

/-- The act that puts a route. -/
def putOf (r : RT) : ActT := ⟨1, r.1, r.2, false, 0⟩
theorem run_puts (R : List RT) : runL (R.map putOf) = R.foldl putL [] := by
  unfold runL
  rw [List.foldl_map]
  have : (fun (x : List RT) (y : RT) => doL x (putOf y)) = putL := by
    funext x y
    rw [doL, if_pos (show (putOf y).k = 1 from rfl)]
    rfl
  rw [this]
theorem SortedR.key {L : List RT} (h : SortedR L) {a b : RT} (ha : a ∈ L) (hb : b ∈ L) (e : a.1 = b.1) : a = b := by
  obtain ⟨i, hi, rfl⟩ := List.getElem_of_mem ha
  obtain ⟨j, hj, rfl⟩ := List.getElem_of_mem hb
  rcases Nat.lt_trichotomy i j with g | g | g
  · exact absurd e (ltK_ne (h.lt g hj))
  · subst g; rfl
  · exact absurd e.symm (ltK_ne (h.lt g hi))
theorem SortedR.nodup {L : List RT} (h : SortedR L) : L.Nodup := h.imp fun {a b} g e => by subst e; exact ltK_irrefl _ g
theorem nodup_len : ∀ (A L : List RT), A.Nodup → (∀ x ∈ A, x ∈ L) → A.length ≤ L.length
  | [], L, _, _ => by simp
  | a :: A, L, hn, hs => by
    have ha := hs a (by simp)
    have hn' := List.nodup_cons.1 hn
    have ih := nodup_len A (L.erase a) hn'.2 (fun x hx => (List.mem_erase_of_ne (fun e => hn'.1 (by rw [← e]; exact hx))).2 (hs x (by simp [hx])))
    rw [List.length_erase_of_mem ha] at ih
    have : 0 < L.length := List.length_pos_of_mem ha
    simp; omega
theorem sorted_same : ∀ (A B : List RT), SortedR A → SortedR B → (∀ x, x ∈ A ↔ x ∈ B) → A = B
  | [], [], _, _, _ => rfl
  | [], b :: B, _, _, h => by have := (h b).2 (by simp); cases this
  | a :: A, [], _, _, h => by have := (h a).1 (by simp); cases this
  | a :: A, b :: B, hA, hB, h => by
    have pa := List.pairwise_cons.1 hA
    have pb := List.pairwise_cons.1 hB
    have e : a = b := by
      rcases List.mem_cons.1 ((h a).1 (by simp)) with e | g1
      · exact e
      · rcases List.mem_cons.1 ((h b).2 (by simp)) with e | g2
        · exact e.symm
        · exact absurd (pb.1 a g1) (ltK_asymm (pa.1 b g2))
    subst e
    rw [sorted_same A B pa.2 pb.2 (fun x => ?_)]
    constructor
    · intro hx
      rcases List.mem_cons.1 ((h x).1 (by simp [hx])) with e | g
      · exact absurd (pa.1 x hx) (by rw [e]; exact ltK_irrefl _)
      · exact g
    · intro hx
      rcases List.mem_cons.1 ((h x).2 (by simp [hx])) with e | g
      · exact absurd (pb.1 x hx) (by rw [e]; exact ltK_irrefl _)
      · exact g
theorem put_step {L S : List RT} (I : InvR L) (J : InvR S) (hS : ∀ x ∈ S, x ∈ L) {r : RT} (hr : r ∈ L) (x : RT) : x ∈ putL S r ↔ x = r ∨ x ∈ S := by
  unfold putL
  rw [if_pos (I.fine r hr)]
  by_cases hh : hasR S r.1 = true
  · rw [if_pos hh]
    obtain ⟨ht, e⟩ := J.sorted.found.1 hh
    have : S[posR S r.1]'ht = r := I.sorted.key (hS _ (List.getElem_mem ht)) hr e
    have hset : S.set (posR S r.1) r = S := by
      conv => lhs; rw [← this]
      rw [show posR S (S[posR S r.1]'ht).1 = posR S r.1 by rw [this]]
      exact List.set_getElem_self ht
    rw [hset]
    constructor
    · exact .inr
    · rintro (rfl | h)
      · rw [← this]; exact List.getElem_mem ht
      · exact h
  · rw [if_neg hh]
    have hh' : hasR S r.1 = false := by simpa using hh
    have := nodup_len (insR S r) L (J.sorted.ins hh').nodup (fun y hy => by
      rcases insR_mem.1 hy with rfl | h
      · exact hr
      · exact hS y h)
    rw [insR_len] at this
    have := I.size
    rw [if_neg (by omega)]
    exact insR_mem
theorem puts_mem {L : List RT} (I : InvR L) : ∀ (R S : List RT), InvR S → (∀ x ∈ S, x ∈ L) → (∀ x ∈ R, x ∈ L) → SortedR (R.foldl putL S) ∧ ∀ x, x ∈ R.foldl putL S ↔ x ∈ S ∨ x ∈ R
  | [], S, J, hS, hR => ⟨J.sorted, fun x => by simp⟩
  | r :: R, S, J, hS, hR => by
    have hr := hR r (by simp)
    have st := put_step I J hS hr
    obtain ⟨h1, h2⟩ := puts_mem I R (putL S r) (J.put r) (fun x hx => by
      rcases (st x).1 hx with rfl | h
      · exact hr
      · exact hS x h) (fun x hx => hR x (by simp [hx]))
    refine ⟨h1, fun x => ?_⟩
    rw [List.foldl_cons, h2, st, List.mem_cons]
    constructor
    · rintro ((h | h) | h) <;> simp [h]
    · rintro (h | h | h) <;> simp [h]
theorem puts_same {L R : List RT} (I : InvR L) (h1 : ∀ x ∈ R, x ∈ L) (h2 : ∀ x ∈ L, x ∈ R) : runL (R.map putOf) = L := by
  obtain ⟨s, m⟩ := puts_mem I R [] InvR.nil (fun x hx => by cases hx) h1
  rw [run_puts]
  refine sorted_same _ _ s I.sorted fun x => ?_
  rw [m x]
  exact ⟨fun h => by rcases h with h | h; cases h; exact h1 x h, fun h => .inr (h2 x h)⟩
theorem beh_inv : ∀ (t seen : List RT), (∀ r ∈ t, rtE r = 0) → SortedR t → (∀ s ∈ seen, ∀ r ∈ t, ltK s.1 r.1) → behE seen t = 0
  | [], seen, _, _, _ => rfl
  | r :: t, seen, h1, h2, h3 => by
    have p := List.pairwise_cons.1 h2
    have hh : hasR seen r.1 = false := by
      rw [Bool.eq_false_iff]
      intro hh
      obtain ⟨s, hs, e⟩ := List.any_eq_true.1 hh
      exact ltK_ne (h3 s hs r (by simp)) (of_decide_eq_true e)
    rw [behE, if_pos (h1 r (by simp)), hh]
    simp only [Bool.false_eq_true, if_false]
    refine beh_inv t _ (fun x hx => h1 x (by simp [hx])) p.2 (fun s hs x hx => ?_)
    rcases insR_mem.1 hs with rfl | hs
    · exact p.1 x hx
    · exact h3 s hs x (by simp [hx])
theorem tab_inv {L : List RT} (I : InvR L) : tabE L = 0 := by
  have := I.size
  rw [tabE, if_neg (by omega)]
  exact beh_inv L [] I.fine I.sorted (fun s hs => by cases hs)
/-- Turned about, every place is met. -/
theorem turned {m d j : Nat} (hd : d < m) (hj : j < m) : ∃ i, i < m ∧ (i + d) % m = j :=
  ⟨(j + m - d) % m, Nat.mod_lt _ (by omega), by rw [Nat.mod_add_mod, show j + m - d + d = j + m by omega, Nat.add_mod_right, Nat.mod_eq_of_lt hj]⟩
theorem words_puts {L R : List RT} (h : WordsR L) (h1 : ∀ x ∈ R, x ∈ L) : WordsA (R.map putOf) := fun a ha => by
  obtain ⟨r, hr, rfl⟩ := List.mem_map.1 ha
  exact ⟨h r (h1 r hr), by show (0 : Nat) < 2 ^ 128; decide⟩
end Go.Proofs.Ytnpaijmibkbhfaa
