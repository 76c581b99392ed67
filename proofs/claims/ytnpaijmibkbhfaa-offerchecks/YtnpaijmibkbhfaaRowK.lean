/-
  Rows of records in memory: a list of records, each of k cells, as a slice holds it.
-/
import Derived.Test.YtnpaijmibkbhfaaAppTwo
namespace Go.Proofs.Ytnpaijmibkbhfaa
open Go.RowKit
set_option linter.unusedVariables false
set_option linter.unusedSimpArgs false

section
variable {α : Type} (f : α → List Value) (k : Nat)
def rowOf (l : List α) : List Value := l.flatMap f
theorem rowOf_app (l m : List α) : rowOf f (l ++ m) = rowOf f l ++ rowOf f m := List.flatMap_append
theorem rowOf_len (hf : ∀ a, (f a).length = k) (l : List α) : (rowOf f l).length = l.length * k := by
  unfold rowOf
  induction l with
  | nil => simp
  | cons a l ih => rw [List.flatMap_cons, List.length_append, ih, hf, List.length_cons, Nat.add_mul, Nat.one_mul, Nat.add_comm]
theorem rowOf_take (hf : ∀ a, (f a).length = k) (l : List α) (i : Nat) (hi : i ≤ l.length) : (rowOf f l).take (i * k) = rowOf f (l.take i) := by
  have e : rowOf f l = rowOf f (l.take i) ++ rowOf f (l.drop i) := by rw [← rowOf_app, List.take_append_drop]
  have h : (rowOf f (l.take i)).length = i * k := by rw [rowOf_len f k hf, List.length_take, Nat.min_eq_left hi]
  rw [e, ← h, List.take_left]
theorem rowOf_drop (hf : ∀ a, (f a).length = k) (l : List α) (i : Nat) (hi : i ≤ l.length) : (rowOf f l).drop (i * k) = rowOf f (l.drop i) := by
  have e : rowOf f l = rowOf f (l.take i) ++ rowOf f (l.drop i) := by rw [← rowOf_app, List.take_append_drop]
  have h : (rowOf f (l.take i)).length = i * k := by rw [rowOf_len f k hf, List.length_take, Nat.min_eq_left hi]
  rw [e, ← h, List.drop_left]
theorem rowOf_at (hf : ∀ a, (f a).length = k) (l : List α) (i : Nat) (hi : i < l.length) (j : Nat) (hj : j < k) : (rowOf f l)[i * k + j]? = (f l[i])[j]? := by
  have e : rowOf f l = rowOf f (l.take i) ++ (f l[i] ++ rowOf f (l.drop (i + 1))) := by
    conv => lhs; rw [← List.take_append_drop i l, rowOf_app, List.drop_eq_getElem_cons hi]
    rfl
  have h : (rowOf f (l.take i)).length = i * k := by rw [rowOf_len f k hf, List.length_take, Nat.min_eq_left (by omega)]
  rw [e, List.getElem?_append_right (by omega), h, Nat.add_sub_cancel_left, List.getElem?_append_left (by rw [hf]; exact hj)]
theorem rowOf_one (h1 : ∀ a, ∀ u ∈ f a, u.oneCell' = true) (l : List α) : ∀ u ∈ rowOf f l, u.oneCell' = true := by
  intro u hu
  obtain ⟨p, _, h⟩ := List.mem_flatMap.1 hu
  exact h1 p u h
/-- These cells lie in block g from o on. -/
def RecAt (w : World) (g o : Nat) (cs : List Value) : Prop := ∀ j u, cs[j]? = some u → w.cell? ⟨g, o + j, none⟩ = some u
theorem RecAt.keep {w w' : World} {g o : Nat} {cs : List Value} (h : RecAt w g o cs) {n : Nat} (hb : Below n w w') (hg : g < n) : RecAt w' g o cs :=
  fun j u hj => (hb.cell (p := ⟨g, o + j, none⟩) hg).trans (h j u hj)
/-- A slice that holds this list. -/
def RowK (w : World) (v : Value) (l : List α) : Prop := (l = [] ∧ ∃ p c, v = .slice p 0 c) ∨ ∃ g o c, v = .slice (some ⟨g, o, none⟩) l.length c ∧ g < w.heap.size ∧ l.length ≤ c ∧ ∀ i (hi : i < l.length), RecAt w g (o + i * k) (f l[i])
variable {f k}
theorem RowK.keep {w w' : World} {v : Value} {l : List α} (h : RowK f k w v l) (hb : Below w.heap.size w w') : RowK f k w' v l := by
  rcases h with h | ⟨g, o, c, e, hg, hcap, hc⟩
  · exact .inl h
  · exact .inr ⟨g, o, c, e, Nat.lt_of_lt_of_le hg hb.size, hcap, fun i hi => (hc i hi).keep hb hg⟩
theorem RowK.form {w : World} {v : Value} {l : List α} (h : RowK f k w v l) : ∃ p c, v = .slice p l.length c := by
  rcases h with ⟨rfl, p, c, e⟩ | ⟨g, o, c, e, _⟩
  · exact ⟨p, c, e⟩
  · exact ⟨_, c, e⟩
theorem RowK.at {w : World} {v : Value} {l : List α} (h : RowK f k w v l) : ∃ p c, v = .slice p l.length c ∧ l.length ≤ c ∧ ∀ i (hi : i < l.length), ∃ g o, p = some ⟨g, o, none⟩ ∧ g < w.heap.size ∧ RecAt w g (o + i * k) (f l[i]) := by
  rcases h with ⟨rfl, p, c, e⟩ | ⟨g, o, c, e, hg, hcap, hc⟩
  · exact ⟨p, c, e, by simp, fun k hk => by simp at hk⟩
  · exact ⟨_, c, e, hcap, fun k hk => ⟨g, o, rfl, hg, hc k hk⟩⟩
theorem owns_cellAt {w : World} {base n : Nat} {e : TypeId} {g cap m : Nat} {xs : List Value} (h : w.ownsRow base e k (.slice (some ⟨g, 0, none⟩) n cap) m xs) (j : Nat) (u : Value) (hj : xs[j]? = some u) : w.cell? ⟨g, j, none⟩ = some u := by
  have := h.cells (g := g) rfl j u hj
  unfold Addr.add at this
  split at this
  · rename_i h0; subst h0; exact this
  · simpa using this
theorem RowK.owned {w : World} {base : Nat} {e : TypeId} {v : Value} {l : List α} (hf : ∀ a, (f a).length = k) (h : w.ownsRow base e k v l.length (rowOf f l)) : RowK f k w v l := by
  rcases h.2 with ⟨hv, h0⟩ | ⟨g, cap, cur, hv, hb, hg, hnc, _⟩
  · exact .inl ⟨List.eq_nil_of_length_eq_zero h0, none, 0, hv⟩
  · subst hv
    refine .inr ⟨g, 0, cap, rfl, ?_, hnc, fun i hi j u hj => ?_⟩
    · rcases Nat.lt_or_ge g w.heap.size with hlt | hge
      · exact hlt
      · rw [Array.getElem?_eq_none hge] at hg; cases hg
    · have hjk : j < k := by
        rcases Nat.lt_or_ge j k with hlt | hge
        · exact hlt
        · rw [List.getElem?_eq_none (by rw [hf]; exact hge)] at hj; cases hj
      have := owns_cellAt h (i * k + j) u (by rw [rowOf_at f k hf l i hi j hjk]; exact hj)
      simpa using this
end
end Go.Proofs.Ytnpaijmibkbhfaa
