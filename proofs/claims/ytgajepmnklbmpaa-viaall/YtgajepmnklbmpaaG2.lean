/-
  Laid together: AppTwo, RowK, AppOne.
-/
import Derived.Test.YtgajepmnklbmpaaG1
import Derived.Laws.AppendOwnNone
/-
  append(x, y...) of two rows that calls have made.
-/
namespace Go.Proofs.Ytgajepmnklbmpaa
open Go.RowKit
set_option linter.unusedVariables false
set_option linter.unusedSimpArgs false

theorem below_grown {base n size : Nat} {w w1 : World} {e : TypeId} {v : Value} {xs : List Value} (hown : w.ownsRow base e size v n xs) (hg : w.grownBy w1 v.ownBlock) (hB : base ≤ w.heap.size) : Below base w w1 :=
  (Below.refl base w).grown hg hB (fun k hk => (hown.lt k hk).1)
/-- The cells of a row. -/
theorem owns_cells {base n size : Nat} {w : World} {e : TypeId} {v : Value} {xs : List Value} (h : w.ownsRow base e size v n xs) :
    (v = .slice none 0 0 ∧ n = 0 ∧ xs = []) ∨ ∃ g cap, v = .slice (some ⟨g, 0, none⟩) n cap ∧ base ≤ g ∧ g < w.heap.size ∧ n ≤ cap ∧ ∀ j u, xs[j]? = some u → w.cell? ((⟨g, 0, none⟩ : Addr).add j) = some u := by
  rcases h.2 with ⟨hv, h0⟩ | ⟨g, cap, cur, hv, hb, hg, hc, _, _, ht⟩
  · refine .inl ⟨hv, h0, ?_⟩
    have := h.1
    rw [h0, Nat.zero_mul] at this
    exact List.eq_nil_of_length_eq_zero this
  · refine .inr ⟨g, cap, hv, hb, ?_, hc, fun j u hu => World.news_of_block hg j u ?_⟩
    · rcases Nat.lt_or_ge g w.heap.size with hlt | hge
      · exact hlt
      · rw [Array.getElem?_eq_none hge] at hg; cases hg
    · rw [← ht, List.getElem?_take] at hu
      split at hu
      · exact hu
      · cases hu
section
variable {P : Program} {w : World}
theorem wp_append_two {o : Oper} {a : Act} {K : Act → World → Prop} {Q : Exit → Act → World → Prop} (s x : Operand) (t : TypeId)
    (ho : o.op = .call { callee := .builtin .append, args := #[s, x], argTypes := #[t, t] })
    (base : Nat) (e : TypeId) (i : TypeInfo) (z : Value) (size bytes : Nat) (ht : P.underlying t = some (.slice e)) (hi : P.info? e = some i) (hz : i.zero = some z)
    (hsize : i.size = size) (hby : i.bytes = bytes) (hzs : z.cells.size = size) (hsz : 0 < size)
    (v : Value) (n : Nat) (xs : List Value) (hs : a.eval s = v) (hown : w.ownsRow base e size v n xs)
    (v2 : Value) (base2 m : Nat) (ys : List Value) (hx : a.eval x = v2) (hown2 : w.ownsRow base2 e size v2 m ys) (h1 : ∀ u ∈ ys, u.oneCell' = true)
    (hbytes : (n + m) * bytes ≤ 140737488355328) (h63 : n + m ≤ maxLen) (hbase : base ≤ w.heap.size)
    (h : ∀ v' w', w'.ownsRow base e size v' (n + m) (xs ++ ys) → Below base w w' → K (a.put o.dst v') w') : o.wp P a w K Q := by
  rcases owns_cells hown2 with ⟨hv, h0, he⟩ | ⟨g, cap, hv, _, _, _, hc⟩
  · subst hv; subst h0; subst he
    have hrun := run_append_owned_none (P := P) (w := w) base t o.type e i size ht hi v n xs hown
    unfold Oper.wp
    simp [execOp, ho, resolve, invoke, builtin, hs, hx, hrun, Result.andThen]
    exact h v w (by simpa using hown) (Below.refl _ _)
  · subst hv
    exact wp_append_own w s x t ho base e i z size bytes ht hi hz hsize hby hzs hsz v n xs hs hown ⟨g, 0, none⟩ m cap ys hx hown2.1 hc h1 h63 hbytes hbase fun v' w' h2 h3 _ => h v' w' h2 (below_grown hown h3 hbase)
/-- At the list of a plain region's operations. -/
theorem wpList_append_two {ops : Array Oper} {rest : List Oper} {o : Oper} {a : Act} {Q : Exit → Act → World → Prop} (hgd : o.guard = none) (s x : Operand) (t : TypeId)
    (ho : o.op = .call { callee := .builtin .append, args := #[s, x], argTypes := #[t, t] })
    (base : Nat) (e : TypeId) (i : TypeInfo) (z : Value) (size bytes : Nat) (ht : P.underlying t = some (.slice e)) (hi : P.info? e = some i) (hz : i.zero = some z)
    (hsize : i.size = size) (hby : i.bytes = bytes) (hzs : z.cells.size = size) (hsz : 0 < size)
    (v : Value) (n : Nat) (xs : List Value) (hs : a.eval s = v) (hown : w.ownsRow base e size v n xs)
    (v2 : Value) (base2 m : Nat) (ys : List Value) (hx : a.eval x = v2) (hown2 : w.ownsRow base2 e size v2 m ys) (h1 : ∀ u ∈ ys, u.oneCell' = true)
    (hbytes : (n + m) * bytes ≤ 140737488355328) (h63 : n + m ≤ maxLen) (hbase : base ≤ w.heap.size)
    (h : ∀ v' w', w'.ownsRow base e size v' (n + m) (xs ++ ys) → Below base w w' → wpList P ops Q rest (a.put o.dst v') w') : wpList P ops Q (o :: rest) a w :=
  wpList_plain hgd fun _ hK => wp_append_two s x t ho base e i z size bytes ht hi hz hsize hby hzs hsz v n xs hs hown v2 base2 m ys hx hown2 h1 hbytes h63 hbase fun v' w' h2 h3 => hK _ _ (h v' w' h2 h3)
/-- At a step of a region that draws its order. -/
theorem step_append_two {ops : Array Oper} {o : Oper} {a : Act} {K : Act → World → Prop} {Q : Exit → Act → World → Prop} {E : Prop} (hgd : o.guard = none) (s x : Operand) (t : TypeId)
    (ho : o.op = .call { callee := .builtin .append, args := #[s, x], argTypes := #[t, t] })
    (base : Nat) (e : TypeId) (i : TypeInfo) (z : Value) (size bytes : Nat) (ht : P.underlying t = some (.slice e)) (hi : P.info? e = some i) (hz : i.zero = some z)
    (hsize : i.size = size) (hby : i.bytes = bytes) (hzs : z.cells.size = size) (hsz : 0 < size)
    (v : Value) (n : Nat) (xs : List Value) (hs : a.eval s = v) (hown : w.ownsRow base e size v n xs)
    (v2 : Value) (base2 m : Nat) (ys : List Value) (hx : a.eval x = v2) (hown2 : w.ownsRow base2 e size v2 m ys) (h1 : ∀ u ∈ ys, u.oneCell' = true)
    (hbytes : (n + m) * bytes ≤ 140737488355328) (h63 : n + m ≤ maxLen) (hbase : base ≤ w.heap.size)
    (h : ∀ v' w', w'.ownsRow base e size v' (n + m) (xs ++ ys) → Below base w w' → K (a.put o.dst v') w') :
    if Region.wanted o (yielded ops a.tmps) = true then Oper.wp P o a w K Q else E := by
  have hw : Region.wanted o (yielded ops a.tmps) = true := by simp [Region.wanted, hgd]
  rw [if_pos hw]
  exact wp_append_two s x t ho base e i z size bytes ht hi hz hsize hby hzs hsz v n xs hs hown v2 base2 m ys hx hown2 h1 hbytes h63 hbase h
end
end Go.Proofs.Ytgajepmnklbmpaa
/-
  Rows of records in memory: a list of records, each of k cells, as a slice holds it.
-/
namespace Go.Proofs.Ytgajepmnklbmpaa
open Go.RowKit
set_option linter.unusedVariables false
set_option linter.unusedSimpArgs false

section
variable {α : Type} (f : α → List Value) (k : Nat)
def rowOf (l : List α) : List Value := l.flatMap f
theorem rowOf_app (l m : List α) : rowOf f (l ++ m) = rowOf f l ++ rowOf f m := List.flatMap_append
theorem rowOf_len (hf : ∀ a, (f a).length = k) (l : List α) : (rowOf f l).length = l.length * k := by
  unfold rowOf
  induction l with
  | nil => simp
  | cons a l ih => rw [List.flatMap_cons, List.length_append, ih, hf, List.length_cons, Nat.add_mul, Nat.one_mul, Nat.add_comm]
theorem rowOf_take (hf : ∀ a, (f a).length = k) (l : List α) (i : Nat) (hi : i ≤ l.length) : (rowOf f l).take (i * k) = rowOf f (l.take i) := by
  have e : rowOf f l = rowOf f (l.take i) ++ rowOf f (l.drop i) := by rw [← rowOf_app, List.take_append_drop]
  have h : (rowOf f (l.take i)).length = i * k := by rw [rowOf_len f k hf, List.length_take, Nat.min_eq_left hi]
  rw [e, ← h, List.take_left]
theorem rowOf_drop (hf : ∀ a, (f a).length = k) (l : List α) (i : Nat) (hi : i ≤ l.length) : (rowOf f l).drop (i * k) = rowOf f (l.drop i) := by
  have e : rowOf f l = rowOf f (l.take i) ++ rowOf f (l.drop i) := by rw [← rowOf_app, List.take_append_drop]
  have h : (rowOf f (l.take i)).length = i * k := by rw [rowOf_len f k hf, List.length_take, Nat.min_eq_left hi]
  rw [e, ← h, List.drop_left]
theorem rowOf_at (hf : ∀ a, (f a).length = k) (l : List α) (i : Nat) (hi : i < l.length) (j : Nat) (hj : j < k) : (rowOf f l)[i * k + j]? = (f l[i])[j]? := by
  have e : rowOf f l = rowOf f (l.take i) ++ (f l[i] ++ rowOf f (l.drop (i + 1))) := by
    conv => lhs; rw [← List.take_append_drop i l, rowOf_app, List.drop_eq_getElem_cons hi]
    rfl
  have h : (rowOf f (l.take i)).length = i * k := by rw [rowOf_len f k hf, List.length_take, Nat.min_eq_left (by omega)]
  rw [e, List.getElem?_append_right (by omega), h, Nat.add_sub_cancel_left, List.getElem?_append_left (by rw [hf]; exact hj)]
theorem rowOf_one (h1 : ∀ a, ∀ u ∈ f a, u.oneCell' = true) (l : List α) : ∀ u ∈ rowOf f l, u.oneCell' = true := by
  intro u hu
  obtain ⟨p, _, h⟩ := List.mem_flatMap.1 hu
  exact h1 p u h
/-- These cells lie in block g from o on. -/
def RecAt (w : World) (g o : Nat) (cs : List Value) : Prop := ∀ j u, cs[j]? = some u → w.cell? ⟨g, o + j, none⟩ = some u
theorem RecAt.keep {w w' : World} {g o : Nat} {cs : List Value} (h : RecAt w g o cs) {n : Nat} (hb : Below n w w') (hg : g < n) : RecAt w' g o cs :=
  fun j u hj => (hb.cell (p := ⟨g, o + j, none⟩) hg).trans (h j u hj)
/-- A slice that holds this list. -/
def RowK (w : World) (v : Value) (l : List α) : Prop := (l = [] ∧ ∃ p c, v = .slice p 0 c) ∨ ∃ g o c, v = .slice (some ⟨g, o, none⟩) l.length c ∧ g < w.heap.size ∧ l.length ≤ c ∧ ∀ i (hi : i < l.length), RecAt w g (o + i * k) (f l[i])
variable {f k}
theorem RowK.keep {w w' : World} {v : Value} {l : List α} (h : RowK f k w v l) (hb : Below w.heap.size w w') : RowK f k w' v l := by
  rcases h with h | ⟨g, o, c, e, hg, hcap, hc⟩
  · exact .inl h
  · exact .inr ⟨g, o, c, e, Nat.lt_of_lt_of_le hg hb.size, hcap, fun i hi => (hc i hi).keep hb hg⟩
theorem RowK.form {w : World} {v : Value} {l : List α} (h : RowK f k w v l) : ∃ p c, v = .slice p l.length c := by
  rcases h with ⟨rfl, p, c, e⟩ | ⟨g, o, c, e, _⟩
  · exact ⟨p, c, e⟩
  · exact ⟨_, c, e⟩
theorem RowK.at {w : World} {v : Value} {l : List α} (h : RowK f k w v l) : ∃ p c, v = .slice p l.length c ∧ l.length ≤ c ∧ ∀ i (hi : i < l.length), ∃ g o, p = some ⟨g, o, none⟩ ∧ g < w.heap.size ∧ RecAt w g (o + i * k) (f l[i]) := by
  rcases h with ⟨rfl, p, c, e⟩ | ⟨g, o, c, e, hg, hcap, hc⟩
  · exact ⟨p, c, e, by simp, fun k hk => by simp at hk⟩
  · exact ⟨_, c, e, hcap, fun k hk => ⟨g, o, rfl, hg, hc k hk⟩⟩
theorem owns_cellAt {w : World} {base n : Nat} {e : TypeId} {g cap m : Nat} {xs : List Value} (h : w.ownsRow base e k (.slice (some ⟨g, 0, none⟩) n cap) m xs) (j : Nat) (u : Value) (hj : xs[j]? = some u) : w.cell? ⟨g, j, none⟩ = some u := by
  have := h.cells (g := g) rfl j u hj
  unfold Addr.add at this
  split at this
  · rename_i h0; subst h0; exact this
  · simpa using this
theorem RowK.owned {w : World} {base : Nat} {e : TypeId} {v : Value} {l : List α} (hf : ∀ a, (f a).length = k) (h : w.ownsRow base e k v l.length (rowOf f l)) : RowK f k w v l := by
  rcases h.2 with ⟨hv, h0⟩ | ⟨g, cap, cur, hv, hb, hg, hnc, _⟩
  · exact .inl ⟨List.eq_nil_of_length_eq_zero h0, none, 0, hv⟩
  · subst hv
    refine .inr ⟨g, 0, cap, rfl, ?_, hnc, fun i hi j u hj => ?_⟩
    · rcases Nat.lt_or_ge g w.heap.size with hlt | hge
      · exact hlt
      · rw [Array.getElem?_eq_none hge] at hg; cases hg
    · have hjk : j < k := by
        rcases Nat.lt_or_ge j k with hlt | hge
        · exact hlt
        · rw [List.getElem?_eq_none (by rw [hf]; exact hge)] at hj; cases hj
      have := owns_cellAt h (i * k + j) u (by rw [rowOf_at f k hf l i hi j hjk]; exact hj)
      simpa using this
end
end Go.Proofs.Ytgajepmnklbmpaa
/-
  One record appended to a row of the call's own.
-/
namespace Go.Proofs.Ytgajepmnklbmpaa
open Go.RowKit
set_option linter.unusedVariables false
set_option linter.unusedSimpArgs false
section
variable {P : Program} {w : World} {α : Type} {f : α → List Value} {k : Nat}
theorem wpList_append_one {ops : Array Oper} {rest : List Oper} {o : Oper} {a : Act} {Q : Exit → Act → World → Prop} (hgd : o.guard = none) (s x : Operand) (t : TypeId)
    (ho : o.op = .call { callee := .builtin .append, args := #[s, x], argTypes := #[t, t] }) (base : Nat) (e : TypeId) (i : TypeInfo) (z : Value) (bytes : Nat) (ht : P.underlying t = some (.slice e)) (hi : P.info? e = some i) (hz : i.zero = some z) (hsize : i.size = k) (hby : i.bytes = bytes) (hzs : z.cells.size = k) (hsz : 0 < k)
    (hf : ∀ a, (f a).length = k) (h1 : ∀ a, ∀ u ∈ f a, u.oneCell' = true) (L : List α) (hs : ∃ sv, a.eval s = sv ∧ w.ownsRow base e k sv L.length (rowOf f L)) (r : α) (nb c : Nat) (hx : a.eval x = .slice (some ⟨nb, 0, none⟩) 1 c)
    (hnew : ∀ j u, (f r)[j]? = some u → w.cell? ⟨nb, j, none⟩ = some u) (hL : L.length ≤ 100000) (hbytes : bytes ≤ 1000) (hbase : base ≤ w.heap.size)
    (h : ∀ v' w', w'.ownsRow base e k v' (L ++ [r]).length (rowOf f (L ++ [r])) → w.grownBy w' (a.eval s).ownBlock → Below base w w' → wpList P ops Q rest (a.put o.dst v') w') : wpList P ops Q (o :: rest) a w := by
  obtain ⟨sv, es, hown⟩ := hs
  have hb : (L.length + 1) * bytes ≤ 140737488355328 := Nat.le_trans (Nat.mul_le_mul (show L.length + 1 ≤ 100001 by omega) hbytes) (by decide)
  refine wpList_append_own w hgd s x t ho base e i z k bytes ht hi hz hsize hby hzs hsz sv L.length (rowOf f L) es hown ⟨nb, 0, none⟩ 1 c (f r) hx (by rw [hf, Nat.one_mul]) (fun j u hj => ?_) (h1 r) (by unfold maxLen; omega) hb hbase fun v' w' h2 h3 _ => ?_
  · have := hnew j u hj
    unfold Addr.add
    split
    · rename_i h0; subst h0; exact this
    · simpa using this
  · refine h v' w' ?_ (by rw [es]; exact h3) ((Below.refl base w).grown h3 hbase fun q hq => (hown.lt q hq).1)
    rw [List.length_append, rowOf_app, show rowOf f [r] = f r by simp [rowOf]]
    exact h2
end
/-- The cells of a record in a block laid for it. -/
theorem cell_new (w : World) (cs : List Value) (t : TypeId) (j : Nat) (u : Value) (h : cs[j]? = some u) : (w.alloc (.cells cs.toArray t)).cell? ⟨w.heap.size, j, none⟩ = some u := by
  have := World.news_of_block (_root_.Go.heap_alloc_new w (.cells cs.toArray t)) j u (by simpa using h)
  unfold Addr.add at this
  split at this
  · rename_i h0; subst h0; exact this
  · simpa using this
end Go.Proofs.Ytgajepmnklbmpaa
