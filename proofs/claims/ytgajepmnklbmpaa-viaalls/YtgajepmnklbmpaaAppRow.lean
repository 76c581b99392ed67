/-
  append(x, y...) of a row of one's own and any slice of records that can be read.
-/
import Derived.Test.YtgajepmnklbmpaaG12
import Derived.Test.YtgajepmnklbmpaaG2
namespace Go.Proofs.Ytgajepmnklbmpaa
open Go.RowKit
set_option linter.unusedVariables false
set_option linter.unusedSimpArgs false
section
variable {P : Program} {w : World} {α : Type} {f : α → List Value} {k : Nat}
theorem run_append_row (base : Nat) (t ty e : TypeId) (i : TypeInfo) (z : Value) (bytes : Nat) (ht : P.underlying t = some (.slice e)) (hi : P.info? e = some i) (hz : i.zero = some z) (hsize : i.size = k) (hby : i.bytes = bytes) (hzs : z.cells.size = k) (hsz : 0 < k)
    (hf : ∀ a, (f a).length = k) (h1 : ∀ a, ∀ u ∈ f a, u.oneCell' = true) (s : Value) (n : Nat) (xs : List Value) (hown : w.ownsRow base e k s n xs) (v : Value) (l : List α) (row : RowK f k w v l) (hp : ∃ a m c, v = .slice (some a) m c) (hbytes : (n + l.length) * bytes ≤ 140737488355328) (h63 : n + l.length ≤ maxLen) (hbase : base ≤ w.heap.size) :
    ∃ v' w', (Builtin.append_ #[t, t] ty #[s, v]).run P w = .ok v' w' ∧ w'.ownsRow base e k v' (n + l.length) (xs ++ rowOf f l) ∧ Below base w w' := by
  rcases row with ⟨rfl, p, c, rfl⟩ | ⟨g, o, c, rfl, hg, _, hc⟩
  · cases p with
    | none => obtain ⟨a, m, c', e⟩ := hp; cases e
    | some a =>
      obtain ⟨v', w', h, ho, hgr, _⟩ := run_append_own (P := P) w base t ty e i z k bytes ht hi hz hsize hby hzs hsz s n xs hown a 0 c [] (by simp) (fun j u hj => (by simp at hj)) (fun u hu => (by cases hu)) (by simpa using h63) (by simpa using hbytes) hbase
      exact ⟨v', w', h, by simpa [rowOf] using ho, below_grown hown hgr hbase⟩
  · obtain ⟨v', w', h, ho, hgr, _⟩ := run_append_own (P := P) w base t ty e i z k bytes ht hi hz hsize hby hzs hsz s n xs hown ⟨g, o, none⟩ l.length c (rowOf f l) (rowOf_len f k hf l) (fun j u hj => by
        rw [Addr.add_lit]
        have hjl : j < l.length * k := by
          have := (List.getElem?_eq_some_iff.1 hj).1
          rwa [rowOf_len f k hf] at this
        have hdm := Nat.div_add_mod' j k
        have hml := Nat.mod_lt j hsz
        have hdl : j / k < l.length := (Nat.div_lt_iff_lt_mul hsz).2 hjl
        have hj2 : (f l[j / k])[j % k]? = some u := by rw [← rowOf_at f k hf l (j / k) hdl (j % k) hml, hdm]; exact hj
        have := hc (j / k) hdl (j % k) u hj2
        rw [show o + j = o + j / k * k + j % k by omega]
        exact this) (rowOf_one f h1 l) (by simpa using h63) (by simpa using hbytes) hbase
    exact ⟨v', w', h, by simpa using ho, below_grown hown hgr hbase⟩
theorem wp_append_row {o : Oper} {a : Act} {K : Act → World → Prop} {Q : Exit → Act → World → Prop} (s x : Operand) (t : TypeId)
    (ho : o.op = .call { callee := .builtin .append, args := #[s, x], argTypes := #[t, t] }) (base : Nat) (e : TypeId) (i : TypeInfo) (z : Value) (bytes : Nat) (ht : P.underlying t = some (.slice e)) (hi : P.info? e = some i) (hz : i.zero = some z) (hsize : i.size = k) (hby : i.bytes = bytes) (hzs : z.cells.size = k) (hsz : 0 < k)
    (hf : ∀ a, (f a).length = k) (h1 : ∀ a, ∀ u ∈ f a, u.oneCell' = true) (sv : Value) (n : Nat) (xs : List Value) (hs : a.eval s = sv) (hown : w.ownsRow base e k sv n xs) (v : Value) (l : List α) (hx : a.eval x = v) (row : RowK f k w v l) (hp : ∃ a m c, v = .slice (some a) m c) (hbytes : (n + l.length) * bytes ≤ 140737488355328) (h63 : n + l.length ≤ maxLen) (hbase : base ≤ w.heap.size)
    (h : ∀ v' w', w'.ownsRow base e k v' (n + l.length) (xs ++ rowOf f l) → Below base w w' → K (a.put o.dst v') w') : o.wp P a w K Q := by
  obtain ⟨v', w', hr, h2, h3⟩ := run_append_row (P := P) base t o.type e i z bytes ht hi hz hsize hby hzs hsz hf h1 sv n xs hown v l row hp hbytes h63 hbase
  unfold Oper.wp execOp
  simp only [ho, resolve, invoke, builtin, Sem.run_bind, Sem.run_pure, Result.andThen_ok, List.map_toArray, List.map_cons, List.map_nil, hs, hx, hr]
  exact h v' w' h2 h3
theorem step_append_row {ops : Array Oper} {o : Oper} {a : Act} {K : Act → World → Prop} {Q : Exit → Act → World → Prop} {E : Prop} (hgd : o.guard = none) (s x : Operand) (t : TypeId)
    (ho : o.op = .call { callee := .builtin .append, args := #[s, x], argTypes := #[t, t] }) (base : Nat) (e : TypeId) (i : TypeInfo) (z : Value) (bytes : Nat) (ht : P.underlying t = some (.slice e)) (hi : P.info? e = some i) (hz : i.zero = some z) (hsize : i.size = k) (hby : i.bytes = bytes) (hzs : z.cells.size = k) (hsz : 0 < k)
    (hf : ∀ a, (f a).length = k) (h1 : ∀ a, ∀ u ∈ f a, u.oneCell' = true) (sv : Value) (n : Nat) (xs : List Value) (hs : a.eval s = sv) (hown : w.ownsRow base e k sv n xs) (v : Value) (l : List α) (hx : a.eval x = v) (row : RowK f k w v l) (hp : ∃ a m c, v = .slice (some a) m c) (hbytes : (n + l.length) * bytes ≤ 140737488355328) (h63 : n + l.length ≤ maxLen) (hbase : base ≤ w.heap.size)
    (h : ∀ v' w', w'.ownsRow base e k v' (n + l.length) (xs ++ rowOf f l) → Below base w w' → K (a.put o.dst v') w') :
    if Region.wanted o (yielded ops a.tmps) = true then Oper.wp P o a w K Q else E := by
  have hw : Region.wanted o (yielded ops a.tmps) = true := by simp [Region.wanted, hgd]
  rw [if_pos hw]
  exact wp_append_row s x t ho base e i z bytes ht hi hz hsize hby hzs hsz hf h1 sv n xs hs hown v l hx row hp hbytes h63 hbase h
/-- The part of a slice of records from i to j. -/
theorem RowK.part {g o c : Nat} {l : List α} (hrow : RowK f k w (.slice (some ⟨g, o, none⟩) l.length c) l) (hne : l ≠ []) (i j : Nat) (hij : i ≤ j) (hj : j ≤ l.length) (hc : l.length ≤ c) : RowK f k w (.slice (some ⟨g, o + i * k, none⟩) (j - i) (c - i)) ((l.take j).drop i) := by
  rcases hrow with ⟨e, _⟩ | ⟨g', o', c', e, hg, hcc, hr⟩
  · exact absurd e hne
  · cases e
    refine .inr ⟨g, o + i * k, c - i, by rw [List.length_drop, List.length_take, Nat.min_eq_left hj], hg, by rw [List.length_drop, List.length_take]; omega, fun t ht => ?_⟩
    rw [List.length_drop, List.length_take] at ht
    have : ((l.take j).drop i)[t]'(by rw [List.length_drop, List.length_take]; exact ht) = l[i + t]'(by omega) := by rw [List.getElem_drop, List.getElem_take]
    rw [this, Nat.add_assoc, ← Nat.add_mul]
    exact hr (i + t) (by omega)
end
end Go.Proofs.Ytgajepmnklbmpaa
