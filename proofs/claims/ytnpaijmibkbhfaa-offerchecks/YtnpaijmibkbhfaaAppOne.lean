/-
  One record appended to a row of the call's own.
-/
import Derived.Test.YtnpaijmibkbhfaaRowK
namespace Go.Proofs.Ytnpaijmibkbhfaa
open Go.RowKit
set_option linter.unusedVariables false
set_option linter.unusedSimpArgs false
section
variable {P : Program} {w : World} {α : Type} {f : α → List Value} {k : Nat}
theorem wpList_append_one {ops : Array Oper} {rest : List Oper} {o : Oper} {a : Act} {Q : Exit → Act → World → Prop} (hgd : o.guard = none) (s x : Operand) (t : TypeId)
    (ho : o.op = .call { callee := .builtin .append, args := #[s, x], argTypes := #[t, t] }) (base : Nat) (e : TypeId) (i : TypeInfo) (z : Value) (bytes : Nat) (ht : P.underlying t = some (.slice e)) (hi : P.info? e = some i) (hz : i.zero = some z) (hsize : i.size = k) (hby : i.bytes = bytes) (hzs : z.cells.size = k) (hsz : 0 < k)
    (hf : ∀ a, (f a).length = k) (h1 : ∀ a, ∀ u ∈ f a, u.oneCell' = true) (L : List α) (hs : ∃ sv, a.eval s = sv ∧ w.ownsRow base e k sv L.length (rowOf f L)) (r : α) (nb c : Nat) (hx : a.eval x = .slice (some ⟨nb, 0, none⟩) 1 c)
    (hnew : ∀ j u, (f r)[j]? = some u → w.cell? ⟨nb, j, none⟩ = some u) (hL : L.length ≤ 100000) (hbytes : bytes ≤ 1000) (hbase : base ≤ w.heap.size)
    (h : ∀ v' w', w'.ownsRow base e k v' (L ++ [r]).length (rowOf f (L ++ [r])) → w.grownBy w' (a.eval s).ownBlock → Below base w w' → wpList P ops Q rest (a.put o.dst v') w') : wpList P ops Q (o :: rest) a w := by
  obtain ⟨sv, es, hown⟩ := hs
  have hb : (L.length + 1) * bytes ≤ 140737488355328 := Nat.le_trans (Nat.mul_le_mul (show L.length + 1 ≤ 100001 by omega) hbytes) (by decide)
  refine wpList_append_own w hgd s x t ho base e i z k bytes ht hi hz hsize hby hzs hsz sv L.length (rowOf f L) es hown ⟨nb, 0, none⟩ 1 c (f r) hx (by rw [hf, Nat.one_mul]) (fun j u hj => ?_) (h1 r) (by unfold maxLen; omega) hb hbase fun v' w' h2 h3 _ => ?_
  · have := hnew j u hj
    unfold Addr.add
    split
    · rename_i h0; subst h0; exact this
    · simpa using this
  · refine h v' w' ?_ (by rw [es]; exact h3) ((Below.refl base w).grown h3 hbase fun q hq => (hown.lt q hq).1)
    rw [List.length_append, rowOf_app, show rowOf f [r] = f r by simp [rowOf]]
    exact h2
end
/-- The cells of a record in a block laid for it. -/
theorem cell_new (w : World) (cs : List Value) (t : TypeId) (j : Nat) (u : Value) (h : cs[j]? = some u) : (w.alloc (.cells cs.toArray t)).cell? ⟨w.heap.size, j, none⟩ = some u := by
  have := World.news_of_block (_root_.Go.heap_alloc_new w (.cells cs.toArray t)) j u (by simpa using h)
  unfold Addr.add at this
  split at this
  · rename_i h0; subst h0; exact this
  · simpa using this
end Go.Proofs.Ytnpaijmibkbhfaa
