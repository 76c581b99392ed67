/-
  slices.Grow of nil and slices.Concat of two slices of routes.
-/
import Derived.Test.YtgajepmnklbmpaaAppRow
import Derived.Test.YtgajepmnklbmpaaG8
import Derived.Lib.AppendZeros
namespace Go.Proofs.Ytgajepmnklbmpaa
open Go.RowKit
set_option linter.unusedVariables false
set_option linter.unusedSimpArgs false
section
variable {P : Program} {w : World} {α : Type} {f : α → List Value} {k : Nat}
theorem run_append_any (base : Nat) (t ty e : TypeId) (i : TypeInfo) (z : Value) (bytes : Nat) (ht : P.underlying t = some (.slice e)) (hi : P.info? e = some i) (hz : i.zero = some z) (hsize : i.size = k) (hby : i.bytes = bytes) (hzs : z.cells.size = k) (hsz : 0 < k)
    (hf : ∀ a, (f a).length = k) (h1 : ∀ a, ∀ u ∈ f a, u.oneCell' = true) (s : Value) (n : Nat) (xs : List Value) (hown : w.ownsRow base e k s n xs) (v : Value) (l : List α) (row : RowK f k w v l) (hbytes : (n + l.length) * bytes ≤ 140737488355328) (h63 : n + l.length ≤ maxLen) (hbase : base ≤ w.heap.size) :
    ∃ v' w', (Builtin.append_ #[t, t] ty #[s, v]).run P w = .ok v' w' ∧ w'.ownsRow base e k v' (n + l.length) (xs ++ rowOf f l) ∧ Below base w w' := by
  by_cases hp : ∃ a m c, v = .slice (some a) m c
  · exact run_append_row base t ty e i z bytes ht hi hz hsize hby hzs hsz hf h1 s n xs hown v l row hp hbytes h63 hbase
  · rcases row with ⟨rfl, p, c, rfl⟩ | ⟨g, o, c, rfl, _⟩
    · cases p with
      | none =>
        refine ⟨s, w, ?_, by simpa [rowOf] using hown, Below.refl _ _⟩
        rcases hown.2 with ⟨hv, h0⟩ | ⟨g, cap, cur, hv, hb, hg, h1', h2, h3, h4⟩
        · rw [hv]
          simp [Builtin.append_, run_underlying ht, sizeOf, typeInfo, hi, Builtin.lenOf, Builtin.firstCells, loadCells, loadCellsFrom]
        · rw [hv]
          simp [Builtin.append_, run_underlying ht, sizeOf, typeInfo, hi, Builtin.lenOf, Builtin.firstCells, loadCells, loadCellsFrom, h1', storeCells]
      | some a => exact absurd ⟨_, _, _, rfl⟩ hp
    · exact absurd ⟨_, _, _, rfl⟩ hp
theorem wpList_append_any {ops : Array Oper} {rest : List Oper} {o : Oper} {a : Act} {Q : Exit → Act → World → Prop} (hgd : o.guard = none) (s x : Operand) (t : TypeId)
    (ho : o.op = .call { callee := .builtin .append, args := #[s, x], argTypes := #[t, t] }) (base : Nat) (e : TypeId) (i : TypeInfo) (z : Value) (bytes : Nat) (ht : P.underlying t = some (.slice e)) (hi : P.info? e = some i) (hz : i.zero = some z) (hsize : i.size = k) (hby : i.bytes = bytes) (hzs : z.cells.size = k) (hsz : 0 < k)
    (hf : ∀ a, (f a).length = k) (h1 : ∀ a, ∀ u ∈ f a, u.oneCell' = true) (sv : Value) (n : Nat) (xs : List Value) (hs : a.eval s = sv) (hown : w.ownsRow base e k sv n xs) (v : Value) (l : List α) (hx : a.eval x = v) (row : RowK f k w v l) (hbytes : (n + l.length) * bytes ≤ 140737488355328) (h63 : n + l.length ≤ maxLen) (hbase : base ≤ w.heap.size)
    (h : ∀ v' w', w'.ownsRow base e k v' (n + l.length) (xs ++ rowOf f l) → Below base w w' → wpList P ops Q rest (a.put o.dst v') w') : wpList P ops Q (o :: rest) a w :=
  wpList_plain hgd fun _ hK => by
    obtain ⟨v', w', hr, h2, h3⟩ := run_append_any (P := P) base t o.type e i z bytes ht hi hz hsize hby hzs hsz hf h1 sv n xs hown v l row hbytes h63 hbase
    unfold Oper.wp execOp
    simp only [ho, resolve, invoke, builtin, Sem.run_bind, Sem.run_pure, Result.andThen_ok, List.map_toArray, List.map_cons, List.map_nil, hs, hx, hr]
    exact hK _ _ (h v' w' h2 h3)
end
end Go.Proofs.Ytgajepmnklbmpaa
