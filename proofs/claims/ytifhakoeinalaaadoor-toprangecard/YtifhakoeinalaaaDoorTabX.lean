/-
  A slice copied by append; whipcordkeep.sameRoutes, goesTo, routesOf.
-/
import Derived.Test.YtifhakoeinalaaaDoorTabW
namespace Go.Proofs.YtifhakoeinalaaaDoor
open Go.RowKit
set_option linter.unusedVariables false
set_option linter.unusedSimpArgs false

section
variable {P : Program} {w : World} {α : Type} {f : α → List Value} {k : Nat}
theorem run_append_copy (t ty e : TypeId) (i : TypeInfo) (z : Value) (bytes : Nat) (ht : P.underlying t = some (.slice e)) (hi : P.info? e = some i) (hz : i.zero = some z) (hsize : i.size = k) (hby : i.bytes = bytes) (hzs : z.cells.size = k) (hsz : 0 < k)
    (hf : ∀ a, (f a).length = k) (h1 : ∀ a, ∀ u ∈ f a, u.oneCell' = true) (v : Value) (l : List α) (row : RowK f k w v l) (hbytes : l.length * bytes ≤ 140737488355328) (h63 : l.length ≤ maxLen) :
    ∃ v' w', (Builtin.append_ #[t, t] ty #[.slice none 0 0, v]).run P w = .ok v' w' ∧ w'.ownsRow w.heap.size e k v' l.length (rowOf f l) ∧ Below w.heap.size w w' := by
  rcases row with ⟨rfl, p, c, rfl⟩ | ⟨g, o, c, rfl, hg, _, hc⟩
  · cases p with
    | none =>
      refine ⟨.slice none 0 0, w, ?_, World.ownsRow_nil _ _ _ _, Below.refl _ _⟩
      simp [Builtin.append_, run_underlying ht, sizeOf, typeInfo, hi, Builtin.lenOf, Builtin.firstCells, loadCells, loadCellsFrom]
    | some a =>
      obtain ⟨v', w', h, ho, hgr, _⟩ := run_append_own (P := P) w w.heap.size t ty e i z k bytes ht hi hz hsize hby hzs hsz (.slice none 0 0) 0 [] (World.ownsRow_nil _ _ _ _) a 0 c [] (by simp) (fun j u hj => (by simp at hj)) (fun u hu => (by cases hu)) (by simp [maxLen]) (by simp) (Nat.le_refl _)
      exact ⟨v', w', h, by simpa [rowOf] using ho, (Below.refl _ w).grown hgr (Nat.le_refl _) (fun q hq => by simp [Value.ownBlock] at hq)⟩
  · obtain ⟨v', w', h, ho, hgr, _⟩ := run_append_own (P := P) w w.heap.size t ty e i z k bytes ht hi hz hsize hby hzs hsz (.slice none 0 0) 0 [] (World.ownsRow_nil _ _ _ _) ⟨g, o, none⟩ l.length c (rowOf f l) (rowOf_len f k hf l) (fun j u hj => by
        rw [Addr.add_lit]
        have hjl : j < l.length * k := by
          have := (List.getElem?_eq_some_iff.1 hj).1
          rwa [rowOf_len f k hf] at this
        have hdm := Nat.div_add_mod' j k
        have hml := Nat.mod_lt j hsz
        have hdl : j / k < l.length := (Nat.div_lt_iff_lt_mul hsz).2 hjl
        have hj2 : (f l[j / k])[j % k]? = some u := by rw [← rowOf_at f k hf l (j / k) hdl (j % k) hml, hdm]; exact hj
        have := hc (j / k) hdl (j % k) u hj2
        rw [show o + j = o + j / k * k + j % k by omega]
        exact this) (rowOf_one f h1 l) (by simpa using h63) (by simpa using hbytes) (Nat.le_refl _)
    exact ⟨v', w', h, by simpa using ho, (Below.refl _ w).grown hgr (Nat.le_refl _) (fun q hq => by simp [Value.ownBlock] at hq)⟩
theorem wp_append_copy {o : Oper} {a : Act} {K : Act → World → Prop} {Q : Exit → Act → World → Prop} (s x : Operand) (t : TypeId)
    (ho : o.op = .call { callee := .builtin .append, args := #[s, x], argTypes := #[t, t] }) (e : TypeId) (i : TypeInfo) (z : Value) (bytes : Nat) (ht : P.underlying t = some (.slice e)) (hi : P.info? e = some i) (hz : i.zero = some z) (hsize : i.size = k) (hby : i.bytes = bytes) (hzs : z.cells.size = k) (hsz : 0 < k)
    (hf : ∀ a, (f a).length = k) (h1 : ∀ a, ∀ u ∈ f a, u.oneCell' = true) (hs : a.eval s = .slice none 0 0) (v : Value) (l : List α) (hx : a.eval x = v) (row : RowK f k w v l) (hbytes : l.length * bytes ≤ 140737488355328) (h63 : l.length ≤ maxLen)
    (h : ∀ v' w', w'.ownsRow w.heap.size e k v' l.length (rowOf f l) → Below w.heap.size w w' → K (a.put o.dst v') w') : o.wp P a w K Q := by
  obtain ⟨v', w', hr, h2, h3⟩ := run_append_copy (P := P) t o.type e i z bytes ht hi hz hsize hby hzs hsz hf h1 v l row hbytes h63
  unfold Oper.wp execOp
  simp only [ho, resolve, invoke, builtin, Sem.run_bind, Sem.run_pure, Result.andThen_ok, List.map_toArray, List.map_cons, List.map_nil, hs, hx, hr]
  exact h v' w' h2 h3
theorem wpList_append_copy {ops : Array Oper} {rest : List Oper} {o : Oper} {a : Act} {Q : Exit → Act → World → Prop} (hgd : o.guard = none) (s x : Operand) (t : TypeId)
    (ho : o.op = .call { callee := .builtin .append, args := #[s, x], argTypes := #[t, t] }) (e : TypeId) (i : TypeInfo) (z : Value) (bytes : Nat) (ht : P.underlying t = some (.slice e)) (hi : P.info? e = some i) (hz : i.zero = some z) (hsize : i.size = k) (hby : i.bytes = bytes) (hzs : z.cells.size = k) (hsz : 0 < k)
    (hf : ∀ a, (f a).length = k) (h1 : ∀ a, ∀ u ∈ f a, u.oneCell' = true) (hs : a.eval s = .slice none 0 0) (v : Value) (l : List α) (hx : a.eval x = v) (row : RowK f k w v l) (hbytes : l.length * bytes ≤ 140737488355328) (h63 : l.length ≤ maxLen)
    (h : ∀ v' w', w'.ownsRow w.heap.size e k v' l.length (rowOf f l) → Below w.heap.size w w' → wpList P ops Q rest (a.put o.dst v') w') : wpList P ops Q (o :: rest) a w :=
  wpList_plain hgd fun _ hK => wp_append_copy s x t ho e i z bytes ht hi hz hsize hby hzs hsz hf h1 hs v l hx row hbytes h63 fun v' w' h2 h3 => hK _ _ (h v' w' h2 h3)
theorem step_append_copy {ops : Array Oper} {o : Oper} {a : Act} {K : Act → World → Prop} {Q : Exit → Act → World → Prop} {E : Prop} (hgd : o.guard = none) (s x : Operand) (t : TypeId)
    (ho : o.op = .call { callee := .builtin .append, args := #[s, x], argTypes := #[t, t] }) (e : TypeId) (i : TypeInfo) (z : Value) (bytes : Nat) (ht : P.underlying t = some (.slice e)) (hi : P.info? e = some i) (hz : i.zero = some z) (hsize : i.size = k) (hby : i.bytes = bytes) (hzs : z.cells.size = k) (hsz : 0 < k)
    (hf : ∀ a, (f a).length = k) (h1 : ∀ a, ∀ u ∈ f a, u.oneCell' = true) (hs : a.eval s = .slice none 0 0) (v : Value) (l : List α) (hx : a.eval x = v) (row : RowK f k w v l) (hbytes : l.length * bytes ≤ 140737488355328) (h63 : l.length ≤ maxLen)
    (h : ∀ v' w', w'.ownsRow w.heap.size e k v' l.length (rowOf f l) → Below w.heap.size w w' → K (a.put o.dst v') w') :
    if Region.wanted o (yielded ops a.tmps) = true then Oper.wp P o a w K Q else E := by
  have hw : Region.wanted o (yielded ops a.tmps) = true := by simp [Region.wanted, hgd]
  rw [if_pos hw]
  exact wp_append_copy s x t ho e i z bytes ht hi hz hsize hby hzs hsz hf h1 hs v l hx row hbytes h63 h
end
abbrev OwnA (w : World) (base : Nat) (v : Value) (l : List ActT) : Prop := w.ownsRow base 55 9 v l.length (rowOf acs l)
theorem OwnA.row {w : World} {base : Nat} {v : Value} {l : List ActT} (h : OwnA w base v l) : RowA w v l := RowK.owned acs_len h
theorem info_act : (Tryd.prog.info? 55).map (fun i => (i.zero, i.size, i.bytes)) = some (some (.agg #[.int .i64 0, .bool false, .int .u64 0, .int .u64 0, .int .i64 0, .int .i64 0, .bool false, .int .u64 0, .int .u64 0]), 9, 72) := by kernel_rfl
def oneA : ActT := ⟨1, (false, 0, 0), 7, false, 0⟩
theorem one_run : runL [oneA] = [((false, 0, 0), 7)] := by
  have h1 : rtE (oneA.p, oneA.h) = 0 := by
    show rtE ((false, 0, 0), 7) = 0
    have : chkE false 0 0 = 0 := chk_mk false 0 0 (by decide) (by decide) (by unfold lowN; simp)
    simp [rtE, this]
  have h2 : hasR [] oneA.p = false := rfl
  show doL [] oneA = _
  rw [doL, if_pos (show oneA.k = 1 from rfl), putL, if_pos h1, h2]
  rfl
end Go.Proofs.YtifhakoeinalaaaDoor
