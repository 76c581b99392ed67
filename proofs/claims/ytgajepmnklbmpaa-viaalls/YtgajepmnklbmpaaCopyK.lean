/-
  copy of elements of several cells; lists of cells cut and laid together.
-/
import Derived.Test.YtgajepmnklbmpaaG2
import Derived.Laws.CopyRow
import Derived.Lib.AppendZeros
import Derived.Lib.Overlaps
namespace Go.Proofs.Ytgajepmnklbmpaa
open Go.RowKit
set_option linter.unusedVariables false
set_option linter.unusedSimpArgs false

theorem run_copy_rowK {P : Program} (w : World) (dT sT ty elem : TypeId) (k g o dLen dCap : Nat) (a : Addr) (sLen sCap : Nat) (cur : Array Value) (t : TypeId) (cs : List Value)
    (hu : P.underlying dT = some (.slice elem)) (hs : (P.info? elem).map (·.size) = some k)
    (hg : w.heap[g]? = some (.cells cur t (0, 0))) (hn : cs.length = Nat.min sLen dLen * k)
    (hsrc : ∀ j v, cs[j]? = some v → w.cell? (a.add j) = some v) (hfit : o + cs.length ≤ cur.size) (h1 : ∀ v ∈ cs, v.oneCell' = true) :
    (Builtin.copy_ #[dT, sT] ty #[.slice (some ⟨g, o, none⟩) dLen dCap, .slice (some a) sLen sCap]).run P w =
      .ok (goInt (Nat.min sLen dLen)) (w.setRow g (cur.toList.take o ++ cs ++ cur.toList.drop (o + cs.length)).toArray) := by
  have hl := run_loadCells_list (P := P) w a cs hsrc
  have hst := run_storeCells_at P g o t cs 0 cur w hg (by simpa using hfit) h1
  cases hq : P.info? elem with
  | none => simp [hq] at hs
  | some i =>
    have hi : i.size = k := by simpa [hq] using hs
    simp [Builtin.copy_, run_underlying hu, Builtin.lenOf, Builtin.firstCells, sizeOf, typeInfo, hq, hi, ← hn, hl, hst]
theorem wp_copy_runK {P : Program} (w : World) {o : Oper} {a : Act} {K : Act → World → Prop} {Q : Exit → Act → World → Prop} (d s : Operand) (t t' : TypeId)
    (ho : o.op = .call { callee := .builtin .copy, args := #[d, s], argTypes := #[t, t'] }) (v u : Value) (hd : a.eval d = v) (hs : a.eval s = u) {v' : Value} {w' : World}
    (hr : (Builtin.copy_ #[t, t'] o.type #[v, u]).run P w = .ok v' w') (h : K (a.put o.dst v') w') : o.wp P a w K Q := by
  unfold Oper.wp execOp
  simp only [ho, resolve, invoke, builtin, Sem.run_bind, Sem.run_pure, Result.andThen_ok, List.map_toArray, List.map_cons, List.map_nil, hd, hs, hr]
  exact h
theorem wpList_copy_runK {P : Program} (w : World) {ops : Array Oper} {rest : List Oper} {o : Oper} {a : Act} {Q : Exit → Act → World → Prop} (hgd : o.guard = none) (d s : Operand) (t t' : TypeId)
    (ho : o.op = .call { callee := .builtin .copy, args := #[d, s], argTypes := #[t, t'] }) (v u : Value) (hd : a.eval d = v) (hs : a.eval s = u) {v' : Value} {w' : World}
    (hr : (Builtin.copy_ #[t, t'] o.type #[v, u]).run P w = .ok v' w') (h : wpList P ops Q rest (a.put o.dst v') w') : wpList P ops Q (o :: rest) a w :=
  wpList_plain hgd fun _ hK => wp_copy_runK w d s t t' ho v u hd hs hr (hK _ _ h)
theorem step_copy_runK {P : Program} {ops : Array Oper} {o : Oper} {a : Act} {w : World} {K : Act → World → Prop} {Q : Exit → Act → World → Prop} {E : Prop}
    (hg : o.guard = none) (d x : Operand) (dT sT : TypeId) (hop : o.op = Op.call { callee := Callee.builtin Builtin.copy, args := #[d, x], argTypes := #[dT, sT] })
    (v u : Value) (hd : a.eval d = v) (hx : a.eval x = u) {v' : Value} {w' : World} (hr : (Builtin.copy_ #[dT, sT] o.type #[v, u]).run P w = .ok v' w') (hK : K (a.put o.dst v') w') :
    if Region.wanted o (yielded ops a.tmps) = true then Oper.wp P o a w K Q else E := by
  have hw : Region.wanted o (yielded ops a.tmps) = true := by simp [Region.wanted, hg]
  rw [if_pos hw]
  exact wp_copy_runK w d x dT sT hop v u hd hx hr hK
/-- Room made in a row at i, and filled. -/
theorem cells_shift (C xs ys : List Value) (I N k : Nat) (hx : C.take N = xs) (hN : N + k ≤ C.length) (hI : I ≤ N) (hy : ys.length = k) :
    let C1 := C.take (I + k) ++ xs.drop I ++ C.drop (I + k + (xs.drop I).length)
    let C2 := C1.take I ++ ys ++ C1.drop (I + ys.length)
    C2.take (N + k) = xs.take I ++ ys ++ xs.drop I ∧ C1.length = C.length ∧ C2.length = C.length := by
  have hxl : xs.length = N := by rw [← hx, List.length_take]; omega
  have hdl : (xs.drop I).length = N - I := by rw [List.length_drop, hxl]
  intro C1 C2
  have e1 : C1.length = C.length := by
    show (C.take (I + k) ++ xs.drop I ++ C.drop (I + k + (xs.drop I).length)).length = _
    simp only [List.length_append, List.length_take, List.length_drop, hxl]; omega
  have a1 : C1.take I = xs.take I := by
    show (C.take (I + k) ++ xs.drop I ++ C.drop (I + k + (xs.drop I).length)).take I = _
    rw [List.append_assoc, List.take_append_of_le_length (by rw [List.length_take]; omega), List.take_take, Nat.min_eq_left (by omega), ← hx, List.take_take, Nat.min_eq_left hI]
  have a2 : C1.drop (I + k) = xs.drop I ++ C.drop (N + k) := by
    show (C.take (I + k) ++ xs.drop I ++ C.drop (I + k + (xs.drop I).length)).drop (I + k) = _
    have hl : (C.take (I + k)).length = I + k := by rw [List.length_take]; omega
    rw [List.append_assoc, List.drop_append, hl, List.drop_eq_nil_of_le (by omega), Nat.sub_self, List.drop_zero, List.nil_append, hdl, show I + k + (N - I) = N + k by omega]
  have e2 : C2 = xs.take I ++ ys ++ (xs.drop I ++ C.drop (N + k)) := by
    show C1.take I ++ ys ++ C1.drop (I + ys.length) = _
    rw [a1, hy, a2]
  refine ⟨?_, e1, ?_⟩
  · rw [e2, ← List.append_assoc]
    have hl : (xs.take I ++ ys ++ xs.drop I).length = N + k := by simp only [List.length_append, List.length_take, List.length_drop, hxl, hy]; omega
    rw [← hl, List.take_left]
  · rw [e2]; simp only [List.length_append, List.length_take, List.length_drop, hxl, hy]; omega
/-- A new row with room at i, filled from both sides. -/
theorem cells_fresh (C xs ys : List Value) (I N k : Nat) (hx : xs.length = N) (hC : C.take I = xs.take I) (hN : N + k ≤ C.length) (hI : I ≤ N) (hy : ys.length = k) :
    let C1 := C.take I ++ ys ++ C.drop (I + ys.length)
    let C2 := C1.take (I + k) ++ xs.drop I ++ C1.drop (I + k + (xs.drop I).length)
    C2.take (N + k) = xs.take I ++ ys ++ xs.drop I ∧ C1.length = C.length ∧ C2.length = C.length := by
  have hdl : (xs.drop I).length = N - I := by rw [List.length_drop, hx]
  intro C1 C2
  have e1 : C1.length = C.length := by
    show (C.take I ++ ys ++ C.drop (I + ys.length)).length = _
    simp only [List.length_append, List.length_take, List.length_drop, hy]; omega
  have a1 : C1.take (I + k) = xs.take I ++ ys := by
    show (C.take I ++ ys ++ C.drop (I + ys.length)).take (I + k) = _
    have hl : (C.take I ++ ys).length = I + k := by rw [List.length_append, List.length_take, hy]; omega
    conv => lhs; rw [← hl]
    rw [List.take_left, hC]
  refine ⟨?_, e1, ?_⟩
  · show (C1.take (I + k) ++ xs.drop I ++ C1.drop (I + k + (xs.drop I).length)).take (N + k) = _
    rw [a1]
    have hl : (xs.take I ++ ys ++ xs.drop I).length = N + k := by simp only [List.length_append, List.length_take, List.length_drop, hx, hy]; omega
    rw [← hl, List.take_left]
  · show (C1.take (I + k) ++ xs.drop I ++ C1.drop (I + k + (xs.drop I).length)).length = _
    simp only [List.length_append, List.length_take, List.length_drop, e1, hx]; omega
end Go.Proofs.Ytgajepmnklbmpaa
