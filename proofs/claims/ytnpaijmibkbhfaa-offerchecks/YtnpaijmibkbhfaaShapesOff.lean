/-
  How an offer reads as an argument, and as it reads again.
-/
import Derived.Test.YtnpaijmibkbhfaaShapesPre
namespace Go.Proofs.Ytnpaijmibkbhfaa
open Go.ChangeShapes Go.WideShapes Go.ChangeAt Go.RowKit Go.Joins
set_option linter.unusedSimpArgs false
set_option maxRecDepth 100000
theorem array8 {α : Type} {cs : Array α} (h : cs.size = 8) : ∃ c0 c1 c2 c3 c4 c5 c6 c7, cs = #[c0, c1, c2, c3, c4, c5, c6, c7] := by
  obtain ⟨l⟩ := cs
  match l, h with
  | [c0, c1, c2, c3, c4, c5, c6, c7], _ => exact ⟨c0, c1, c2, c3, c4, c5, c6, c7, rfl⟩
section
variable {P : Program} {H : Type} {enc : TypeId × Value → H} {w : World} {base : Nat} {spare : Nat → Bool} {held : Bool}
theorem trod_struct5 {t : TypeId} {f0 f1 f2 f3 f4 : Field} {fuel : Nat} {cs : List Value} {x : DataW H × List MemPlace} (ht : P.underlying t = some (.struct #[f0, f1, f2, f3, f4])) (h : DataW.trod enc P w base spare held fuel t cs = some x) :
    ∃ y0 y1 y2 y3 y4 n, x = (.agg [y0.1, y1.1, y2.1, y3.1, y4.1], y0.2 ++ (y1.2 ++ (y2.2 ++ (y3.2 ++ y4.2)))) ∧ cs.length = P.cellsOf t ∧ DataW.trod enc P w base spare held n f0.type ((cs.drop f0.offset).take (P.cellsOf f0.type)) = some y0 ∧
      DataW.trod enc P w base spare held n f1.type ((cs.drop f1.offset).take (P.cellsOf f1.type)) = some y1 ∧ DataW.trod enc P w base spare held n f2.type ((cs.drop f2.offset).take (P.cellsOf f2.type)) = some y2 ∧
      DataW.trod enc P w base spare held n f3.type ((cs.drop f3.offset).take (P.cellsOf f3.type)) = some y3 ∧ DataW.trod enc P w base spare held n f4.type ((cs.drop f4.offset).take (P.cellsOf f4.type)) = some y4 := by
  obtain ⟨xs, n, _, rfl, hl, hlen, hf⟩ := DataW.trod_struct ht h
  match xs, hlen with
  | [y0, y1, y2, y3, y4], _ => exact ⟨y0, y1, y2, y3, y4, n, by simp, hl, by simpa using hf 0 f0 rfl, by simpa using hf 1 f1 rfl, by simpa using hf 2 f2 rfl, by simpa using hf 3 f3 rfl, by simpa using hf 4 f4 rfl⟩
theorem trod_struct5_mk {t : TypeId} {f0 f1 f2 f3 f4 : Field} {n : Nat} {cs : List Value} {y0 y1 y2 y3 y4 : DataW H × List MemPlace} (ht : P.underlying t = some (.struct #[f0, f1, f2, f3, f4])) (hl : cs.length = P.cellsOf t)
    (h0 : DataW.trod enc P w base spare held n f0.type ((cs.drop f0.offset).take (P.cellsOf f0.type)) = some y0) (h1 : DataW.trod enc P w base spare held n f1.type ((cs.drop f1.offset).take (P.cellsOf f1.type)) = some y1)
    (h2 : DataW.trod enc P w base spare held n f2.type ((cs.drop f2.offset).take (P.cellsOf f2.type)) = some y2) (h3 : DataW.trod enc P w base spare held n f3.type ((cs.drop f3.offset).take (P.cellsOf f3.type)) = some y3)
    (h4 : DataW.trod enc P w base spare held n f4.type ((cs.drop f4.offset).take (P.cellsOf f4.type)) = some y4) :
    DataW.trod enc P w base spare held (n + 1) t cs = some (.agg [y0.1, y1.1, y2.1, y3.1, y4.1], y0.2 ++ (y1.2 ++ (y2.2 ++ (y3.2 ++ y4.2)))) := by
  have := trod_struct_mk (enc := enc) (w := w) (base := base) (spare := spare) (held := held) (n := n) (xs := [y0, y1, y2, y3, y4]) ht hl (by simp [h0, h1, h2, h3, h4])
  simpa using this
end
section
variable {H : Type} {enc : TypeId × Value → H} {w : World} {base : Nat} {spare : Nat → Bool} {held : Bool}
theorem cellsOffer : Try.prog.cellsOf 28 = 8 := by kernel_rfl
/-- An offer by value. -/
theorem openOffer {r : Reach} {b0 : Nat} {v : Value} {d : DataW H} {p : List MemPlace} (hv : Value.okWide Try.prog w r b0 28 v) (h : DataW.Trod enc Try.prog w base spare held 28 v d p) :
    ∃ (six : Bool) (hi lo n a b c e : Int), v = .agg #[.bool six, .int .u64 hi, .int .u64 lo, .int .i64 n, .int .i64 a, .int .i64 b, .int .i64 c, .int .i64 e] ∧
      d = .agg [.agg [.agg [.lit (.bool six), .lit (.int .u64 hi), .lit (.int .u64 lo)], .lit (.int .i64 n)], .lit (.int .i64 a), .lit (.int .i64 b), .lit (.int .i64 c), .lit (.int .i64 e)] ∧ p = [] ∧
      (Lit.int .u64 hi).wf = true ∧ (Lit.int .u64 lo).wf = true ∧ (Lit.int .i64 n).wf = true ∧ (Lit.int .i64 a).wf = true ∧ (Lit.int .i64 b).wf = true ∧ (Lit.int .i64 c).wf = true ∧ (Lit.int .i64 e).wf = true := by
  obtain ⟨cs, rfl, hsz⟩ := okWide_struct Try.underlying28 hv
  obtain ⟨c0, c1, c2, c3, c4, c5, c6, c7, rfl⟩ := array8 (hsz.trans cellsOffer)
  obtain ⟨fuel, hf⟩ := h
  obtain ⟨x0, x1, x2, x3, x4, nn, hx, _, g0, g1, g2, g3, g4⟩ := trod_struct5 Try.underlying28 hf
  simp only [Prod.mk.injEq] at hx
  obtain ⟨rfl, rfl⟩ := hx
  simp only [cellsPrefix, cellsInt, Value.cells, List.drop_zero, List.take, List.drop] at g0 g1 g2 g3 g4
  obtain ⟨y0, y1, n, rfl, _, h0, h1⟩ := trod_struct2 Try.underlying26 g0
  simp only [cellsAddr, cellsInt, List.drop_zero, List.take, List.drop] at h0 h1
  obtain ⟨z0, z1, z2, m, rfl, _, k0, k1, k2⟩ := Go.Deep.trod_struct3 Try.underlying24 h0
  simp only [cellsBool, cellsU64, List.drop_zero, List.take, List.drop] at k0 k1 k2
  obtain ⟨six, e0, rfl⟩ := DataW.trod_bool Try.underlying4 k0
  obtain ⟨hi, e1, rfl, w1⟩ := DataW.trod_int Try.underlying22 k1
  obtain ⟨lo, e2, rfl, w2⟩ := DataW.trod_int Try.underlying22 k2
  obtain ⟨l, e3, rfl, w3⟩ := DataW.trod_int Try.underlying3 h1
  obtain ⟨a, e4, rfl, w4⟩ := DataW.trod_int Try.underlying3 g1
  obtain ⟨b, e5, rfl, w5⟩ := DataW.trod_int Try.underlying3 g2
  obtain ⟨c, e6, rfl, w6⟩ := DataW.trod_int Try.underlying3 g3
  obtain ⟨f, e7, rfl, w7⟩ := DataW.trod_int Try.underlying3 g4
  simp at e0 e1 e2 e3 e4 e5 e6 e7
  subst e0 e1 e2 e3 e4 e5 e6 e7
  exact ⟨six, hi, lo, l, a, b, c, f, rfl, rfl, rfl, w1, w2, w3, w4, w5, w6, w7⟩
theorem shutOffer {six : Bool} {hi lo n a b c e : Int} (w1 : (Lit.int .u64 hi).wf = true) (w2 : (Lit.int .u64 lo).wf = true) (w3 : (Lit.int .i64 n).wf = true) (w4 : (Lit.int .i64 a).wf = true) (w5 : (Lit.int .i64 b).wf = true) (w6 : (Lit.int .i64 c).wf = true) (w7 : (Lit.int .i64 e).wf = true) :
    DataW.Trod enc Try.prog w base spare held 28 (.agg #[.bool six, .int .u64 hi, .int .u64 lo, .int .i64 n, .int .i64 a, .int .i64 b, .int .i64 c, .int .i64 e]) (.agg [.agg [.agg [.lit (.bool six), .lit (.int .u64 hi), .lit (.int .u64 lo)], .lit (.int .i64 n)], .lit (.int .i64 a), .lit (.int .i64 b), .lit (.int .i64 c), .lit (.int .i64 e)]) [] := by
  obtain ⟨k, hk⟩ := shutPrefix (enc := enc) (w := w) (base := base) (spare := spare) (held := held) (six := six) w1 w2 w3
  exact ⟨k + 1 + 1, trod_struct5_mk (y0 := (.agg [.agg [.lit (.bool six), .lit (.int .u64 hi), .lit (.int .u64 lo)], .lit (.int .i64 n)], [])) (y1 := (.lit (.int .i64 a), [])) (y2 := (.lit (.int .i64 b), [])) (y3 := (.lit (.int .i64 c), [])) (y4 := (.lit (.int .i64 e), [])) Try.underlying28 (by rw [cellsOffer]; rfl)
    (by simp only [cellsPrefix, Value.cells, List.drop_zero, List.take, List.drop] at hk ⊢; exact DataW.trod_le (Nat.le_succ k) hk)
    (by simp only [cellsInt, Value.cells, List.take, List.drop]; exact trod_int_mk k Try.underlying3 w4)
    (by simp only [cellsInt, Value.cells, List.take, List.drop]; exact trod_int_mk k Try.underlying3 w5)
    (by simp only [cellsInt, Value.cells, List.take, List.drop]; exact trod_int_mk k Try.underlying3 w6)
    (by simp only [cellsInt, Value.cells, List.take, List.drop]; exact trod_int_mk k Try.underlying3 w7)⟩
end
end Go.Proofs.Ytnpaijmibkbhfaa
