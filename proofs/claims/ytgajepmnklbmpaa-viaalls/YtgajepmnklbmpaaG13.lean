/-
  Laid together: Shapes, ShapesPre.
-/
import Derived.Test.YtgajepmnklbmpaaProg
import Derived.Test.YtgajepmnklbmpaaG1
/-
  How an address reads as an argument, and as it reads again.
-/
namespace Go.Proofs.Ytgajepmnklbmpaa
open Go.ChangeShapes Go.WideShapes Go.ChangeAt Go.RowKit Go.Joins
set_option linter.unusedSimpArgs false
set_option maxRecDepth 100000
section
variable {H : Type} {enc : TypeId × Value → H} {w : World} {base : Nat} {spare : Nat → Bool} {held : Bool}

theorem cellsAddr : Try.prog.cellsOf 61 = 3 := by kernel_rfl

/-- An address by value. -/
theorem openAddr {r : Reach} {b0 : Nat} {v : Value} {d : DataW H} {p : List MemPlace} (hv : Value.okWide Try.prog w r b0 61 v) (h : DataW.Trod enc Try.prog w base spare held 61 v d p) :
    ∃ (six : Bool) (hi lo : Int), v = .agg #[.bool six, .int .u64 hi, .int .u64 lo] ∧ d = .agg [.lit (.bool six), .lit (.int .u64 hi), .lit (.int .u64 lo)] ∧ p = [] ∧ (Lit.int .u64 hi).wf = true ∧ (Lit.int .u64 lo).wf = true := by
  obtain ⟨c0, c1, c2, y0, y1, y2, m, rfl, rfl, rfl, hy0, hy1, hy2⟩ := open_agg3 Try.underlying61 (by kernel_rfl) cellsAddr hv h
  obtain ⟨six, e0, rfl⟩ := DataW.trod_bool Try.underlying4 hy0
  obtain ⟨hi, e1, rfl, w1⟩ := DataW.trod_int Try.underlying59 hy1
  obtain ⟨lo, e2, rfl, w2⟩ := DataW.trod_int Try.underlying59 hy2
  simp at e0 e1 e2
  subst e0 e1 e2
  exact ⟨six, hi, lo, rfl, rfl, rfl, w1, w2⟩

theorem shutAddr {six : Bool} {hi lo : Int} (w1 : (Lit.int .u64 hi).wf = true) (w2 : (Lit.int .u64 lo).wf = true) :
    DataW.Trod enc Try.prog w base spare held 61 (.agg #[.bool six, .int .u64 hi, .int .u64 lo]) (.agg [.lit (.bool six), .lit (.int .u64 hi), .lit (.int .u64 lo)]) [] :=
  shut_agg3 (y0 := (.lit (.bool six), [])) (y1 := (.lit (.int .u64 hi), [])) (y2 := (.lit (.int .u64 lo), [])) Try.underlying61 (by kernel_rfl) cellsAddr ⟨1, by simp [DataW.trod, Try.underlying4]⟩ ⟨1, by simp [DataW.trod, Try.underlying59, w1]⟩ ⟨1, by simp [DataW.trod, Try.underlying59, w2]⟩
end
end Go.Proofs.Ytgajepmnklbmpaa
/-
  How a prefix reads as an argument, and as it reads again.
-/
namespace Go.Proofs.Ytgajepmnklbmpaa
open Go.ChangeShapes Go.WideShapes Go.ChangeAt Go.RowKit Go.Joins
set_option linter.unusedSimpArgs false
set_option maxRecDepth 100000
section
variable {H : Type} {enc : TypeId × Value → H} {w : World} {base : Nat} {spare : Nat → Bool} {held : Bool}

theorem cellsPrefix : Try.prog.cellsOf 63 = 4 := by kernel_rfl
theorem cellsInt : Try.prog.cellsOf 3 = 1 := by kernel_rfl
theorem cellsBool : Try.prog.cellsOf 4 = 1 := by kernel_rfl
theorem cellsU64 : Try.prog.cellsOf 59 = 1 := by kernel_rfl

/-- A prefix by value. -/
theorem openPrefix {r : Reach} {b0 : Nat} {v : Value} {d : DataW H} {p : List MemPlace} (hv : Value.okWide Try.prog w r b0 63 v) (h : DataW.Trod enc Try.prog w base spare held 63 v d p) :
    ∃ (six : Bool) (hi lo n : Int), v = .agg #[.bool six, .int .u64 hi, .int .u64 lo, .int .i64 n] ∧ d = .agg [.agg [.lit (.bool six), .lit (.int .u64 hi), .lit (.int .u64 lo)], .lit (.int .i64 n)] ∧ p = [] ∧ (Lit.int .u64 hi).wf = true ∧ (Lit.int .u64 lo).wf = true ∧ (Lit.int .i64 n).wf = true := by
  obtain ⟨cs, rfl, hsz⟩ := okWide_struct Try.underlying63 hv
  obtain ⟨c0, c1, c2, c3, rfl⟩ := array4 (hsz.trans cellsPrefix)
  obtain ⟨fuel, hf⟩ := h
  obtain ⟨y0, y1, n, hx, _, h0, h1⟩ := trod_struct2 Try.underlying63 hf
  simp only [Prod.mk.injEq] at hx
  obtain ⟨rfl, rfl⟩ := hx
  simp only [cellsAddr, cellsInt, Value.cells, List.drop_zero, List.take, List.drop] at h0 h1
  obtain ⟨z0, z1, z2, m, rfl, _, k0, k1, k2⟩ := Go.Deep.trod_struct3 Try.underlying61 h0
  simp only [cellsBool, cellsU64, List.drop_zero, List.take, List.drop] at k0 k1 k2
  obtain ⟨six, e0, rfl⟩ := DataW.trod_bool Try.underlying4 k0
  obtain ⟨hi, e1, rfl, w1⟩ := DataW.trod_int Try.underlying59 k1
  obtain ⟨lo, e2, rfl, w2⟩ := DataW.trod_int Try.underlying59 k2
  obtain ⟨l, e3, rfl, w3⟩ := DataW.trod_int Try.underlying3 h1
  simp at e0 e1 e2 e3
  subst e0 e1 e2 e3
  exact ⟨six, hi, lo, l, rfl, rfl, rfl, w1, w2, w3⟩

theorem shutPrefix {six : Bool} {hi lo n : Int} (w1 : (Lit.int .u64 hi).wf = true) (w2 : (Lit.int .u64 lo).wf = true) (w3 : (Lit.int .i64 n).wf = true) :
    DataW.Trod enc Try.prog w base spare held 63 (.agg #[.bool six, .int .u64 hi, .int .u64 lo, .int .i64 n]) (.agg [.agg [.lit (.bool six), .lit (.int .u64 hi), .lit (.int .u64 lo)], .lit (.int .i64 n)]) [] := by
  obtain ⟨k, hk⟩ := shutAddr (enc := enc) (w := w) (base := base) (spare := spare) (held := held) (six := six) w1 w2
  exact ⟨k + 1 + 1, trod_struct2_mk (y0 := (.agg [.lit (.bool six), .lit (.int .u64 hi), .lit (.int .u64 lo)], [])) (y1 := (.lit (.int .i64 n), [])) Try.underlying63 (by rw [cellsPrefix]; rfl)
    (by simp only [cellsAddr, Value.cells, List.drop_zero, List.take, List.drop]; exact DataW.trod_le (Nat.le_succ k) hk)
    (by simp only [cellsInt, Value.cells, List.take, List.drop]; exact trod_int_mk k Try.underlying3 w3)⟩
end
/-- Two words are those of a number. -/
theorem asNum (hi lo : Int) (h0 : 0 ≤ hi) (h1 : hi ≤ 18446744073709551615) (l0 : 0 ≤ lo) (l1 : lo ≤ 18446744073709551615) : ∃ x : Nat, x < 2 ^ 128 ∧ hi = aH x ∧ lo = aL x :=
  ⟨numA hi lo, numA_lt hi lo h0 h1 l0 l1, (aH_numA hi lo h0 l0 l1).symm, (aL_numA hi lo h0 l0 l1).symm⟩
end Go.Proofs.Ytgajepmnklbmpaa
