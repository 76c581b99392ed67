/-
  How an address reads as an argument, and as it reads again.
-/
import Derived.Test.YtnpaijmibkbhfaaProg
import Derived.Test.YtnpaijmibkbhfaaBase
namespace Go.Proofs.Ytnpaijmibkbhfaa
open Go.ChangeShapes Go.WideShapes Go.ChangeAt Go.RowKit Go.Joins
set_option linter.unusedSimpArgs false
set_option maxRecDepth 100000
section
variable {H : Type} {enc : TypeId × Value → H} {w : World} {base : Nat} {spare : Nat → Bool} {held : Bool}

theorem cellsAddr : Try.prog.cellsOf 24 = 3 := by kernel_rfl

/-- An address by value. -/
theorem openAddr {r : Reach} {b0 : Nat} {v : Value} {d : DataW H} {p : List MemPlace} (hv : Value.okWide Try.prog w r b0 24 v) (h : DataW.Trod enc Try.prog w base spare held 24 v d p) :
    ∃ (six : Bool) (hi lo : Int), v = .agg #[.bool six, .int .u64 hi, .int .u64 lo] ∧ d = .agg [.lit (.bool six), .lit (.int .u64 hi), .lit (.int .u64 lo)] ∧ p = [] ∧ (Lit.int .u64 hi).wf = true ∧ (Lit.int .u64 lo).wf = true := by
  obtain ⟨c0, c1, c2, y0, y1, y2, m, rfl, rfl, rfl, hy0, hy1, hy2⟩ := open_agg3 Try.underlying24 (by kernel_rfl) cellsAddr hv h
  obtain ⟨six, e0, rfl⟩ := DataW.trod_bool Try.underlying4 hy0
  obtain ⟨hi, e1, rfl, w1⟩ := DataW.trod_int Try.underlying22 hy1
  obtain ⟨lo, e2, rfl, w2⟩ := DataW.trod_int Try.underlying22 hy2
  simp at e0 e1 e2
  subst e0 e1 e2
  exact ⟨six, hi, lo, rfl, rfl, rfl, w1, w2⟩

theorem shutAddr {six : Bool} {hi lo : Int} (w1 : (Lit.int .u64 hi).wf = true) (w2 : (Lit.int .u64 lo).wf = true) :
    DataW.Trod enc Try.prog w base spare held 24 (.agg #[.bool six, .int .u64 hi, .int .u64 lo]) (.agg [.lit (.bool six), .lit (.int .u64 hi), .lit (.int .u64 lo)]) [] :=
  shut_agg3 (y0 := (.lit (.bool six), [])) (y1 := (.lit (.int .u64 hi), [])) (y2 := (.lit (.int .u64 lo), [])) Try.underlying24 (by kernel_rfl) cellsAddr ⟨1, by simp [DataW.trod, Try.underlying4]⟩ ⟨1, by simp [DataW.trod, Try.underlying22, w1]⟩ ⟨1, by simp [DataW.trod, Try.underlying22, w2]⟩
end
end Go.Proofs.Ytnpaijmibkbhfaa
