/-
  Slices of ints that came in, as rows.
-/
import Derived.Test.YtgajepmnklbmpaaRowsR
import Derived.Test.YtgajepmnklbmpaaFwA
namespace Go.Proofs.Ytgajepmnklbmpaa
open Go.ChangeShapes Go.WideShapes Go.ChangeAt Go.RowKit Go.Joins Go.Deep
set_option linter.unusedSimpArgs false
set_option linter.unusedVariables false
set_option maxRecDepth 100000
theorem cellsIntN : Try.prog.cellsOf 3 = 1 := by kernel_rfl
def WordsN (l : List Int) : Prop := ∀ z ∈ l, -9223372036854775808 ≤ z ∧ z ≤ 9223372036854775807
section
variable {H : Type} {enc : TypeId × Value → H} {w : World} {base : Nat} {spare : Nat → Bool} {held : Bool}
theorem trodIntN (fuel : Nat) (cs : List Value) (x : DataW H × List MemPlace) (hl : cs.length = 1) (h : DataW.trod enc Try.prog w base spare held fuel 3 cs = some x) : ∃ z : Int, (-9223372036854775808 ≤ z ∧ z ≤ 9223372036854775807) ∧ cs = ics z := by
  match cs, hl with
  | [c0], _ =>
    obtain ⟨z, e0, _, wz⟩ := DataW.trod_int Try.underlying3 h
    simp at e0
    subst e0
    exact ⟨z, i64_of_wf wz, rfl⟩
theorem openIntsN {r : Reach} {b0 : Nat} {v : Value} {d : DataW H} {p : List MemPlace} (hv : Value.okWide Try.prog w r b0 41 v) (h : DataW.Trod enc Try.prog w base spare held 41 v d p) :
    ∃ l : List Int, RowN w v l ∧ WordsN l ∧ l.length ≤ 9223372036854775807 :=
  openRow (Q := fun z : Int => -9223372036854775808 ≤ z ∧ z ≤ 9223372036854775807) Try.underlying41 cellsIntN (by decide) ics_len trodIntN hv h
end
end Go.Proofs.Ytgajepmnklbmpaa
