/-
  Slices of vias that came in.
-/
import Derived.Test.YtgajepmnklbmpaaRowsR
import Derived.Test.YtgajepmnklbmpaaViaA
namespace Go.Proofs.Ytgajepmnklbmpaa
open Go.ChangeShapes Go.WideShapes Go.ChangeAt Go.RowKit Go.Joins Go.Deep
set_option linter.unusedSimpArgs false
set_option linter.unusedVariables false
set_option maxRecDepth 100000
theorem cellsVia : Try.prog.cellsOf 27 = 3 := by kernel_rfl
def WordsV (l : List VT) : Prop := ∀ v ∈ l, True
section
variable {H : Type} {enc : TypeId × Value → H} {w : World} {base : Nat} {spare : Nat → Bool} {held : Bool}
theorem trodVia (fuel : Nat) (cs : List Value) (x : DataW H × List MemPlace) (hl : cs.length = 3) (h : DataW.trod enc Try.prog w base spare held fuel 27 cs = some x) : ∃ v : VT, True ∧ cs = vcs v := by
  match cs, hl with
  | [c0, c1, c2], _ =>
    obtain ⟨y0, y1, y2, n, hx, _, h0, h1, h2⟩ := trod_struct3 Try.underlying27 h
    simp only [cellsInt, List.drop_zero, List.take, List.drop] at h0 h1 h2
    obtain ⟨a, e0, _, _⟩ := DataW.trod_int Try.underlying3 h0
    obtain ⟨b, e1, _, _⟩ := DataW.trod_int Try.underlying3 h1
    obtain ⟨c, e2, _, _⟩ := DataW.trod_int Try.underlying3 h2
    simp at e0 e1 e2
    subst e0 e1 e2
    exact ⟨(a, b, c), trivial, rfl⟩
theorem openVias {r : Reach} {b0 : Nat} {v : Value} {d : DataW H} {p : List MemPlace} (hv : Value.okWide Try.prog w r b0 22 v) (h : DataW.Trod enc Try.prog w base spare held 22 v d p) :
    ∃ l : List VT, RowV w v l ∧ WordsV l ∧ l.length ≤ 9223372036854775807 :=
  openRow (Q := fun r : VT => True) Try.underlying22 cellsVia (by decide) vcs_len trodVia hv h
end
end Go.Proofs.Ytgajepmnklbmpaa
