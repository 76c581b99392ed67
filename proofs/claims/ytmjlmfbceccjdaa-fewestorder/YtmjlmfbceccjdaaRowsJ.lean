/-
  Slices of jobs that came in.
-/
import Derived.Test.YtmjlmfbceccjdaaRowsR
import Derived.Test.YtmjlmfbceccjdaaTabY
namespace Go.Proofs.Ytmjlmfbceccjdaa
open Go.ChangeShapes Go.WideShapes Go.ChangeAt Go.RowKit Go.Joins Go.Deep
set_option linter.unusedSimpArgs false
set_option linter.unusedVariables false
set_option maxRecDepth 100000
theorem cellsJob : Try.prog.cellsOf 67 = 3 := by kernel_rfl
section
variable {H : Type} {enc : TypeId × Value → H} {w : World} {base : Nat} {spare : Nat → Bool} {held : Bool}
theorem trodJob (fuel : Nat) (cs : List Value) (x : DataW H × List MemPlace) (hl : cs.length = 3) (h : DataW.trod enc Try.prog w base spare held fuel 67 cs = some x) : ∃ j : JT, (okI j.1 ∧ okI j.2.1 ∧ okI j.2.2) ∧ cs = jcs j := by
  match cs, hl with
  | [c0, c1, c2], _ =>
    obtain ⟨z0, z1, z2, m, hx, _, k0, k1, k2⟩ := Go.Deep.trod_struct3 Try.underlying67 h
    simp only [cellsInt, List.drop_zero, List.take, List.drop] at k0 k1 k2
    obtain ⟨a, e0, _, w0⟩ := DataW.trod_int Try.underlying3 k0
    obtain ⟨b, e1, _, w1⟩ := DataW.trod_int Try.underlying3 k1
    obtain ⟨c, e2, _, w2⟩ := DataW.trod_int Try.underlying3 k2
    simp at e0 e1 e2
    subst e0 e1 e2
    exact ⟨(a, b, c), ⟨i64_of_wf w0, i64_of_wf w1, i64_of_wf w2⟩, rfl⟩
theorem openJobs {r : Reach} {b0 : Nat} {v : Value} {d : DataW H} {p : List MemPlace} (hv : Value.okWide Try.prog w r b0 22 v) (h : DataW.Trod enc Try.prog w base spare held 22 v d p) :
    ∃ l : List JT, RowJ w v l ∧ WordsJ l ∧ l.length ≤ 9223372036854775807 :=
  openRow (Q := fun j : JT => okI j.1 ∧ okI j.2.1 ∧ okI j.2.2) Try.underlying22 cellsJob (by decide) jcs_len trodJob hv h
end
end Go.Proofs.Ytmjlmfbceccjdaa
