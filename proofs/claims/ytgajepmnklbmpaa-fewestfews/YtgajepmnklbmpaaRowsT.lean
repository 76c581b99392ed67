/-
  Slices of routes that came in.
-/
import Derived.Test.YtgajepmnklbmpaaRowsR
import Derived.Test.YtgajepmnklbmpaaTabG
namespace Go.Proofs.Ytgajepmnklbmpaa
open Go.ChangeShapes Go.WideShapes Go.ChangeAt Go.RowKit Go.Joins Go.Deep
set_option linter.unusedSimpArgs false
set_option linter.unusedVariables false
set_option maxRecDepth 100000
theorem cellsRoute : Try.prog.cellsOf 66 = 5 := by kernel_rfl
section
variable {H : Type} {enc : TypeId × Value → H} {w : World} {base : Nat} {spare : Nat → Bool} {held : Bool}
theorem trodRoute (fuel : Nat) (cs : List Value) (x : DataW H × List MemPlace) (hl : cs.length = 5) (h : DataW.trod enc Try.prog w base spare held fuel 66 cs = some x) : ∃ r : RT, r.1.2.1 < 2 ^ 128 ∧ cs = rcs r := by
  match cs, hl with
  | [c0, c1, c2, c3, c4], _ =>
    obtain ⟨y0, y1, n, hx, _, h0, h1⟩ := trod_struct2 Try.underlying66 h
    simp only [cellsPrefix, cellsInt, List.drop_zero, List.take, List.drop] at h0 h1
    obtain ⟨s, hi, lo, k, e, w1, w2, w3⟩ := trodPre rfl h0
    obtain ⟨hop, e1, _, w4⟩ := DataW.trod_int Try.underlying3 h1
    obtain ⟨a, ha, ea, eb⟩ := asNum hi lo (u64_of_wf w1).1 (u64_of_wf w1).2 (u64_of_wf w2).1 (u64_of_wf w2).2
    simp at e e1
    obtain ⟨rfl, rfl, rfl, rfl⟩ := e
    subst e1 ea eb
    exact ⟨((s, a, k), hop), ha, rfl⟩
theorem openRoutes {r : Reach} {b0 : Nat} {v : Value} {d : DataW H} {p : List MemPlace} (hv : Value.okWide Try.prog w r b0 33 v) (h : DataW.Trod enc Try.prog w base spare held 33 v d p) :
    ∃ l : List RT, RowR w v l ∧ WordsR l ∧ l.length ≤ 9223372036854775807 :=
  openRow (Q := fun r : RT => r.1.2.1 < 2 ^ 128) Try.underlying33 cellsRoute (by decide) rcs_len trodRoute hv h
end
end Go.Proofs.Ytgajepmnklbmpaa
