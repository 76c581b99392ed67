/-
  Slices of acts that came in.
-/
import Derived.Test.YtnpaijmibkbhfaaRowsR
import Derived.Test.YtnpaijmibkbhfaaG7
import Derived.Lib.SmallJoins
namespace Go.Proofs.Ytnpaijmibkbhfaa
open Go.ChangeShapes Go.WideShapes Go.ChangeAt Go.RowKit Go.Joins Go.Deep
set_option linter.unusedSimpArgs false
set_option linter.unusedVariables false
set_option maxRecDepth 100000
theorem cellsAct : Try.prog.cellsOf 43 = 9 := by kernel_rfl
section
variable {H : Type} {enc : TypeId × Value → H} {w : World} {base : Nat} {spare : Nat → Bool} {held : Bool}
theorem trodAct (fuel : Nat) (cs : List Value) (x : DataW H × List MemPlace) (hl : cs.length = 9) (h : DataW.trod enc Try.prog w base spare held fuel 43 cs = some x) : ∃ a : ActT, (a.p.2.1 < 2 ^ 128 ∧ a.y < 2 ^ 128) ∧ cs = acs a := by
  match cs, hl with
  | [c0, c1, c2, c3, c4, c5, c6, c7, c8], _ =>
    obtain ⟨y0, y1, y2, y3, n, hx, _, h0, h1, h2, h3⟩ := trod_struct4 Try.underlying43 h
    simp only [cellsPrefix, cellsAddr, cellsInt, List.drop_zero, List.take, List.drop] at h0 h1 h2 h3
    obtain ⟨kd, e0, _, w0⟩ := DataW.trod_int Try.underlying3 h0
    obtain ⟨s, hi, lo, k, e1, w1, w2, w3⟩ := trodPre rfl h1
    obtain ⟨hop, e2, _, w4⟩ := DataW.trod_int Try.underlying3 h2
    obtain ⟨z0, z1, z2, m, rfl, _, k0, k1, k2⟩ := Go.Deep.trod_struct3 Try.underlying24 h3
    simp only [cellsBool, cellsU64, List.drop_zero, List.take, List.drop] at k0 k1 k2
    obtain ⟨t, e3, _⟩ := DataW.trod_bool Try.underlying4 k0
    obtain ⟨hi2, e4, _, w5⟩ := DataW.trod_int Try.underlying22 k1
    obtain ⟨lo2, e5, _, w6⟩ := DataW.trod_int Try.underlying22 k2
    obtain ⟨a, ha, ea, eb⟩ := asNum hi lo (u64_of_wf w1).1 (u64_of_wf w1).2 (u64_of_wf w2).1 (u64_of_wf w2).2
    obtain ⟨b, hb, ec, ed⟩ := asNum hi2 lo2 (u64_of_wf w5).1 (u64_of_wf w5).2 (u64_of_wf w6).1 (u64_of_wf w6).2
    simp at e0 e1 e2 e3 e4 e5
    obtain ⟨rfl, rfl, rfl, rfl⟩ := e1
    subst e0 e2 e3 e4 e5 ea eb ec ed
    exact ⟨⟨kd, (s, a, k), hop, t, b⟩, ⟨ha, hb⟩, rfl⟩
theorem openActs {r : Reach} {b0 : Nat} {v : Value} {d : DataW H} {p : List MemPlace} (hv : Value.okWide Try.prog w r b0 33 v) (h : DataW.Trod enc Try.prog w base spare held 33 v d p) :
    ∃ l : List ActT, RowA w v l ∧ WordsA l ∧ l.length ≤ 9223372036854775807 :=
  openRow (Q := fun a : ActT => a.p.2.1 < 2 ^ 128 ∧ a.y < 2 ^ 128) Try.underlying33 cellsAct (by decide) acs_len trodAct hv h
end
end Go.Proofs.Ytnpaijmibkbhfaa
