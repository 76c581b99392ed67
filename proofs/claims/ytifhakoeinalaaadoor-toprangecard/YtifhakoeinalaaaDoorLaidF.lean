/-
  The rows that list one variable, cidr.families: a world in which it lies as listed, and what a walk has of the rows' condition.
-/
import Derived.Test.YtifhakoeinalaaaDoorCards
import Derived.Test.YtifhakoeinalaaaDoorTie
import Derived.Test.YtifhakoeinalaaaDoorG3
import Derived.Lib.LaidTab
import Derived.ChangeSame
import Derived.ChangeVars
import Derived.JoinedOf
import Derived.RowKit
import Derived.LaidLaws
import Derived.LaidHandle
import Derived.MakeChecks
import Derived.Stop.Joined
import Derived.Stop.LaidErr
namespace Go.Proofs.YtifhakoeinalaaaDoor
open Go.ChangeShapes Go.WideShapes Go.ChangeAt Go.RowKit Go.Joins
set_option linter.unusedSimpArgs false
set_option linter.unusedVariables false

section
variable {H : Type} {enc : TypeId × Value → H} {w : World} {base : Nat} {spare : Nat → Bool} {held : Bool}
/-- The cells of a prefix, from how it reads. -/
theorem trodPrefix {fuel : Nat} {cs : List Value} {x : DataW H × List MemPlace} (hl : cs.length = 4) (h : DataW.trod enc Tryd.prog w base spare held fuel 33 cs = some x) :
    ∃ (six : Bool) (hi lo n : Int), cs = [.bool six, .int .u64 hi, .int .u64 lo, .int .i64 n] ∧ x = (.agg [.agg [.lit (.bool six), .lit (.int .u64 hi), .lit (.int .u64 lo)], .lit (.int .i64 n)], []) ∧ (Lit.int .u64 hi).wf = true ∧ (Lit.int .u64 lo).wf = true ∧ (Lit.int .i64 n).wf = true := by
  match cs, hl with
  | [c0, c1, c2, c3], _ =>
    obtain ⟨y0, y1, n, hx, _, h0, h1⟩ := trod_struct2 Tryd.underlying33 h
    subst hx
    simp only [cellsAddr, cellsInt, List.drop_zero, List.take, List.drop] at h0 h1
    obtain ⟨z0, z1, z2, m, rfl, _, k0, k1, k2⟩ := Go.Deep.trod_struct3 Tryd.underlying31 h0
    simp only [cellsBool, cellsU64, List.drop_zero, List.take, List.drop] at k0 k1 k2
    obtain ⟨six, e0, rfl⟩ := DataW.trod_bool Tryd.underlying4 k0
    obtain ⟨hi, e1, rfl, w1⟩ := DataW.trod_int Tryd.underlying29 k1
    obtain ⟨lo, e2, rfl, w2⟩ := DataW.trod_int Tryd.underlying29 k2
    obtain ⟨l, e3, rfl, w3⟩ := DataW.trod_int Tryd.underlying3 h1
    simp at e0 e1 e2 e3
    subst e0 e1 e2 e3
    exact ⟨six, hi, lo, l, rfl, rfl, w1, w2, w3⟩
end
/-- The variable 'families' lies as the program's text lays it. -/
def FamAt (w : World) : Prop := (w.cell? ⟨0, 0, none⟩ = some (.bool false) ∧ w.cell? ⟨0, 1, none⟩ = some (.int .u64 0) ∧ w.cell? ⟨0, 2, none⟩ = some (.int .u64 0) ∧ w.cell? ⟨0, 3, none⟩ = some (.int .i64 0)) ∧
  (w.cell? ⟨0, 4, none⟩ = some (.bool true) ∧ w.cell? ⟨0, 5, none⟩ = some (.int .u64 0) ∧ w.cell? ⟨0, 6, none⟩ = some (.int .u64 0) ∧ w.cell? ⟨0, 7, none⟩ = some (.int .i64 0)) ∧ 0 < w.heap.size
theorem FamAt.keep {w w' : World} (h : FamAt w) (hb : Below w.heap.size w w') : FamAt w' := by
  obtain ⟨⟨a0, a1, a2, a3⟩, ⟨b0, b1, b2, b3⟩, l⟩ := h
  exact ⟨⟨(hb.cell (p := ⟨0, 0, none⟩) l).trans a0, (hb.cell (p := ⟨0, 1, none⟩) l).trans a1, (hb.cell (p := ⟨0, 2, none⟩) l).trans a2, (hb.cell (p := ⟨0, 3, none⟩) l).trans a3⟩,
    ⟨(hb.cell (p := ⟨0, 4, none⟩) l).trans b0, (hb.cell (p := ⟨0, 5, none⟩) l).trans b1, (hb.cell (p := ⟨0, 6, none⟩) l).trans b2, (hb.cell (p := ⟨0, 7, none⟩) l).trans b3⟩, Nat.lt_of_lt_of_le l hb.size⟩
def Laid1.Tabs (w : World) : Prop := FamAt w
noncomputable def Laid1.world (os : Os) : World :=
  let w0 := World.holding Tryd.prog os ⟨#[], #[], []⟩
  { w0 with heap := w0.heap.modify 0 fun
    | .cells _ t frozen => .cells #[.bool false, .int .u64 0, .int .u64 0, .int .i64 0, .bool true, .int .u64 0, .int .u64 0, .int .i64 0] t frozen
    | o => o }
theorem Laid1.met (os : Os) (args : Array Value) : laidMetH Tryd.prog Rows.topHasRow.laid ((Laid1.world os).forCall (fun _ _ => 0) ⟨#[], args, []⟩).memory := by
  rw [Go.MakeChecks.laidMetH_plain _ _ _ (by kernel_rfl)]
  exact laidMet_of_run' 8 (by kernel_rfl) (by kernel_rfl)
set_option maxRecDepth 100000 in
theorem Laid1.of {W : World} (h : laidMetH Tryd.prog Rows.topHasRow.laid W) : Laid1.Tabs W := by
  rw [Go.MakeChecks.laidMetH_plain _ _ _ (by kernel_rfl)] at h
  have hg : Tryd.prog.globalNamed "whipcord/cidr.families" = some 0 := by kernel_rfl
  have hty : (Tryd.prog.globals[0]?).map (·.type) = some 74 := by kernel_rfl
  obtain ⟨ps, ⟨g', t', cs, fuel, p, q, hg', ht', hvar, hd, _, _⟩, _⟩ := h
  obtain rfl := Option.some.inj (hg.symm.trans hg')
  obtain rfl := Option.some.inj (hty.symm.trans ht')
  obtain ⟨xs, m, _, hx, hlen, hxl, hat⟩ := DataW.trod_array (n := 2) (e := 33) Tryd.underlying74 hd
  have hc : Tryd.prog.cellsOf 74 = 8 := by kernel_rfl
  rw [hc] at hlen
  match xs, hxl with
  | [x0, x1], _ =>
    have h0 := hat 0 (by decide)
    have h1 := hat 1 (by decide)
    have hl8 : cs.size = 8 := by simpa using hlen
    rw [cellsPrefix] at h0 h1
    obtain ⟨s0, i0, j0, n0, e0, rfl, _⟩ := trodPrefix (by simp; omega) h0
    obtain ⟨s1, i1, j1, n1, e1, rfl, _⟩ := trodPrefix (by simp; omega) h1
    simp [Rows.laid_whipcord_cidr_families] at hx
    obtain ⟨⟨⟨⟨rfl, rfl, rfl⟩, rfl⟩, ⟨rfl, rfl, rfl⟩, rfl⟩, _⟩ := hx
    obtain ⟨l⟩ := cs
    match l, hl8 with
    | [c0, c1, c2, c3, c4, c5, c6, c7], _ =>
      simp at e0 e1
      obtain ⟨rfl, rfl, rfl, rfl⟩ := e0
      obtain ⟨rfl, rfl, rfl, rfl⟩ := e1
      have sz : 0 < W.heap.size := by
        unfold World.var? at hvar
        simp only [hg, Option.bind_some] at hvar
        by_cases hlt : 0 < W.heap.size
        · exact hlt
        · simp [Array.getElem?_eq_none (Nat.le_of_not_lt hlt)] at hvar
      exact ⟨⟨World.var?_cell hg hvar 0, World.var?_cell hg hvar 1, World.var?_cell hg hvar 2, World.var?_cell hg hvar 3⟩, ⟨World.var?_cell hg hvar 4, World.var?_cell hg hvar 5, World.var?_cell hg hvar 6, World.var?_cell hg hvar 7⟩, sz⟩
end Go.Proofs.YtifhakoeinalaaaDoor
