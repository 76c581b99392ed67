/-
  The rows that list seven variables: a world in which they lie as listed, and what a walk has of the rows' condition and of the world's shape.
-/
import Derived.Test.YtojdlhiibffnfabDoorLaid
import Derived.Test.YtojdlhiibffnfabDoorReadBase
import Derived.HandedShaped
import Derived.Shelf.Vars
namespace Go.Proofs.YtojdlhiibffnfabDoor
open Go.RowKit

theorem star116 : "*" ++ "errors.errorString" = "*errors.errorString" := by decide
theorem row116 (u : TypeId) (h : Tryd.prog.typeName? 3 u = some "*errors.errorString") : u = 121 :=
  typeName_ptr_named (nm := "errors.errorString") (by rw [star116]; kernel_rfl) (by kernel_rfl) (by decide) u (by rw [star116]; exact h)

theorem errAt_of_laid {n : String} {g : Nat} {text : List UInt8} {r : List (String × DataW Unit)} {W : World} (h : laidMet Tryd.prog ((n, .iface "*errors.errorString" (.ptr (.agg [.lit (.string text)]))) :: r) W)
    (hg : Tryd.prog.globalNamed n = some g) (ht : (Tryd.prog.globals[g]?).map (·.type) = some 53) : ErrAt W g := by
  obtain ⟨a, s, hv, _⟩ := laid_sentinel (te := 123) (ts := 9) h hg ht Tryd.underlying53 row116 (by kernel_rfl) Tryd.underlying123 rfl rfl Tryd.underlying9 (by kernel_rfl) (by kernel_rfl)
  refine ⟨.iface 121 (.pointer (some a)), ?_, .inr ⟨_, _, rfl⟩⟩
  simpa using World.var?_cell hg hv 0

/-- The wrap, with what the row lists and the world's shape. -/
theorem handed_and_shaped {H : Type} {enc : TypeId × Value → H} {a : Assume} {C : Checked} {os : Os} {f : FuncId} {fn : Func} {s : ChangeSpec} {conds : List PathCond} {apart fresh handsOn again : Bool} {X : World → Array Value → Prop}
    (hX : ∀ (w w' : World) (args : Array Value), w.heap = w'.heap → X w args → X w' args)
    (own : ownKnob C.prog.godebug = none) (started : os.Started) (noInit : C.prog.inits.idxOf? f = none) (hfn : C.prog.funcs[f]? = some fn)
    (witness : ∃ (w : World) (tape : Tape) (i : Input), w.os = os ∧ (w.forCall tape i).Shaped C.prog ∧ i.vars = [] ∧ Input.okWide C.prog (w.forCall tape i) .any w.heap.size f i ∧
      ((s.pre enc C.prog fn conds apart (w.forCall tape i).memory i.args ∧ X (w.forCall tape i).memory i.args) ∧ sizedMet enc C.prog fn (OpenSpec.ofChange s) apart (w.forCall tape i).memory i.args) ∧ a.holds C.prog (lone (Frame.enter C.prog f i.args .normal) [] (w.forCall tape i)))
    (contract : ∀ (W : World) (base : Nat) (args : Array Value) (ds gs : List (DataW H)) (before : List MemPlace),
      (∀ (j : Nat) t v, fn.params[j]? = some t → args[j]? = some v → Value.okWide C.prog W .any base t v) →
      DataW.Whole enc C.prog fn.params.toList s.vars apart W args.toList ds gs before →
      conds.all (PathCond.test C.prog ⟨fn.params.toList, ds, s.plain.varTypes C.prog, gs⟩) = true →
      (DataW.weightsEach C.prog (fn.params.toList ++ s.plain.varTypes C.prog) (ds ++ gs)).all (· ≤ reachBytes) = true → X W args → W.ShapedOpen C.prog →
      Calls C.prog f args W fun e W' => ∃ v, e = .returned v ∧ s.post enc C.prog fn apart fresh handsOn again W args v W') :
    ReturnsInHanded a C os f .any (fun w args => (s.pre enc C.prog fn conds apart w args ∧ X w args) ∧ sizedMet enc C.prog fn (OpenSpec.ofChange s) apart w args) (s.post enc C.prog fn apart fresh handsOn again) := by
  refine returnsInHanded_of_calls own started noInit witness ?_
  intro w tape i _ hsh _ hok hpre _
  obtain ⟨_, _, _, fn', hfn', _, _, _, _, hval⟩ := hok
  have e : fn' = fn := Option.some.inj (hfn'.symm.trans hfn)
  subst e
  obtain ⟨⟨⟨ds, gs, before, hw, hc⟩, hx⟩, hz⟩ := hpre
  have hw' := DataW.Whole.of_heap (w' := w.forCall tape i) (by rfl) hw
  refine (contract (w.forCall tape i) w.heap.size i.args ds gs before hval hw' hc (hz.weights hw) (hX _ _ _ (by rfl) hx) hsh).mono fun e W' ⟨v, he, hp⟩ => ?_
  subst he
  exact ChangeSpec.post_blind hp

theorem maxLen_of_shape {W : World} (h : W.ShapedOpen Tryd.prog) : ∃ m : Int, W.cell? ⟨0, 0, none⟩ = some (.int .i64 m) :=
  cell_of_shapedOpen_int (t := 3) (zero := #[.int .i64 0]) h (of_decide_eq_true (by kernel_rfl)) (by kernel_rfl) rfl (by kernel_rfl) (by kernel_rfl) Tryd.underlying3

def pairsIn : DataW Unit → Array Value
  | .agg ds => (ds.flatMap fun | .agg [.lit (.int k z), .lit (.int k2 z2)] => [Value.int k z, Value.int k2 z2] | _ => []).toArray
  | _ => #[]
def Laid7.Tabs (w : World) : Prop := RTabs w
noncomputable def Laid7.world (os : Os) : World :=
  let N := (World.settled Tryd.prog os).heap.size
  let w0 := World.holding Tryd.prog os ⟨#[.cells #[.string ⟨#[118, 97, 108, 117, 101, 32, 111, 117, 116, 32, 111, 102, 32, 114, 97, 110, 103, 101]⟩] 123, .cells #[.string ⟨#[105, 110, 118, 97, 108, 105, 100, 32, 115, 121, 110, 116, 97, 120]⟩] 123], #[], []⟩
  let h1 := putCells (putCells (putCells w0.heap 4 (cellsIn Rows.laid_math_bits_deBruijn32tab)) 5 (cellsIn Rows.laid_math_bits_deBruijn64tab)) 3 (cellsIn Rows.laid_internal_strconv_uint64pow10)
  let h2 := putCells (putCells h1 7 (pairsIn Rows.laid_unicode_utf8_acceptRanges)) 6 (cellsIn Rows.laid_unicode_utf8_first)
  let h3 := putCells (putCells h2 2 #[.iface 121 (.pointer (some ⟨N, 0, none⟩))]) 1 #[.iface 121 (.pointer (some ⟨N + 1, 0, none⟩))]
  { w0 with heap := h3 }
theorem Laid7.met (os : Os) (args : Array Value) : laidMetH Tryd.prog Rows.addrParsesRow.laid ((Laid7.world os).forCall (fun _ _ => 0) ⟨#[], args, []⟩).memory := by
  rw [Go.MakeChecks.laidMetH_plain _ _ _ (by kernel_rfl)]
  exact laidMet_of_run' 8 (by kernel_rfl) (by kernel_rfl)
theorem Laid7.of {W : World} (h : laidMetH Tryd.prog Rows.addrParsesRow.laid W) (hs : W.ShapedOpen Tryd.prog) : Laid7.Tabs W := by
  rw [Go.MakeChecks.laidMetH_plain _ _ _ (by kernel_rfl)] at h
  exact ⟨Tabs.of_laid h, maxLen_of_shape hs, errAt_of_laid (g := 1) h.tail.tail.tail.tail.tail (by kernel_rfl) (by kernel_rfl), errAt_of_laid (g := 2) h.tail.tail.tail.tail (by kernel_rfl) (by kernel_rfl)⟩
end Go.Proofs.YtojdlhiibffnfabDoor
