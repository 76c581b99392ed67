/-
  Arguments that are slices of records: how they lie when they come in; the row's last step where every argument is read again as it was.
-/
import Derived.Test.YtgajepmnklbmpaaG2
import Derived.Test.YtgajepmnklbmpaaG13
import Derived.Deep.Slices
import Derived.Carry
namespace Go.Proofs.Ytgajepmnklbmpaa
open Go.ChangeShapes Go.WideShapes Go.ChangeAt Go.RowKit Go.Joins Go.Deep
set_option linter.unusedSimpArgs false
set_option linter.unusedVariables false
set_option maxRecDepth 100000

theorem laidOutR : laidOutB Try.prog = true := by kernel_rfl
section
variable {H : Type} {enc : TypeId × Value → H} {P : Program}
theorem postBelowR {f : Func} {s : ChangeSpec} {apart fresh handsOn : Bool} {W W' : World} {args : Array Value} {v : Value} {ds gs : List (DataW H)} {before pa pv : List MemPlace}
    (hW : DataW.Whole enc P f.params.toList s.vars apart W args.toList ds gs before) (hb : Below W.heap.size W W')
    (hres : ∀ (b : Nat) (sp : Nat → Bool) (hd : Bool), DataW.TrodAll enc P W' b sp hd f.resultTypes.toList (v.resultList f.resultTypes.size) (s.fn H (ds ++ gs)).results [])
    (hargs : DataW.TrodAll enc P W' 0 (fun b => decide (b < W.heap.size)) true f.params.toList args.toList (s.fn H (ds ++ gs)).args pa)
    (hvars : ∀ sp : Nat → Bool, (∀ p ∈ before, sp p.block = true) → DataW.TrodVars enc P W' sp s.vars (s.fn H (ds ++ gs)).vars pv)
    (hps : before = pa ++ pv) : s.post enc P f apart fresh handsOn false W args v W' := by
  have seen : ∀ p ∈ before, (fun b => decide (b < W.heap.size)) p.block = true := fun p hp => decide_eq_true (hW.lt p hp)
  exact ⟨ds, gs, before, [], pa, pv, hW, hres _ _ _, hargs, hvars _ seen, World.keptBut_mono (fun p hp => ⟨hp, Or.inr (List.mem_append.1 (hps ▸ hp))⟩) (hb.frame (· ∈ before)), fun h => by cases h⟩
end
theorem add_none (g o j : Nat) : (⟨g, o, none⟩ : Addr).add j = ⟨g, o + j, none⟩ := by
  unfold Addr.add
  split
  · rename_i h; subst h; rfl
  · rfl
section
variable {H : Type} {enc : TypeId × Value → H} {w : World} {base : Nat} {spare : Nat → Bool} {held : Bool}
/-- A slice of records that came in. -/
theorem openRow {α : Type} {f : α → List Value} {k : Nat} {Q : α → Prop} {tS tE : TypeId} (hu : Try.prog.underlying tS = some (.slice tE)) (hc : Try.prog.cellsOf tE = k) (hk : 0 < k) (hf : ∀ a, (f a).length = k)
    (each : ∀ (fuel : Nat) (cs : List Value) (x : DataW H × List MemPlace), cs.length = k → DataW.trod enc Try.prog w base spare held fuel tE cs = some x → ∃ a, Q a ∧ cs = f a)
    {r : Reach} {b0 : Nat} {v : Value} {d : DataW H} {p : List MemPlace} (hv : Value.okWide Try.prog w r b0 tS v) (h : DataW.Trod enc Try.prog w base spare held tS v d p) :
    ∃ l : List α, RowK f k w v l ∧ (∀ a ∈ l, Q a) ∧ l.length ≤ 9223372036854775807 := by
  obtain ⟨q, len, cap, rfl⟩ := okWide_slice hu hv
  obtain ⟨fuel, hf'⟩ := h
  have hf' : DataW.trod enc Try.prog w base spare held fuel tS [.slice q len cap] = some (d, p) := hf'
  rcases open_slice hu hf' with ⟨h0, _⟩ | ⟨a, ln, cp, m, n, D, Pl, hcs, _, hl, hm, hmm, _, hi⟩
  · simp only [List.cons.injEq, and_true] at h0
    rw [h0]
    exact ⟨[], .inl ⟨rfl, none, 0, rfl⟩, fun p hp => (by cases hp), by simp⟩
  · simp only [List.cons.injEq, Value.slice.injEq, and_true] at hcs
    obtain ⟨rfl, rfl, rfl⟩ := hcs
    have hlm : len ≤ m := by rw [hmm]; split <;> omega
    have hmax : len ≤ 9223372036854775807 := Nat.le_trans hl hm
    rw [hc] at hi
    have each' : ∀ i, i < len → ∃ x : α, Q x ∧ ∀ j, j < k → w.cell? ((a.add (i * k)).add j) = (f x)[j]? := by
      intro i hil
      obtain ⟨cs', hcl', ht⟩ := hi i (by omega)
      obtain ⟨_, hcl, hat⟩ := World.cells?_some hcl'
      obtain ⟨x, hq, rfl⟩ := each _ _ _ hcl ht
      exact ⟨x, hq, hat⟩
    by_cases h0 : len = 0
    · subst h0
      exact ⟨[], .inl ⟨rfl, _, _, rfl⟩, fun p hp => (by cases hp), by simp⟩
    · obtain ⟨g, o, sp⟩ := a
      have one : ∃ u, w.cell? (((⟨g, o, sp⟩ : Addr).add (0 * k)).add 0) = some u := by
        obtain ⟨x, _, hx⟩ := each' 0 (by omega)
        exact ⟨_, (hx 0 hk).trans (List.getElem?_eq_getElem (by rw [hf]; exact hk))⟩
      have hsp : sp = none := by
        obtain ⟨u, hx⟩ := one
        cases sp with
        | none => rfl
        | some z =>
          exfalso
          simp only [Nat.zero_mul, Addr.add, if_true] at hx
          unfold World.cell? at hx
          split at hx <;> simp at hx
      subst hsp
      have hg : g < w.heap.size := by
        obtain ⟨u, hx⟩ := one
        rcases Nat.lt_or_ge g w.heap.size with hlt | hge
        · exact hlt
        · exfalso
          rw [add_none, add_none] at hx
          unfold World.cell? at hx
          simp [Array.getElem?_eq_none hge] at hx
      have ch : ∀ i : Fin len, ∃ x : α, Q x ∧ RecAt w g (o + i.1 * k) (f x) := fun i => by
        obtain ⟨x, hq, hx⟩ := each' i.1 i.2
        refine ⟨x, hq, fun j u hj => ?_⟩
        have hjk : j < k := by
          rcases Nat.lt_or_ge j k with hlt | hge
          · exact hlt
          · rw [List.getElem?_eq_none (by rw [hf]; exact hge)] at hj; cases hj
        have := hx j hjk
        rw [add_none, add_none] at this
        exact this.trans hj
      refine ⟨List.ofFn fun i => Classical.choose (ch i), .inr ⟨g, o, cap, by rw [List.length_ofFn], hg, by rw [List.length_ofFn]; exact hl, fun i hi => ?_⟩, fun pt hp => ?_, by rw [List.length_ofFn]; exact hmax⟩
      · rw [List.getElem_ofFn]
        exact (Classical.choose_spec (ch ⟨i, by simpa using hi⟩)).2
      · obtain ⟨i, rfl⟩ := List.mem_ofFn.1 hp
        exact (Classical.choose_spec (ch i)).1
/-- The cells of a prefix. -/
theorem trodPre {fuel : Nat} {cs : List Value} {x : DataW H × List MemPlace} (hl : cs.length = 4) (h : DataW.trod enc Try.prog w base spare held fuel 63 cs = some x) :
    ∃ (six : Bool) (hi lo n : Int), cs = [.bool six, .int .u64 hi, .int .u64 lo, .int .i64 n] ∧ (Lit.int .u64 hi).wf = true ∧ (Lit.int .u64 lo).wf = true ∧ (Lit.int .i64 n).wf = true := by
  match cs, hl with
  | [c0, c1, c2, c3], _ =>
    obtain ⟨y0, y1, n, hx, _, h0, h1⟩ := trod_struct2 Try.underlying63 h
    subst hx
    simp only [cellsAddr, cellsInt, List.drop_zero, List.take, List.drop] at h0 h1
    obtain ⟨z0, z1, z2, m, rfl, _, k0, k1, k2⟩ := Go.Deep.trod_struct3 Try.underlying61 h0
    simp only [cellsBool, cellsU64, List.drop_zero, List.take, List.drop] at k0 k1 k2
    obtain ⟨six, e0, rfl⟩ := DataW.trod_bool Try.underlying4 k0
    obtain ⟨hi, e1, rfl, w1⟩ := DataW.trod_int Try.underlying59 k1
    obtain ⟨lo, e2, rfl, w2⟩ := DataW.trod_int Try.underlying59 k2
    obtain ⟨l, e3, rfl, w3⟩ := DataW.trod_int Try.underlying3 h1
    simp at e0 e1 e2 e3
    subst e0 e1 e2 e3
    exact ⟨six, hi, lo, l, rfl, w1, w2, w3⟩
end
end Go.Proofs.Ytgajepmnklbmpaa
