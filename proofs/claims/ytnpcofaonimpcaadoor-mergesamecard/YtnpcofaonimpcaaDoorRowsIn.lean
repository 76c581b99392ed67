/-
  Arguments that are slices: how they lie when they come in; the row's last step where every argument is read again as it was.
-/
import Derived.Test.YtnpcofaonimpcaaDoorG1
import Derived.Test.YtnpcofaonimpcaaDoorLaidF
import Derived.Deep.Slices
import Derived.Carry
namespace Go.Proofs.YtnpcofaonimpcaaDoor
open Go.ChangeShapes Go.WideShapes Go.ChangeAt Go.RowKit Go.Joins Go.Deep
set_option linter.unusedSimpArgs false
set_option linter.unusedVariables false

theorem laidOut : laidOutB Tryd.prog = true := by kernel_rfl
section
variable {H : Type} {enc : TypeId × Value → H} {P : Program}
theorem postBelowAt {f : Func} {s : ChangeSpec} {apart fresh handsOn : Bool} {W W' : World} {args : Array Value} {v : Value} {ds gs : List (DataW H)} {before pa pv : List MemPlace}
    (hW : DataW.Whole enc P f.params.toList s.vars apart W args.toList ds gs before) (hb : Below W.heap.size W W')
    (hres : ∀ (b : Nat) (sp : Nat → Bool) (hd : Bool), DataW.TrodAll enc P W' b sp hd f.resultTypes.toList (v.resultList f.resultTypes.size) (s.fn H (ds ++ gs)).results [])
    (hargs : DataW.TrodAll enc P W' 0 (fun b => decide (b < W.heap.size)) true f.params.toList args.toList (s.fn H (ds ++ gs)).args pa)
    (hvars : ∀ sp : Nat → Bool, (∀ p ∈ before, sp p.block = true) → DataW.TrodVars enc P W' sp s.vars (s.fn H (ds ++ gs)).vars pv)
    (hps : before = pa ++ pv) : s.post enc P f apart fresh handsOn false W args v W' := by
  have seen : ∀ p ∈ before, (fun b => decide (b < W.heap.size)) p.block = true := fun p hp => decide_eq_true (hW.lt p hp)
  exact ⟨ds, gs, before, [], pa, pv, hW, hres _ _ _, hargs, hvars _ seen, World.keptBut_mono (fun p hp => ⟨hp, Or.inr (List.mem_append.1 (hps ▸ hp))⟩) (hb.frame (· ∈ before)), fun h => by cases h⟩
end
section
variable {H : Type} {enc : TypeId × Value → H} {w : World} {base : Nat} {spare : Nat → Bool} {held : Bool}
theorem addr_add' (g o j : Nat) : (⟨g, o, none⟩ : Addr).add j = ⟨g, o + j, none⟩ := by
  unfold Addr.add
  split
  · rename_i h; subst h; rfl
  · rfl
/-- A slice of prefixes that came in. -/
theorem openPres {r : Reach} {b0 : Nat} {v : Value} {d : DataW H} {p : List MemPlace} (hv : Value.okWide Tryd.prog w r b0 32 v) (h : DataW.Trod enc Tryd.prog w base spare held 32 v d p) :
    ∃ l : List PT, RowP w v l ∧ Words l ∧ l.length ≤ 9223372036854775807 := by
  obtain ⟨q, len, cap, rfl⟩ := okWide_slice Tryd.underlying32 hv
  obtain ⟨fuel, hf⟩ := h
  have hf : DataW.trod enc Tryd.prog w base spare held fuel 32 [.slice q len cap] = some (d, p) := hf
  rcases open_slice Tryd.underlying32 hf with ⟨h0, _⟩ | ⟨a, ln, cp, m, n, D, Pl, hcs, _, hl, hm, hmm, _, hi⟩
  · simp only [List.cons.injEq, and_true] at h0
    rw [h0]
    exact ⟨[], .inl ⟨rfl, none, 0, rfl⟩, fun p hp => (by cases hp), by simp⟩
  · simp only [List.cons.injEq, Value.slice.injEq, and_true] at hcs
    obtain ⟨rfl, rfl, rfl⟩ := hcs
    have hlm : len ≤ m := by rw [hmm]; split <;> omega
    have hmax : len ≤ 9223372036854775807 := Nat.le_trans hl hm
    rw [cellsPrefix] at hi
    have each : ∀ i, i < len → ∃ pt : PT, pt.2.1 < 2 ^ 128 ∧ w.cell? (a.add (i * 4)) = some (.bool pt.1) ∧ w.cell? ((a.add (i * 4)).add 1) = some (.int .u64 (aH pt.2.1)) ∧ w.cell? ((a.add (i * 4)).add 2) = some (.int .u64 (aL pt.2.1)) ∧ w.cell? ((a.add (i * 4)).add 3) = some (.int .i64 pt.2.2) := by
      intro i hil
      obtain ⟨cs', hc, ht⟩ := hi i (by omega)
      obtain ⟨_, hcl, hat⟩ := World.cells?_some hc
      obtain ⟨s, hi', lo, k, rfl, _, w1, w2, w3⟩ := trodPrefix hcl ht
      obtain ⟨x, hx, e1, e2⟩ := asNum hi' lo (u64_of_wf w1).1 (u64_of_wf w1).2 (u64_of_wf w2).1 (u64_of_wf w2).2
      refine ⟨(s, x, k), hx, ?_, ?_, ?_, ?_⟩
      · have := hat 0 (by omega); simpa [Addr.add] using this
      · have := hat 1 (by omega); simpa [← e1] using this
      · have := hat 2 (by omega); simpa [← e2] using this
      · have := hat 3 (by omega); simpa using this
    by_cases h0 : len = 0
    · subst h0
      exact ⟨[], .inl ⟨rfl, _, _, rfl⟩, fun p hp => (by cases hp), by simp⟩
    · obtain ⟨g, o, sp⟩ := a
      have hsp : sp = none := by
        obtain ⟨pt, _, hc, _⟩ := each 0 (by omega)
        cases sp with
        | none => rfl
        | some z =>
          exfalso
          simp only [Nat.zero_mul, Addr.add, if_true] at hc
          unfold World.cell? at hc
          split at hc <;> simp at hc
      subst hsp
      have hg : g < w.heap.size := by
        obtain ⟨pt, _, hc, _⟩ := each 0 (by omega)
        rcases Nat.lt_or_ge g w.heap.size with hlt | hge
        · exact hlt
        · exfalso
          rw [addr_add'] at hc
          unfold World.cell? at hc
          simp [Array.getElem?_eq_none hge] at hc
      have ch : ∀ i : Fin len, ∃ pt : PT, pt.2.1 < 2 ^ 128 ∧ PCell w g (o + i.1 * 4) pt := fun i => by
        obtain ⟨pt, hx, c0, c1, c2, c3⟩ := each i.1 i.2
        rw [addr_add'] at c0 c1 c2 c3
        rw [addr_add'] at c1 c2 c3
        exact ⟨pt, hx, c0, c1, c2, c3⟩
      refine ⟨List.ofFn fun i => Classical.choose (ch i), .inr ⟨g, o, cap, by rw [List.length_ofFn], hg, fun k hk => ?_⟩, fun pt hp => ?_, by rw [List.length_ofFn]; exact hmax⟩
      · rw [List.getElem_ofFn]
        exact (Classical.choose_spec (ch ⟨k, by simpa using hk⟩)).2
      · obtain ⟨i, rfl⟩ := List.mem_ofFn.1 hp
        exact (Classical.choose_spec (ch i)).1
end
end Go.Proofs.YtnpcofaonimpcaaDoor
