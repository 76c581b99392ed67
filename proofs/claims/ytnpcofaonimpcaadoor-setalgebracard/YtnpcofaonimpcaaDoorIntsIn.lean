/-
  A slice of ints that came in.
-/
import Derived.Test.YtnpcofaonimpcaaDoorKeepC
import Derived.Test.YtnpcofaonimpcaaDoorRowsIn
namespace Go.Proofs.YtnpcofaonimpcaaDoor
open Go.ChangeShapes Go.WideShapes Go.ChangeAt Go.RowKit Go.Joins Go.Deep
set_option linter.unusedSimpArgs false
set_option linter.unusedVariables false
theorem cellsIntOne : Tryd.prog.cellsOf 3 = 1 := by kernel_rfl
section
variable {H : Type} {enc : TypeId × Value → H} {w : World} {base : Nat} {spare : Nat → Bool} {held : Bool}
theorem openInts {r : Reach} {b0 : Nat} {v : Value} {d : DataW H} {p : List MemPlace} (hv : Value.okWide Tryd.prog w r b0 42 v) (h : DataW.Trod enc Tryd.prog w base spare held 42 v d p) :
    ∃ l : List Int, RowI w v l ∧ IntsOK l ∧ l.length ≤ 9223372036854775807 := by
  obtain ⟨q, len, cap, rfl⟩ := okWide_slice Tryd.underlying42 hv
  obtain ⟨fuel, hf⟩ := h
  have hf : DataW.trod enc Tryd.prog w base spare held fuel 42 [.slice q len cap] = some (d, p) := hf
  rcases open_slice Tryd.underlying42 hf with ⟨h0, _⟩ | ⟨a, ln, cp, m, n, D, Pl, hcs, _, hl, hm, hmm, _, hi⟩
  · simp only [List.cons.injEq, and_true] at h0
    rw [h0]
    exact ⟨[], ⟨none, 0, rfl, fun k hk => (by simp at hk)⟩, fun p hp => (by cases hp), by simp⟩
  · simp only [List.cons.injEq, Value.slice.injEq, and_true] at hcs
    obtain ⟨rfl, rfl, rfl⟩ := hcs
    have hlm : len ≤ m := by rw [hmm]; split <;> omega
    have hmax : len ≤ 9223372036854775807 := Nat.le_trans hl hm
    rw [cellsIntOne] at hi
    have each : ∀ i, i < len → ∃ z : Int, (-9223372036854775808 ≤ z ∧ z ≤ 9223372036854775807) ∧ w.cell? (a.add (i * 1)) = some (.int .i64 z) := by
      intro i hil
      obtain ⟨cs', hc, ht⟩ := hi i (by omega)
      obtain ⟨_, hcl, hat⟩ := World.cells?_some hc
      match cs', hcl with
      | [c0], _ =>
        obtain ⟨z, e0, _, wz⟩ := DataW.trod_int Tryd.underlying3 ht
        simp at e0
        subst e0
        refine ⟨z, i64_of_wf wz, ?_⟩
        have := hat 0 (by omega)
        simpa [Addr.add] using this
    by_cases h0 : len = 0
    · subst h0
      exact ⟨[], ⟨_, _, rfl, fun k hk => (by simp at hk)⟩, fun p hp => (by cases hp), by simp⟩
    · obtain ⟨g, o, sp⟩ := a
      have hsp : sp = none := by
        obtain ⟨z, _, hc⟩ := each 0 (by omega)
        cases sp with
        | none => rfl
        | some z =>
          exfalso
          simp only [Nat.zero_mul, Addr.add, if_true] at hc
          unfold World.cell? at hc
          split at hc <;> simp at hc
      subst hsp
      have hg : g < w.heap.size := by
        obtain ⟨z, _, hc⟩ := each 0 (by omega)
        rcases Nat.lt_or_ge g w.heap.size with hlt | hge
        · exact hlt
        · exfalso
          rw [addr_add'] at hc
          unfold World.cell? at hc
          simp [Array.getElem?_eq_none hge] at hc
      have ch : ∀ i : Fin len, ∃ z : Int, (-9223372036854775808 ≤ z ∧ z ≤ 9223372036854775807) ∧ w.cell? ⟨g, o + i.1, none⟩ = some (.int .i64 z) := fun i => by
        obtain ⟨z, hz, c0⟩ := each i.1 i.2
        rw [addr_add', Nat.mul_one] at c0
        exact ⟨z, hz, c0⟩
      refine ⟨List.ofFn fun i => Classical.choose (ch i), ⟨some ⟨g, o, none⟩, cap, by rw [List.length_ofFn], fun k hk => ⟨g, o, rfl, hg, ?_⟩⟩, fun z hp => ?_, by rw [List.length_ofFn]; exact hmax⟩
      · rw [List.getElem_ofFn]
        exact (Classical.choose_spec (ch ⟨k, by simpa using hk⟩)).2
      · obtain ⟨i, rfl⟩ := List.mem_ofFn.1 hp
        exact (Classical.choose_spec (ch i)).1
end
end Go.Proofs.YtnpcofaonimpcaaDoor
