/-
  strconv.FormatUint of a number below 256 to the base 10.
-/
import Derived.Test.YtojdlhiibffnfabDoorShelf
import Derived.Test.YtojdlhiibffnfabDoorHex
import Derived.Lib.ItoaMem
namespace Go.Proofs.YtojdlhiibffnfabDoor
open Go.RowKit Go.Sort
set_option linter.unusedVariables false
set_option linter.unusedSimpArgs false

theorem dec_small : ∀ u : Fin 256, Lib.decDigits u.val = numText 10 3 u.val := by decide +kernel
theorem nd_three : ∀ u : Fin 256, 100 ≤ u.val → Lib.nDigits u.val = 3 := by decide +kernel

theorem grow_below (w : World) (os : Array Obj) (n : Nat) : Below w.heap.size w (grow (w.drewN n) os) := by
  refine ⟨rfl, rfl, rfl, by simp [grow], fun k hk => ?_⟩
  show (w.heap ++ os)[k]? = _
  rw [Array.getElem?_append_left hk]

set_option maxHeartbeats 1000000 in
set_option maxRecDepth 100000 in
theorem format10_big (u : Nat) (h0 : 100 ≤ u) (h1 : u < 256) (w : World) (htab : Lib.TabIs Tryd.prog w "internal/strconv.uint64pow10" .u64 Lib.pow10Tab) :
    Calls Tryd.prog 39 #[.int .u64 (u : Int), .int .i64 10] w fun e w' => e = .returned (.string ⟨(numText 10 3 u).toArray⟩) ∧ Below w.heap.size w w' := by
  have hnd := nd_three ⟨u, h1⟩ h0
  have hdd := dec_small ⟨u, h1⟩
  simp only at hnd hdd
  have HND := Lib.hid hnd; have HDD := Lib.hid hdd; have HT := Lib.hid htab
  clear hnd hdd htab
  go_enter Tryd.func39, Tryd.ntmps39
  go_wp2_with (first
    | (go_at_call 69; refine (Tryd.internal_strconv_numDigits u (by omega) (by omega) _ (Lib.tabIs_alloc HT.out _)).mono ?_; rw [HND.out]; rintro e w1 ⟨rfl, rfl⟩)
    | (go_at_call 70; fail)
    | (go_at_call 51; go_in))
  have hH0 : Holds (fun (b : UInt8) => Value.int .u8 (b.toNat : Int)) (w.alloc (.cells Lib.zeros24 98)) w.heap.size 0 (Array.replicate 3 (0 : UInt8)) := fun j hj => by
    have hj' : j < 3 := by simpa using hj
    refine ⟨?_, World.frozen?_alloc_new _ _ _ _⟩
    rw [World.cell?_alloc_new, Nat.zero_add, Lib.zeros24_at _ (by omega), getElem!_pos _ j hj]
    simp
  have hfmt := Tryd.internal_strconv_formatBase10 w.heap.size 0 24 u (Array.replicate 3 0) (w.alloc (.cells Lib.zeros24 98)) hH0 (by rw [Array.size_replicate]; omega) (by omega) (by rw [Array.size_replicate]; omega)
  rw [Array.size_replicate] at hfmt
  have HH0 := Lib.hid hH0
  clear hH0
  refine hfmt.mono ?_
  rintro e w' ⟨rfl, n, v', dk, rfl, hF⟩
  have HF := Lib.hid hF
  clear hF hfmt
  have hcv : (convert 81 9 (.slice (some ⟨w.heap.size, 0, none⟩) 3 24)).run Tryd.prog ((putRow (fun (b : UInt8) => Value.int .u8 (b.toNat : Int)) (w.alloc (.cells Lib.zeros24 98)) w.heap.size 0 dk).drewN n) = .ok (.string ⟨(numText 10 3 u).toArray⟩) ((putRow (fun (b : UInt8) => Value.int .u8 (b.toNat : Int)) (w.alloc (.cells Lib.zeros24 98)) w.heap.size 0 dk).drewN n) := by
    have hl : (Lib.decDigits u).length = 3 := by rw [Lib.decDigits_length, HND.out]
    have hF := HF.out
    rw [← HND.out] at hF
    have h := run_convert_bytes_back (P := Tryd.prog) ((putRow (fun (b : UInt8) => Value.int .u8 (b.toNat : Int)) (w.alloc (.cells Lib.zeros24 98)) w.heap.size 0 dk).drewN n) 81 9 5 ⟨w.heap.size, 0, none⟩ 24 (Lib.decDigits u) Tryd.underlying81 Tryd.underlying5 Tryd.underlying9 (fun j hj => by
      rw [Lib.row_is_numeral hF j hj, Lib.add_plain, World.cell?_drewN]
      exact cell?_putRow (fun (b : UInt8) => Value.int .u8 (b.toNat : Int)) _ w.heap.size 0 _ dk HH0.out (by rw [hF.size, Array.size_replicate, HND.out]) j (by rw [hF.size, HND.out]; omega))
    rw [hl, HDD.out] at h
    exact h
  go_wp2
  go_ret
  rw [alloc_eq_grow]
  obtain ⟨os', _, e⟩ := putRow_grow_new (fun (b : UInt8) => Value.int .u8 (b.toNat : Int)) w #[.cells Lib.zeros24 98] w.heap.size 0 dk (Nat.le_refl _)
  rw [e]
  exact ⟨rfl, grow_below w os' n⟩

set_option maxHeartbeats 400000 in
/-- strconv.FormatUint to the base 10. -/
theorem format10 (u : Nat) (h1 : u < 256) (w : World) (htab : Lib.TabIs Tryd.prog w "internal/strconv.uint64pow10" .u64 Lib.pow10Tab) :
    Calls Tryd.prog 39 #[.int .u64 (u : Int), .int .i64 10] w fun e w' => e = .returned (.string ⟨(numText 10 3 u).toArray⟩) ∧ Below w.heap.size w w' := by
  by_cases h0 : u < 100
  · have hdd := dec_small ⟨u, h1⟩
    simp only at hdd
    have HDD := Lib.hid hdd
    clear hdd htab
    go_enter Tryd.func39, Tryd.ntmps39
    go_wp2_with (first
      | (go_at_call 68; refine (Tryd.internal_strconv_small u h0 _).mono ?_; rw [HDD.out]; rintro e w1 ⟨rfl, rfl⟩)
      | (go_at_call 51; go_in))
    go_ret
    exact ⟨rfl, Below.refl _ _⟩
  · exact format10_big u (by omega) h1 w htab
end Go.Proofs.YtojdlhiibffnfabDoor
