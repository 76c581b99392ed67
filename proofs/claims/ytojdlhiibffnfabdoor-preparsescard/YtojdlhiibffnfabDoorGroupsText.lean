/-
  The contract of addr.groupsText.
-/
import Derived.Test.YtojdlhiibffnfabDoorFourText
namespace Go.Proofs.YtojdlhiibffnfabDoor
open Go.RowKit Go.Sort
set_option linter.unusedVariables false
set_option linter.unusedSimpArgs false

def hexT (gs : List Nat) : List (List UInt8) := gs.map (numText 16 4)
theorem numText16_len (u : Nat) : (numText 16 4 u).length ≤ 4 := by
  simp only [numText]
  repeat' split
  all_goals simp

theorem mkStrs0 (W : World) : (Instr.makeSlice 70 (.int .i64 ((0 : Nat) : Int)) (.int .i64 ((0 : Nat) : Int))).run Tryd.prog W = .ok (.slice (some ⟨W.heap.size, 0, none⟩) 0 0) (W.alloc (.cells (Array.replicate 0 (.string ByteArray.empty)) 9)) := by kernel_rfl
theorem mkStrs1 (W : World) : (Instr.makeSlice 70 (.int .i64 ((1 : Nat) : Int)) (.int .i64 ((1 : Nat) : Int))).run Tryd.prog W = .ok (.slice (some ⟨W.heap.size, 0, none⟩) 1 1) (W.alloc (.cells (Array.replicate 1 (.string ByteArray.empty)) 9)) := by kernel_rfl
theorem mkStrs2 (W : World) : (Instr.makeSlice 70 (.int .i64 ((2 : Nat) : Int)) (.int .i64 ((2 : Nat) : Int))).run Tryd.prog W = .ok (.slice (some ⟨W.heap.size, 0, none⟩) 2 2) (W.alloc (.cells (Array.replicate 2 (.string ByteArray.empty)) 9)) := by kernel_rfl
theorem mkStrs3 (W : World) : (Instr.makeSlice 70 (.int .i64 ((3 : Nat) : Int)) (.int .i64 ((3 : Nat) : Int))).run Tryd.prog W = .ok (.slice (some ⟨W.heap.size, 0, none⟩) 3 3) (W.alloc (.cells (Array.replicate 3 (.string ByteArray.empty)) 9)) := by kernel_rfl
theorem mkStrs4 (W : World) : (Instr.makeSlice 70 (.int .i64 ((4 : Nat) : Int)) (.int .i64 ((4 : Nat) : Int))).run Tryd.prog W = .ok (.slice (some ⟨W.heap.size, 0, none⟩) 4 4) (W.alloc (.cells (Array.replicate 4 (.string ByteArray.empty)) 9)) := by kernel_rfl
theorem mkStrs5 (W : World) : (Instr.makeSlice 70 (.int .i64 ((5 : Nat) : Int)) (.int .i64 ((5 : Nat) : Int))).run Tryd.prog W = .ok (.slice (some ⟨W.heap.size, 0, none⟩) 5 5) (W.alloc (.cells (Array.replicate 5 (.string ByteArray.empty)) 9)) := by kernel_rfl
theorem mkStrs6 (W : World) : (Instr.makeSlice 70 (.int .i64 ((6 : Nat) : Int)) (.int .i64 ((6 : Nat) : Int))).run Tryd.prog W = .ok (.slice (some ⟨W.heap.size, 0, none⟩) 6 6) (W.alloc (.cells (Array.replicate 6 (.string ByteArray.empty)) 9)) := by kernel_rfl
theorem mkStrs7 (W : World) : (Instr.makeSlice 70 (.int .i64 ((7 : Nat) : Int)) (.int .i64 ((7 : Nat) : Int))).run Tryd.prog W = .ok (.slice (some ⟨W.heap.size, 0, none⟩) 7 7) (W.alloc (.cells (Array.replicate 7 (.string ByteArray.empty)) 9)) := by kernel_rfl
theorem mkStrs8 (W : World) : (Instr.makeSlice 70 (.int .i64 ((8 : Nat) : Int)) (.int .i64 ((8 : Nat) : Int))).run Tryd.prog W = .ok (.slice (some ⟨W.heap.size, 0, none⟩) 8 8) (W.alloc (.cells (Array.replicate 8 (.string ByteArray.empty)) 9)) := by kernel_rfl
theorem mkStrs (n : Nat) (h : n ≤ 8) (W : World) : (Instr.makeSlice 70 (.int .i64 ((n : Nat) : Int)) (.int .i64 ((n : Nat) : Int))).run Tryd.prog W = .ok (.slice (some ⟨W.heap.size, 0, none⟩) n n) (W.alloc (.cells (Array.replicate n (.string ByteArray.empty)) 9)) := by
  have hn : n = 0 ∨ n = 1 ∨ n = 2 ∨ n = 3 ∨ n = 4 ∨ n = 5 ∨ n = 6 ∨ n = 7 ∨ n = 8 := by omega
  rcases hn with rfl | rfl | rfl | rfl | rfl | rfl | rfl | rfl | rfl
  · exact mkStrs0 W
  · exact mkStrs1 W
  · exact mkStrs2 W
  · exact mkStrs3 W
  · exact mkStrs4 W
  · exact mkStrs5 W
  · exact mkStrs6 W
  · exact mkStrs7 W
  · exact mkStrs8 W

set_option maxHeartbeats 1000000 in
set_option maxRecDepth 100000 in
theorem groupsText_calls (gs : List Nat) (n : Nat) (hn : gs.length = n) (h8 : n ≤ 8) (hg : ∀ u ∈ gs, u < 65536) (g o cap : Nat) (w : World) (hgw : g < w.heap.size) (hc : ∀ (j u : Nat), gs[j]? = some u → w.cell? ⟨g, o + j, none⟩ = some (.int .u64 (u : Int))) (ht : Tabs w) :
    Calls Tryd.prog 38 #[.slice (some ⟨g, o, none⟩) n cap] w fun e w' => e = .returned (.string ⟨(Lib.join (hexT gs) [58]).toArray⟩) ∧ Below w.heap.size w w' := by
  have HT := Lib.hid ht; have HN := Lib.hid hn; have HG := Lib.hid hg; have HC := Lib.hid hc
  have hT : (hexT gs).length = n := by simp [hexT, hn]
  have HTN := Lib.hid hT
  clear ht hn hg hc hT
  have hmk := mkStrs n h8
  go_enter Tryd.func38, Tryd.ntmps38
  go_wp2
  clear hmk
  go_loopw [11] (fun i wr => ∃ k : Nat, k ≤ n ∧ i = .int .i64 k ∧ StrRow wr w.heap.size (mixTo (hexT gs) k) ∧ Below w.heap.size w wr)
    (fun i _ => n - (intOf i).toNat)
  case atStart =>
    refine ⟨0, by omega, rfl, ?_, by go_grown⟩
    rw [mixTo_zero n _ HTN.out]
    refine ⟨fun j x hx => ?_, fun o => by simp [go_sem], by simp⟩
    have hj : j < n := by have := (List.getElem?_eq_some_iff.1 hx).1; simpa using this
    rw [List.getElem?_replicate, if_pos hj] at hx
    obtain rfl := Option.some.inj hx
    rw [Nat.zero_add, World.cell?_alloc_new]
    simp [hj]
  case round =>
    obtain ⟨k, hk, rfl, hrow, hb⟩ := hrel
    have HR := Lib.hid hrow
    have hz := hrow.2.2
    have hs := hb.size
    clear hrow
    by_cases hlt : k < n
    · have hkg : k < gs.length := by rw [HN.out]; exact hlt
      have hkl : k < (hexT gs).length := by rw [HTN.out]; exact hlt
      obtain ⟨p, hp⟩ : ∃ p, gs[k] = p := ⟨_, rfl⟩
      have hst : (hexT gs)[k] = numText 16 4 p := by simp [hexT, hp]
      have hq : p < 65536 := by rw [← hp]; exact HG.out _ (List.getElem_mem hkg)
      have hcell0 : wr.cell? ⟨g, o + k, none⟩ = some (.int .u64 (p : Int)) := (hb.cell (p := ⟨g, o + k, none⟩) hgw).trans (HC.out k p (by rw [List.getElem?_eq_getElem hkg, hp]))
      have HST := Lib.hid hst
      clear hst hp
      go_wp2_with fail
      refine (format16 p hq _ (HT.out.keep hb).at15 (HT.out.keep hb).2.2.1).mono ?_
      rintro e w2 ⟨rfl, hb2⟩
      have R2 := HR.out.keep hb2
      have b2 := thenBelow hb hb2
      have hs2 := b2.size
      have hset := R2.set (k := k) (by rw [mixTo_length _ _ (by omega)]; exact hkl) ⟨(numText 16 4 p).toArray⟩
      rw [← HST.out, mixTo_succ _ _ hkl, HST.out] at hset
      have HS := Lib.hid hset
      obtain ⟨y, hcell⟩ := R2.ex (k := k) (by rw [mixTo_length _ _ (by omega)]; exact hkl)
      have hfr := R2.2.1 k
      have z2 := R2.2.2
      clear hset R2 hb hb2 hz hs hcell0
      go_wp2
      go_roundw
      case rel => exact ⟨k + 1, by omega, by go_num, HS.out, b2.setCell (by simp) _⟩
      case measure => simp [intOf]; omega
    · obtain rfl : k = n := by omega
      have hfull : (mixTo (hexT gs) k).map (·.data.toList) = hexT gs := by have := mixTo_full (hexT gs); rwa [HTN.out] at this
      have hl4 : (mixTo (hexT gs) k).length = k := by rw [mixTo_length _ _ (by rw [HTN.out]; omega), HTN.out]
      have c := Tryd.strings_Join w.heap.size 0 k (mixTo (hexT gs) k) ⟨#[58]⟩ wr HR.out.1 hz (by omega) (by omega) (by
        rw [hfull]
        have hj := join_len_le (hexT gs) [58] 4 (fun t ht => by
          simp only [hexT, List.mem_map] at ht
          obtain ⟨p, _, rfl⟩ := ht
          exact numText16_len p)
        rw [HTN.out] at hj
        simp at hj
        show (Lib.join (hexT gs) [58]).length ≤ _
        omega)
      rw [hl4, hfull] at c
      have C := Lib.hid c
      clear c hfull hl4
      go_wp2_with fail
      refine C.out.mono ?_
      rintro e w2 ⟨rfl, hb2⟩
      have b2 := thenBelow hb hb2
      go_wp2
      go_ret
      exact ⟨rfl, b2⟩
end Go.Proofs.YtojdlhiibffnfabDoor
