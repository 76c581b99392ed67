/-
  The contract of the document's addrOf.
-/
import Derived.Test.YtnpaijmibkbhfaaBitsOf
namespace Go.Proofs.Ytnpaijmibkbhfaa
open Go.RowKit
set_option linter.unusedVariables false
set_option linter.unusedSimpArgs false

theorem two_alloc {w : World} {g k : Nat} {u : Value} (hg : g < w.heap.size) (h : w.cell? ⟨g, k, none⟩ = some u) (o1 o2 : Obj) : ((w.alloc o1).alloc o2).cell? ⟨g, k, none⟩ = some u := by
  rw [World.cell?_alloc_lt _ _ _ (by simp; omega), World.cell?_alloc_lt _ _ _ hg]; exact h

set_option maxHeartbeats 1000000 in
set_option maxRecDepth 100000 in
theorem addrOf_six (l : List Int) (hl : l.length = 128) (h01 : ∀ b ∈ l, b = 0 ∨ b = 1) (g cap : Nat) (w : World) (hg : g < w.heap.size) (hc : ∀ j u, l[j]? = some u → w.cell? ⟨g, j, none⟩ = some (.int .i64 u)) :
    Calls Try.prog 114 #[.slice (some ⟨g, 0, none⟩) 128 cap] w fun e w' => e = .returned (.agg #[.bool true, .int .u64 (spell (l.take 64)), .int .u64 (spell (l.drop 64))]) ∧ Below w.heap.size w w' := by
  have HL := Lib.hid hl; have H01 := Lib.hid h01; have HC := Lib.hid hc
  clear hl h01 hc
  go_enter Try.func114, Try.ntmps114
  go_wp2
  go_loopw [12] (fun i wr => ∃ k : Nat, k ≤ 128 ∧ i = .int .i64 k ∧ wr = (w.alloc (.cells #[.bool false, .int .u64 0, .int .u64 0] 24)).alloc (.cells #[.bool true, .int .u64 (hiTo l k), .int .u64 (loTo l k)] 24))
    (fun i _ => 128 - (intOf i).toNat)
  case atStart => exact ⟨0, by omega, rfl, by simp [hiTo, loTo, spell_nil]⟩
  case round =>
    obtain ⟨k, hk, rfl, rfl⟩ := hrel
    by_cases hlt : k < 128
    · have hkl : k < l.length := by rw [HL.out]; exact hlt
      obtain ⟨b, hb⟩ : ∃ b, b = l[k] := ⟨_, rfl⟩
      have HB := Lib.hid hb
      have hcell := two_alloc hg (HC.out k b (by rw [hb]; exact List.getElem?_eq_getElem hkl))
      have hb01 : b = 0 ∨ b = 1 := H01.out b (by rw [hb]; exact List.getElem_mem hkl)
      have hb0 : 0 ≤ b := by omega
      have hb1 : b ≤ 1 := by omega
      clear hb01 hb
      by_cases h64 : k < 64
      · have bd := hiTo_bd l k h64 H01.out
        have S1 := Lib.hid (hiTo_lt l k h64 hkl)
        have S2 := Lib.hid (loTo_lt l k h64)
        obtain ⟨bd0, bd1⟩ := bd
        go_wp2
        go_roundw
        case rel => exact ⟨k + 1, by omega, by go_num, by rw [S1.out, S2.out, HB.out]⟩
        case measure => simp [intOf]; omega
      · have bd := loTo_bd l k hlt H01.out
        have S1 := Lib.hid (hiTo_ge l k (by omega))
        have S2 := Lib.hid (loTo_ge l k (by omega) hkl)
        obtain ⟨bd0, bd1⟩ := bd
        go_wp2
        go_roundw
        case rel => exact ⟨k + 1, by omega, by go_num, by rw [S1.out, S2.out, HB.out]⟩
        case measure => simp [intOf]; omega
    · obtain rfl : k = 128 := by omega
      have e1 : hiTo l 128 = spell (l.take 64) := by simp [hiTo]
      have e2 : loTo l 128 = spell (l.drop 64) := by unfold loTo; rw [List.take_of_length_le (by rw [HL.out]; omega)]
      rw [e1, e2]
      clear e1 e2
      go_wp2
      go_returns
      exact ⟨rfl, by go_grown⟩

set_option maxHeartbeats 1000000 in
set_option maxRecDepth 100000 in
theorem addrOf_four (l : List Int) (hl : l.length = 32) (h01 : ∀ b ∈ l, b = 0 ∨ b = 1) (g cap : Nat) (w : World) (hg : g < w.heap.size) (hc : ∀ j u, l[j]? = some u → w.cell? ⟨g, j, none⟩ = some (.int .i64 u)) :
    Calls Try.prog 114 #[.slice (some ⟨g, 0, none⟩) 32 cap] w fun e w' => e = .returned (.agg #[.bool false, .int .u64 0, .int .u64 (spell l)]) ∧ Below w.heap.size w w' := by
  have HL := Lib.hid hl; have H01 := Lib.hid h01; have HC := Lib.hid hc
  clear hl h01 hc
  go_enter Try.func114, Try.ntmps114
  go_wp2
  go_loopw [12] (fun i wr => ∃ k : Nat, k ≤ 32 ∧ i = .int .i64 k ∧ wr = (w.alloc (.cells #[.bool false, .int .u64 0, .int .u64 0] 24)).alloc (.cells #[.bool false, .int .u64 0, .int .u64 (fourTo l k)] 24))
    (fun i _ => 32 - (intOf i).toNat)
  case atStart => exact ⟨0, by omega, rfl, by simp [fourTo, spell_nil]⟩
  case round =>
    obtain ⟨k, hk, rfl, rfl⟩ := hrel
    by_cases hlt : k < 32
    · have hkl : k < l.length := by rw [HL.out]; exact hlt
      obtain ⟨b, hb⟩ : ∃ b, b = l[k] := ⟨_, rfl⟩
      have HB := Lib.hid hb
      have hcell := two_alloc hg (HC.out k b (by rw [hb]; exact List.getElem?_eq_getElem hkl))
      have hb01 : b = 0 ∨ b = 1 := H01.out b (by rw [hb]; exact List.getElem_mem hkl)
      have hb0 : 0 ≤ b := by omega
      have hb1 : b ≤ 1 := by omega
      clear hb01 hb
      have bd := fourTo_bd l k (by omega) H01.out
      have S1 := Lib.hid (fourTo_succ l k hkl)
      obtain ⟨bd0, bd1⟩ := bd
      go_wp2
      go_roundw
      case rel => exact ⟨k + 1, by omega, by go_num, by rw [S1.out, HB.out]⟩
      case measure => simp [intOf]; omega
    · obtain rfl : k = 32 := by omega
      have e1 : fourTo l 32 = spell l := by unfold fourTo; rw [List.take_of_length_le (by rw [HL.out]; omega)]
      rw [e1]
      clear e1
      go_wp2
      go_returns
      exact ⟨rfl, by go_grown⟩

end Go.Proofs.Ytnpaijmibkbhfaa
