/-
  The contract of the document's AddrBit.
-/
import Derived.Test.YtnmocjlleejijaaBitsOf
namespace Go.Proofs.Ytnmocjlleejijaa
open Go.RowKit
set_option linter.unusedVariables false
set_option linter.unusedSimpArgs false

set_option maxHeartbeats 400000 in
theorem refBit_no (hi lo i : Int) (h0 : 0 ≤ hi) (l0 : 0 ≤ lo) (hm : mayB false hi lo = false) (w : World) :
    Calls Try.prog 12 #[.agg #[.bool false, .int .u64 hi, .int .u64 lo], .int .i64 i] w fun e w' => e = .returned (.tuple #[.int .i64 0, .int .i64 4]) ∧ Below w.heap.size w w' := by
  by_cases hz : hi = 0
  · subst hz
    have hl : ¬ lo ≤ 4294967295 := by simp [mayB] at hm; omega
    clear hm
    go_enter Try.func12, Try.ntmps12
    go_wp2
    go_ret2
    exact ⟨rfl, by go_grown⟩
  · have hz' : (hi == 0) = false := by simpa using hz
    clear hm
    go_enter Try.func12, Try.ntmps12
    go_wp2
    go_ret2
    exact ⟨rfl, by go_grown⟩

theorem bits_six_cell {w1 : World} {base g cap : Nat} {hi lo : Int} (h : w1.ownsRow base 3 1 (.slice (some ⟨g, 0, none⟩) 128 cap) 128 ((bitsL true hi lo).map (Value.int .i64))) (j : Nat) (hj : j < 128) :
    w1.cell? ⟨g, j, none⟩ = some (.int .i64 (bitAt true hi lo j)) := by
  rw [h.cellAt j (by omega), List.getElem?_map, bitsL_get true hi lo j (by simpa using hj)]; rfl
theorem bits_four_cell {w1 : World} {base g cap : Nat} {hi lo : Int} (h : w1.ownsRow base 3 1 (.slice (some ⟨g, 0, none⟩) 32 cap) 32 ((bitsL false hi lo).map (Value.int .i64))) (j : Nat) (hj : j < 32) :
    w1.cell? ⟨g, j, none⟩ = some (.int .i64 (bitAt false hi lo j)) := by
  rw [h.cellAt j (by omega), List.getElem?_map, bitsL_get false hi lo j (by simpa using hj)]; rfl

set_option maxHeartbeats 400000 in
theorem refBit_six (hi lo i : Int) (h0 : 0 ≤ hi) (h1 : hi ≤ 18446744073709551615) (l0 : 0 ≤ lo) (l1 : lo ≤ 18446744073709551615) (i0 : 0 ≤ i) (i1 : i < 128) (w : World) :
    Calls Try.prog 12 #[.agg #[.bool true, .int .u64 hi, .int .u64 lo], .int .i64 i] w fun e w' => e = .returned (.tuple #[.int .i64 (bitAt true hi lo i.toNat), .int .i64 0]) ∧ Below w.heap.size w w' := by
  go_enter Try.func12, Try.ntmps12
  go_wp2_with (first
    | (go_at_call 20; refine (bitsOf_six' hi lo h0 h1 l0 l1 _).mono ?_; rintro e w1 ⟨g, cap, rfl, hown, hb⟩; have hc := bits_six_cell hown i.toNat (by omega); clear hown)
    | go_in)
  go_ret2
  exact ⟨rfl, (((Below.refl _ _).alloc (Nat.le_refl _) _).alloc (by simp) _).trans (hb.mono (by simp; omega))⟩

set_option maxHeartbeats 400000 in
theorem refBit_six_out (hi lo i : Int) (h0 : 0 ≤ hi) (h1 : hi ≤ 18446744073709551615) (l0 : 0 ≤ lo) (l1 : lo ≤ 18446744073709551615) (hr : i < 0 ∨ 128 ≤ i) (w : World) :
    Calls Try.prog 12 #[.agg #[.bool true, .int .u64 hi, .int .u64 lo], .int .i64 i] w fun e w' => e = .returned (.tuple #[.int .i64 0, .int .i64 2]) ∧ Below w.heap.size w w' := by
  rcases hr with hr | hr
  · go_enter Try.func12, Try.ntmps12
    go_wp2_with (first
      | (go_at_call 20; refine (bitsOf_six' hi lo h0 h1 l0 l1 _).mono ?_; rintro e w1 ⟨g, cap, rfl, hown, hb⟩; clear hown)
      | go_in)
    go_ret2
    exact ⟨rfl, (((Below.refl _ _).alloc (Nat.le_refl _) _).alloc (by simp) _).trans (hb.mono (by simp; omega))⟩
  · have hr' : ¬ i < 0 := by omega
    go_enter Try.func12, Try.ntmps12
    go_wp2_with (first
      | (go_at_call 20; refine (bitsOf_six' hi lo h0 h1 l0 l1 _).mono ?_; rintro e w1 ⟨g, cap, rfl, hown, hb⟩; clear hown)
      | go_in)
    go_ret2
    exact ⟨rfl, (((Below.refl _ _).alloc (Nat.le_refl _) _).alloc (by simp) _).trans (hb.mono (by simp; omega))⟩

set_option maxHeartbeats 400000 in
theorem refBit_four (lo i : Int) (l0 : 0 ≤ lo) (l1 : lo ≤ 4294967295) (i0 : 0 ≤ i) (i1 : i < 32) (w : World) :
    Calls Try.prog 12 #[.agg #[.bool false, .int .u64 0, .int .u64 lo], .int .i64 i] w fun e w' => e = .returned (.tuple #[.int .i64 (bitAt false 0 lo i.toNat), .int .i64 0]) ∧ Below w.heap.size w w' := by
  go_enter Try.func12, Try.ntmps12
  go_wp2_with (first
    | (go_at_call 20; refine (bitsOf_four' 0 lo l0 (by omega) _).mono ?_; rintro e w1 ⟨g, cap, rfl, hown, hb⟩; have hc := bits_four_cell hown i.toNat (by omega); clear hown)
    | go_in)
  go_ret2
  exact ⟨rfl, (((Below.refl _ _).alloc (Nat.le_refl _) _).alloc (by simp) _).trans (hb.mono (by simp; omega))⟩

set_option maxHeartbeats 400000 in
theorem refBit_four_out (lo i : Int) (l0 : 0 ≤ lo) (l1 : lo ≤ 4294967295) (hr : i < 0 ∨ 32 ≤ i) (w : World) :
    Calls Try.prog 12 #[.agg #[.bool false, .int .u64 0, .int .u64 lo], .int .i64 i] w fun e w' => e = .returned (.tuple #[.int .i64 0, .int .i64 2]) ∧ Below w.heap.size w w' := by
  rcases hr with hr | hr
  · go_enter Try.func12, Try.ntmps12
    go_wp2_with (first
      | (go_at_call 20; refine (bitsOf_four' 0 lo l0 (by omega) _).mono ?_; rintro e w1 ⟨g, cap, rfl, hown, hb⟩; clear hown)
      | go_in)
    go_ret2
    exact ⟨rfl, (((Below.refl _ _).alloc (Nat.le_refl _) _).alloc (by simp) _).trans (hb.mono (by simp; omega))⟩
  · have hr' : ¬ i < 0 := by omega
    go_enter Try.func12, Try.ntmps12
    go_wp2_with (first
      | (go_at_call 20; refine (bitsOf_four' 0 lo l0 (by omega) _).mono ?_; rintro e w1 ⟨g, cap, rfl, hown, hb⟩; clear hown)
      | go_in)
    go_ret2
    exact ⟨rfl, (((Below.refl _ _).alloc (Nat.le_refl _) _).alloc (by simp) _).trans (hb.mono (by simp; omega))⟩

theorem refBit_calls (six : Bool) (hi lo i : Int) (h0 : 0 ≤ hi) (h1 : hi ≤ 18446744073709551615) (l0 : 0 ≤ lo) (l1 : lo ≤ 18446744073709551615) (w : World) :
    Calls Try.prog 12 #[.agg #[.bool six, .int .u64 hi, .int .u64 lo], .int .i64 i] w fun e w' => e = .returned (.tuple #[.int .i64 (bitV six hi lo i), .int .i64 (bitE six hi lo i)]) ∧ Below w.heap.size w w' := by
  cases six
  · by_cases hm : mayB false hi lo = true
    · have hm' := hm
      simp [mayB] at hm'
      obtain ⟨rfl, hl⟩ := hm'
      by_cases hr : 0 ≤ i ∧ i < 32
      · have e1 : bitV false 0 lo i = bitAt false 0 lo i.toNat := by unfold bitV; rw [if_pos ⟨hm, hr⟩]
        have e2 : bitE false 0 lo i = 0 := by unfold bitE; rw [if_pos hm]; exact if_pos hr
        rw [e1, e2]; exact refBit_four lo i l0 (by omega) hr.1 hr.2 w
      · have e1 : bitV false 0 lo i = 0 := by unfold bitV; rw [if_neg (fun h => hr h.2)]
        have e2 : bitE false 0 lo i = 2 := by unfold bitE; rw [if_pos hm]; exact if_neg hr
        rw [e1, e2]; exact refBit_four_out lo i l0 (by omega) (by omega) w
    · have e1 : bitV false hi lo i = 0 := by unfold bitV; rw [if_neg (fun h => hm h.1)]
      have e2 : bitE false hi lo i = 4 := by unfold bitE; rw [if_neg hm]
      rw [e1, e2]; exact refBit_no hi lo i h0 l0 (by simpa using hm) w
  · have hm : mayB true hi lo = true := by simp [mayB]
    by_cases hr : 0 ≤ i ∧ i < 128
    · have e1 : bitV true hi lo i = bitAt true hi lo i.toNat := by unfold bitV; rw [if_pos ⟨hm, hr⟩]
      have e2 : bitE true hi lo i = 0 := by unfold bitE; rw [if_pos hm]; exact if_pos hr
      rw [e1, e2]
      exact refBit_six hi lo i h0 h1 l0 l1 hr.1 hr.2 w
    · have e1 : bitV true hi lo i = 0 := by unfold bitV; rw [if_neg (fun h => hr h.2)]
      have e2 : bitE true hi lo i = 2 := by unfold bitE; rw [if_pos hm]; exact if_neg hr
      rw [e1, e2]; exact refBit_six_out hi lo i h0 h1 l0 l1 (by omega) w
end Go.Proofs.Ytnmocjlleejijaa
