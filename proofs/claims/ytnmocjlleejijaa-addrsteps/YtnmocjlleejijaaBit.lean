/-
  Contracts of addr.Bit, addr.width.
-/
import Derived.Test.YtnmocjlleejijaaMay
import Derived.Outline
namespace Go.Proofs.Ytnmocjlleejijaa
open Go.RowKit
set_option linter.unusedVariables false
set_option linter.unusedSimpArgs false

/-- How many bits an address has. -/
def wideB (six : Bool) : Int := if six then 128 else 32
/-- The bit with the weight 2^k. -/
def bitW (x : Int) (k : Nat) : Int := x / 2 ^ k % 2
theorem bitW_01 (x : Int) (k : Nat) : bitW x k = 0 ∨ bitW x k = 1 := by unfold bitW; omega
/-- Bit i of an address, counted from the most significant one. -/
def bitAt (six : Bool) (hi lo : Int) (i : Nat) : Int := if six then (if i < 64 then bitW hi (63 - i) else bitW lo (127 - i)) else bitW lo (31 - i)

set_option maxHeartbeats 400000 in
theorem width_calls (six : Bool) (hi lo : Int) (w : World) :
    Calls Try.prog 19 #[.agg #[.bool six, .int .u64 hi, .int .u64 lo]] w fun e w' => e = .returned (.int .i64 (wideB six)) ∧ w.alloc (.cells #[.bool six, .int .u64 hi, .int .u64 lo] 24) = w' := by
  cases six
  · go_enter Try.func19, Try.ntmps19
    go_wp2
    go_ret
    exact ⟨rfl, rfl⟩
  · go_enter Try.func19, Try.ntmps19
    go_wp2
    go_ret
    exact ⟨rfl, rfl⟩

theorem shrAnd1 (x : Int) (k : Nat) (h0 : 0 ≤ x) (h1 : x ≤ 18446744073709551615) : wrap64 (bits .and .u64 (x / 2 ^ k) 1) = bitW x k := by
  have p0 : (0 : Int) < 2 ^ k := Int.pow_pos (by decide)
  have g0 : 0 ≤ x / 2 ^ k := Int.ediv_nonneg h0 (by omega)
  have g1 : x / 2 ^ k ≤ x := Int.ediv_le_self _ h0
  rw [and_one_u64 _ g0 (by omega)]
  have := bitW_01 x k
  unfold bitW at *
  unfold wrap64
  omega
theorem ret2 {a b c d : Int} {k l : IntKind} (h : a = b) (g : c = d) : Ending.returned (.tuple #[.int k a, .int l c]) = .returned (.tuple #[.int k b, .int l d]) := by rw [h, g]

/-- What Bit answers. -/
def bitV (six : Bool) (hi lo i : Int) : Int := if mayB six hi lo ∧ 0 ≤ i ∧ i < wideB six then bitAt six hi lo i.toNat else 0
def bitE (six : Bool) (hi lo i : Int) : Int := if mayB six hi lo then (if 0 ≤ i ∧ i < wideB six then 0 else 2) else 4

set_option maxHeartbeats 400000 in
theorem bit_no (hi lo i : Int) (h0 : 0 ≤ hi) (l0 : 0 ≤ lo) (hm : mayB false hi lo = false) (w : World) :
    Calls Try.prog 11 #[.agg #[.bool false, .int .u64 hi, .int .u64 lo], .int .i64 i] w fun e w' => e = .returned (.tuple #[.int .i64 0, .int .i64 4]) ∧ Below w.heap.size w w' := by
  by_cases hz : hi = 0
  · subst hz
    have hl : ¬ lo < 4294967296 := by simp [mayB] at hm; omega
    clear hm
    go_enter Try.func11, Try.ntmps11
    go_wp2
    go_ret2
    exact ⟨rfl, by go_grown⟩
  · have hz' : (hi == 0) = false := by simpa using hz
    clear hm
    go_enter Try.func11, Try.ntmps11
    go_wp2
    go_ret2
    exact ⟨rfl, by go_grown⟩

set_option maxHeartbeats 400000 in
theorem bit_six_out (hi lo i : Int) (hb : i < 0 ∨ 128 ≤ i) (w : World) :
    Calls Try.prog 11 #[.agg #[.bool true, .int .u64 hi, .int .u64 lo], .int .i64 i] w fun e w' => e = .returned (.tuple #[.int .i64 0, .int .i64 2]) ∧ Below w.heap.size w w' := by
  rcases hb with hb | hb
  · go_enter Try.func11, Try.ntmps11
    go_wp2
    go_ret2
    exact ⟨rfl, by go_grown⟩
  · have hb' : ¬ i < 0 := by omega
    go_enter Try.func11, Try.ntmps11
    go_wp2
    go_ret2
    exact ⟨rfl, by go_grown⟩

set_option maxHeartbeats 400000 in
theorem bit_four_out (lo i : Int) (l0 : 0 ≤ lo) (l1 : lo < 4294967296) (hb : i < 0 ∨ 32 ≤ i) (w : World) :
    Calls Try.prog 11 #[.agg #[.bool false, .int .u64 0, .int .u64 lo], .int .i64 i] w fun e w' => e = .returned (.tuple #[.int .i64 0, .int .i64 2]) ∧ Below w.heap.size w w' := by
  rcases hb with hb | hb
  · go_enter Try.func11, Try.ntmps11
    go_wp2
    go_ret2
    exact ⟨rfl, by go_grown⟩
  · have hb' : ¬ i < 0 := by omega
    go_enter Try.func11, Try.ntmps11
    go_wp2
    go_ret2
    exact ⟨rfl, by go_grown⟩

set_option maxHeartbeats 400000 in
theorem bit_six_hi (hi lo i : Int) (h0 : 0 ≤ hi) (h1 : hi ≤ 18446744073709551615) (l0 : 0 ≤ lo) (i0 : 0 ≤ i) (i1 : i < 64) (w : World) :
    Calls Try.prog 11 #[.agg #[.bool true, .int .u64 hi, .int .u64 lo], .int .i64 i] w fun e w' => e = .returned (.tuple #[.int .i64 (bitAt true hi lo i.toNat), .int .i64 0]) ∧ Below w.heap.size w w' := by
  go_enter Try.func11, Try.ntmps11
  go_wp2
  go_ret2
  exact ⟨ret2 (by rw [shrAnd1 _ _ h0 h1, bitAt, if_pos rfl, if_pos (by omega), show (127 - i - 64).toNat = 63 - i.toNat from by omega]) rfl, by go_grown⟩

set_option maxHeartbeats 400000 in
theorem bit_six_lo (hi lo i : Int) (h0 : 0 ≤ hi) (l0 : 0 ≤ lo) (l1 : lo ≤ 18446744073709551615) (i0 : 64 ≤ i) (i1 : i < 128) (w : World) :
    Calls Try.prog 11 #[.agg #[.bool true, .int .u64 hi, .int .u64 lo], .int .i64 i] w fun e w' => e = .returned (.tuple #[.int .i64 (bitAt true hi lo i.toNat), .int .i64 0]) ∧ Below w.heap.size w w' := by
  go_enter Try.func11, Try.ntmps11
  go_wp2
  go_ret2
  exact ⟨ret2 (by rw [shrAnd1 _ _ l0 l1, bitAt, if_pos rfl, if_neg (by omega), show (127 - i).toNat = 127 - i.toNat from by omega]) rfl, by go_grown⟩

set_option maxHeartbeats 400000 in
theorem bit_four (lo i : Int) (l0 : 0 ≤ lo) (l1 : lo < 4294967296) (i0 : 0 ≤ i) (i1 : i < 32) (w : World) :
    Calls Try.prog 11 #[.agg #[.bool false, .int .u64 0, .int .u64 lo], .int .i64 i] w fun e w' => e = .returned (.tuple #[.int .i64 (bitAt false 0 lo i.toNat), .int .i64 0]) ∧ Below w.heap.size w w' := by
  go_enter Try.func11, Try.ntmps11
  go_wp2
  go_ret2
  exact ⟨ret2 (by rw [shrAnd1 _ _ l0 (by omega), bitAt, if_neg (by decide), show (31 - i).toNat = 31 - i.toNat from by omega]) rfl, by go_grown⟩

theorem bit_calls (six : Bool) (hi lo i : Int) (h0 : 0 ≤ hi) (h1 : hi ≤ 18446744073709551615) (l0 : 0 ≤ lo) (l1 : lo ≤ 18446744073709551615) (w : World) :
    Calls Try.prog 11 #[.agg #[.bool six, .int .u64 hi, .int .u64 lo], .int .i64 i] w fun e w' => e = .returned (.tuple #[.int .i64 (bitV six hi lo i), .int .i64 (bitE six hi lo i)]) ∧ Below w.heap.size w w' := by
  cases six
  · by_cases hm : mayB false hi lo = true
    · have hm' := hm
      simp [mayB] at hm'
      obtain ⟨rfl, hl⟩ := hm'
      by_cases hr : 0 ≤ i ∧ i < 32
      · have e1 : bitV false 0 lo i = bitAt false 0 lo i.toNat := by unfold bitV; rw [if_pos ⟨hm, hr⟩]
        have e2 : bitE false 0 lo i = 0 := by unfold bitE; rw [if_pos hm]; exact if_pos hr
        rw [e1, e2]; exact bit_four lo i l0 hl hr.1 hr.2 w
      · have e1 : bitV false 0 lo i = 0 := by unfold bitV; rw [if_neg (fun h => hr h.2)]
        have e2 : bitE false 0 lo i = 2 := by unfold bitE; rw [if_pos hm]; exact if_neg hr
        rw [e1, e2]; exact bit_four_out lo i l0 hl (by omega) w
    · have e1 : bitV false hi lo i = 0 := by unfold bitV; rw [if_neg (fun h => hm h.1)]
      have e2 : bitE false hi lo i = 4 := by unfold bitE; rw [if_neg hm]
      rw [e1, e2]; exact bit_no hi lo i h0 l0 (by simpa using hm) w
  · have hm : mayB true hi lo = true := by simp [mayB]
    by_cases hr : 0 ≤ i ∧ i < 128
    · have e1 : bitV true hi lo i = bitAt true hi lo i.toNat := by unfold bitV; rw [if_pos ⟨hm, hr⟩]
      have e2 : bitE true hi lo i = 0 := by unfold bitE; rw [if_pos hm]; exact if_pos hr
      rw [e1, e2]
      by_cases hh : i < 64
      · exact bit_six_hi hi lo i h0 h1 l0 hr.1 hh w
      · exact bit_six_lo hi lo i h0 l0 l1 (by omega) hr.2 w
    · have e1 : bitV true hi lo i = 0 := by unfold bitV; rw [if_neg (fun h => hr h.2)]
      have e2 : bitE true hi lo i = 2 := by unfold bitE; rw [if_pos hm]; exact if_neg hr
      rw [e1, e2]; exact bit_six_out hi lo i (by omega) w
end Go.Proofs.Ytnmocjlleejijaa
