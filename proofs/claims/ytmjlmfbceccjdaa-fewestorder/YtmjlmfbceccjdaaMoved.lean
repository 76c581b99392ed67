/-
  Contracts of math/bits.Add64 and Sub64 at this program, of addr.moved and addr.Next.
-/
import Derived.Test.YtmjlmfbceccjdaaG3
import Derived.Shelf.Spec.BitsCarry
namespace Go.Proofs.Ytmjlmfbceccjdaa
open Go.RowKit
set_option linter.unusedVariables false
set_option linter.unusedSimpArgs false

theorem add64 (x y c : Int) (hx : 0 ≤ x) (hy : 0 ≤ y) (hc0 : 0 ≤ c) (hc : c ≤ 1) (w : World) : (callFunc 107 #[.int .u64 x, .int .u64 y, .int .u64 c]).run Try.prog w =
    .ok (.value (.tuple #[.int .u64 ((x + y + c) % 18446744073709551616), .int .u64 ((x + y + c) / 18446744073709551616)])) w := by
  rw [run_callFunc_extern Try.func107 (by kernel_rfl) (by kernel_rfl) (by kernel_rfl) (e := add64Entry) (by kernel_rfl), run_add64 x y c hx hy hc0 hc]
  rfl
theorem sub64 (x y b : Int) (hx : 0 ≤ x) (hy : 0 ≤ y) (hy' : y < 18446744073709551616) (hb0 : 0 ≤ b) (hb : b ≤ 1) (w : World) : (callFunc 106 #[.int .u64 x, .int .u64 y, .int .u64 b]).run Try.prog w =
    .ok (.value (.tuple #[.int .u64 ((x - y - b) % 18446744073709551616), .int .u64 (if x < y + b then 1 else 0)])) w := by
  obtain ⟨x, rfl⟩ := Int.eq_ofNat_of_zero_le hx
  obtain ⟨y, rfl⟩ := Int.eq_ofNat_of_zero_le hy
  obtain ⟨b, rfl⟩ := Int.eq_ofNat_of_zero_le hb0
  have e1 : (((x + 18446744073709551616 - y - b) % 18446744073709551616 : Nat) : Int) = ((x : Int) - y - b) % 18446744073709551616 := by omega
  have e2 : ((if x < y + b then 1 else 0 : Nat) : Int) = if (x : Int) < y + b then 1 else 0 := by split <;> split <;> omega
  rw [run_callFunc_extern Try.func106 (by kernel_rfl) (by kernel_rfl) (by kernel_rfl) (e := sub64Entry) (by kernel_rfl), run_sub64 x y b (by omega), e1, e2]
  rfl

/-- The number that lies so much further on. -/
def numN (hi lo by' : Int) : Int := hi * 18446744073709551616 + lo + by'

set_option maxHeartbeats 400000 in
theorem moved_up (six : Bool) (hi lo by' : Int) (h0 : 0 ≤ hi) (h1 : hi ≤ 18446744073709551615) (l0 : 0 ≤ lo) (l1 : lo ≤ 18446744073709551615) (b0 : 0 ≤ by') (b1 : by' ≤ 1099511627776) (w : World) :
    Calls Try.prog 90 #[.agg #[.bool six, .int .u64 hi, .int .u64 lo], .int .i64 by'] w fun e w' => e = .returned (.tuple #[.agg #[.bool six, .int .u64 ((hi + (lo + by') / 18446744073709551616) % 18446744073709551616), .int .u64 ((lo + by') % 18446744073709551616)], .bool ((hi + (lo + by') / 18446744073709551616) / 18446744073709551616 != 0)]) ∧ (w.alloc (.cells #[.bool six, .int .u64 hi, .int .u64 lo] 30)).alloc (.cells #[.bool six, .int .u64 ((hi + (lo + by') / 18446744073709551616) % 18446744073709551616), .int .u64 ((lo + by') % 18446744073709551616)] 30) = w' := by
  have a1 := fun W : World => add64 lo by' 0 l0 b0 (by omega) (by omega) W
  have a2 := fun W : World => add64 hi 0 ((lo + by') / 18446744073709551616) h0 (by omega) (by omega) (by omega) W
  simp only [Int.add_zero] at a1 a2
  go_enter Try.func90, Try.ntmps90
  go_wp2
  go_returns
  exact ⟨rfl, rfl⟩

set_option maxHeartbeats 400000 in
theorem moved_down (six : Bool) (hi lo by' : Int) (h0 : 0 ≤ hi) (h1 : hi ≤ 18446744073709551615) (l0 : 0 ≤ lo) (l1 : lo ≤ 18446744073709551615) (b0 : by' < 0) (b1 : -1099511627776 ≤ by') (w : World) :
    Calls Try.prog 90 #[.agg #[.bool six, .int .u64 hi, .int .u64 lo], .int .i64 by'] w fun e w' => e = .returned (.tuple #[.agg #[.bool six, .int .u64 ((hi - if lo < -by' then 1 else 0) % 18446744073709551616), .int .u64 ((lo + by') % 18446744073709551616)], .bool (decide (hi < if lo < -by' then 1 else 0))]) ∧ (w.alloc (.cells #[.bool six, .int .u64 hi, .int .u64 lo] 30)).alloc (.cells #[.bool six, .int .u64 ((hi - if lo < -by' then 1 else 0) % 18446744073709551616), .int .u64 ((lo + by') % 18446744073709551616)] 30) = w' := by
  by_cases hl : lo < -by'
  · rw [if_pos hl]
    have a1 := fun W : World => sub64 lo (-by') 0 l0 (by omega) (by omega) (by omega) (by omega) W
    have a2 := fun W : World => sub64 hi 0 1 h0 (by omega) (by omega) (by omega) (by omega) W
    simp only [Int.add_zero, Int.sub_zero, Int.zero_add, if_pos hl] at a1 a2
    by_cases hh : hi < 1
    · simp only [if_pos hh] at a2
      go_enter Try.func90, Try.ntmps90
      go_wp2
      go_returns
      exact ⟨by simp [hh], by simp⟩
    · simp only [if_neg hh] at a2
      go_enter Try.func90, Try.ntmps90
      go_wp2
      go_returns
      exact ⟨by simp [hh], by simp⟩
  · rw [if_neg hl]
    have hh : ¬ hi < 0 := by omega
    have a1 := fun W : World => sub64 lo (-by') 0 l0 (by omega) (by omega) (by omega) (by omega) W
    have a2 := fun W : World => sub64 hi 0 0 h0 (by omega) (by omega) (by omega) (by omega) W
    simp only [Int.add_zero, Int.sub_zero, Int.zero_add, if_neg hl, if_neg hh] at a1 a2
    go_enter Try.func90, Try.ntmps90
    go_wp2
    go_returns
    exact ⟨by simp [hh], by simp⟩

/-- addr.moved, by the number: the words of the sum, and whether it fits into 128 bits. -/
theorem moved_calls (six : Bool) (hi lo by' : Int) (hi2 lo2 : Int) (o : Bool) (h0 : 0 ≤ hi) (h1 : hi ≤ 18446744073709551615) (l0 : 0 ≤ lo) (l1 : lo ≤ 18446744073709551615) (b0 : -1099511627776 ≤ by') (b1 : by' ≤ 1099511627776)
    (e1 : numN hi lo by' / 18446744073709551616 % 18446744073709551616 = hi2) (e2 : numN hi lo by' % 18446744073709551616 = lo2) (e3 : decide (numN hi lo by' < 0 ∨ 340282366920938463463374607431768211456 ≤ numN hi lo by') = o) (w : World) :
    Calls Try.prog 90 #[.agg #[.bool six, .int .u64 hi, .int .u64 lo], .int .i64 by'] w fun e w' => e = .returned (.tuple #[.agg #[.bool six, .int .u64 hi2, .int .u64 lo2], .bool o]) ∧ (w.alloc (.cells #[.bool six, .int .u64 hi, .int .u64 lo] 30)).alloc (.cells #[.bool six, .int .u64 hi2, .int .u64 lo2] 30) = w' := by
  unfold numN at e1 e2 e3
  by_cases hb : 0 ≤ by'
  · refine (moved_up six hi lo by' h0 h1 l0 l1 hb b1 w).mono ?_
    rintro e w' ⟨rfl, rfl⟩
    have g1 : (hi + (lo + by') / 18446744073709551616) % 18446744073709551616 = hi2 := by omega
    have g2 : (lo + by') % 18446744073709551616 = lo2 := by omega
    have g3 : ((hi + (lo + by') / 18446744073709551616) / 18446744073709551616 != 0) = o := by
      rw [← e3, Bool.eq_iff_iff, bne_iff_ne, decide_eq_true_iff]; omega
    rw [g1, g2, g3]; exact ⟨rfl, rfl⟩
  · refine (moved_down six hi lo by' h0 h1 l0 l1 (by omega) b0 w).mono ?_
    rintro e w' ⟨rfl, rfl⟩
    by_cases hl : lo < -by'
    · rw [if_pos hl]
      have g1 : (hi - 1) % 18446744073709551616 = hi2 := by omega
      have g2 : (lo + by') % 18446744073709551616 = lo2 := by omega
      have g3 : decide (hi < 1) = o := by rw [← e3, Bool.eq_iff_iff, decide_eq_true_iff, decide_eq_true_iff]; omega
      rw [g1, g2, g3]; exact ⟨rfl, rfl⟩
    · rw [if_neg hl]
      have g1 : (hi - 0) % 18446744073709551616 = hi2 := by omega
      have g2 : (lo + by') % 18446744073709551616 = lo2 := by omega
      have g3 : decide (hi < 0) = o := by rw [← e3, Bool.eq_iff_iff, decide_eq_true_iff, decide_eq_true_iff]; omega
      rw [g1, g2, g3]; exact ⟨rfl, rfl⟩
end Go.Proofs.Ytmjlmfbceccjdaa
