/-
  Laid together: Moved, Next, NextYes.
-/
import Derived.Test.YtepfcphhgmmlhaaMay
import Derived.Shelf.Spec.BitsCarry
/-
  Contracts of math/bits.Add64 and Sub64 at this program, of addr.moved and addr.Next.
-/
namespace Go.Proofs.Ytepfcphhgmmlhaa
open Go.RowKit
set_option linter.unusedVariables false
set_option linter.unusedSimpArgs false

theorem add64 (x y c : Int) (hx : 0 ≤ x) (hy : 0 ≤ y) (hc0 : 0 ≤ c) (hc : c ≤ 1) (w : World) : (callFunc 120 #[.int .u64 x, .int .u64 y, .int .u64 c]).run Try.prog w =
    .ok (.value (.tuple #[.int .u64 ((x + y + c) % 18446744073709551616), .int .u64 ((x + y + c) / 18446744073709551616)])) w := by
  rw [run_callFunc_extern Try.func120 (by kernel_rfl) (by kernel_rfl) (by kernel_rfl) (e := add64Entry) (by kernel_rfl), run_add64 x y c hx hy hc0 hc]
  rfl
theorem sub64 (x y b : Int) (hx : 0 ≤ x) (hy : 0 ≤ y) (hy' : y < 18446744073709551616) (hb0 : 0 ≤ b) (hb : b ≤ 1) (w : World) : (callFunc 119 #[.int .u64 x, .int .u64 y, .int .u64 b]).run Try.prog w =
    .ok (.value (.tuple #[.int .u64 ((x - y - b) % 18446744073709551616), .int .u64 (if x < y + b then 1 else 0)])) w := by
  obtain ⟨x, rfl⟩ := Int.eq_ofNat_of_zero_le hx
  obtain ⟨y, rfl⟩ := Int.eq_ofNat_of_zero_le hy
  obtain ⟨b, rfl⟩ := Int.eq_ofNat_of_zero_le hb0
  have e1 : (((x + 18446744073709551616 - y - b) % 18446744073709551616 : Nat) : Int) = ((x : Int) - y - b) % 18446744073709551616 := by omega
  have e2 : ((if x < y + b then 1 else 0 : Nat) : Int) = if (x : Int) < y + b then 1 else 0 := by split <;> split <;> omega
  rw [run_callFunc_extern Try.func119 (by kernel_rfl) (by kernel_rfl) (by kernel_rfl) (e := sub64Entry) (by kernel_rfl), run_sub64 x y b (by omega), e1, e2]
  rfl

/-- The number that lies so much further on. -/
def numN (hi lo by' : Int) : Int := hi * 18446744073709551616 + lo + by'

set_option maxHeartbeats 400000 in
theorem moved_up (six : Bool) (hi lo by' : Int) (h0 : 0 ≤ hi) (h1 : hi ≤ 18446744073709551615) (l0 : 0 ≤ lo) (l1 : lo ≤ 18446744073709551615) (b0 : 0 ≤ by') (b1 : by' ≤ 1099511627776) (w : World) :
    Calls Try.prog 86 #[.agg #[.bool six, .int .u64 hi, .int .u64 lo], .int .i64 by'] w fun e w' => e = .returned (.tuple #[.agg #[.bool six, .int .u64 ((hi + (lo + by') / 18446744073709551616) % 18446744073709551616), .int .u64 ((lo + by') % 18446744073709551616)], .bool ((hi + (lo + by') / 18446744073709551616) / 18446744073709551616 != 0)]) ∧ (w.alloc (.cells #[.bool six, .int .u64 hi, .int .u64 lo] 49)).alloc (.cells #[.bool six, .int .u64 ((hi + (lo + by') / 18446744073709551616) % 18446744073709551616), .int .u64 ((lo + by') % 18446744073709551616)] 49) = w' := by
  have a1 := fun W : World => add64 lo by' 0 l0 b0 (by omega) (by omega) W
  have a2 := fun W : World => add64 hi 0 ((lo + by') / 18446744073709551616) h0 (by omega) (by omega) (by omega) W
  simp only [Int.add_zero] at a1 a2
  go_enter Try.func86, Try.ntmps86
  go_wp2
  go_returns
  exact ⟨rfl, rfl⟩

set_option maxHeartbeats 400000 in
theorem moved_down (six : Bool) (hi lo by' : Int) (h0 : 0 ≤ hi) (h1 : hi ≤ 18446744073709551615) (l0 : 0 ≤ lo) (l1 : lo ≤ 18446744073709551615) (b0 : by' < 0) (b1 : -1099511627776 ≤ by') (w : World) :
    Calls Try.prog 86 #[.agg #[.bool six, .int .u64 hi, .int .u64 lo], .int .i64 by'] w fun e w' => e = .returned (.tuple #[.agg #[.bool six, .int .u64 ((hi - if lo < -by' then 1 else 0) % 18446744073709551616), .int .u64 ((lo + by') % 18446744073709551616)], .bool (decide (hi < if lo < -by' then 1 else 0))]) ∧ (w.alloc (.cells #[.bool six, .int .u64 hi, .int .u64 lo] 49)).alloc (.cells #[.bool six, .int .u64 ((hi - if lo < -by' then 1 else 0) % 18446744073709551616), .int .u64 ((lo + by') % 18446744073709551616)] 49) = w' := by
  by_cases hl : lo < -by'
  · rw [if_pos hl]
    have a1 := fun W : World => sub64 lo (-by') 0 l0 (by omega) (by omega) (by omega) (by omega) W
    have a2 := fun W : World => sub64 hi 0 1 h0 (by omega) (by omega) (by omega) (by omega) W
    simp only [Int.add_zero, Int.sub_zero, Int.zero_add, if_pos hl] at a1 a2
    by_cases hh : hi < 1
    · simp only [if_pos hh] at a2
      go_enter Try.func86, Try.ntmps86
      go_wp2
      go_returns
      exact ⟨by simp [hh], by simp⟩
    · simp only [if_neg hh] at a2
      go_enter Try.func86, Try.ntmps86
      go_wp2
      go_returns
      exact ⟨by simp [hh], by simp⟩
  · rw [if_neg hl]
    have hh : ¬ hi < 0 := by omega
    have a1 := fun W : World => sub64 lo (-by') 0 l0 (by omega) (by omega) (by omega) (by omega) W
    have a2 := fun W : World => sub64 hi 0 0 h0 (by omega) (by omega) (by omega) (by omega) W
    simp only [Int.add_zero, Int.sub_zero, Int.zero_add, if_neg hl, if_neg hh] at a1 a2
    go_enter Try.func86, Try.ntmps86
    go_wp2
    go_returns
    exact ⟨by simp [hh], by simp⟩

/-- addr.moved, by the number: the words of the sum, and whether it fits into 128 bits. -/
theorem moved_calls (six : Bool) (hi lo by' : Int) (hi2 lo2 : Int) (o : Bool) (h0 : 0 ≤ hi) (h1 : hi ≤ 18446744073709551615) (l0 : 0 ≤ lo) (l1 : lo ≤ 18446744073709551615) (b0 : -1099511627776 ≤ by') (b1 : by' ≤ 1099511627776)
    (e1 : numN hi lo by' / 18446744073709551616 % 18446744073709551616 = hi2) (e2 : numN hi lo by' % 18446744073709551616 = lo2) (e3 : decide (numN hi lo by' < 0 ∨ 340282366920938463463374607431768211456 ≤ numN hi lo by') = o) (w : World) :
    Calls Try.prog 86 #[.agg #[.bool six, .int .u64 hi, .int .u64 lo], .int .i64 by'] w fun e w' => e = .returned (.tuple #[.agg #[.bool six, .int .u64 hi2, .int .u64 lo2], .bool o]) ∧ (w.alloc (.cells #[.bool six, .int .u64 hi, .int .u64 lo] 49)).alloc (.cells #[.bool six, .int .u64 hi2, .int .u64 lo2] 49) = w' := by
  unfold numN at e1 e2 e3
  by_cases hb : 0 ≤ by'
  · refine (moved_up six hi lo by' h0 h1 l0 l1 hb b1 w).mono ?_
    rintro e w' ⟨rfl, rfl⟩
    have g1 : (hi + (lo + by') / 18446744073709551616) % 18446744073709551616 = hi2 := by omega
    have g2 : (lo + by') % 18446744073709551616 = lo2 := by omega
    have g3 : ((hi + (lo + by') / 18446744073709551616) / 18446744073709551616 != 0) = o := by
      rw [← e3, Bool.eq_iff_iff, bne_iff_ne, decide_eq_true_iff]; omega
    rw [g1, g2, g3]; exact ⟨rfl, rfl⟩
  · refine (moved_down six hi lo by' h0 h1 l0 l1 (by omega) b0 w).mono ?_
    rintro e w' ⟨rfl, rfl⟩
    by_cases hl : lo < -by'
    · rw [if_pos hl]
      have g1 : (hi - 1) % 18446744073709551616 = hi2 := by omega
      have g2 : (lo + by') % 18446744073709551616 = lo2 := by omega
      have g3 : decide (hi < 1) = o := by rw [← e3, Bool.eq_iff_iff, decide_eq_true_iff, decide_eq_true_iff]; omega
      rw [g1, g2, g3]; exact ⟨rfl, rfl⟩
    · rw [if_neg hl]
      have g1 : (hi - 0) % 18446744073709551616 = hi2 := by omega
      have g2 : (lo + by') % 18446744073709551616 = lo2 := by omega
      have g3 : decide (hi < 0) = o := by rw [← e3, Bool.eq_iff_iff, decide_eq_true_iff, decide_eq_true_iff]; omega
      rw [g1, g2, g3]; exact ⟨rfl, rfl⟩
end Go.Proofs.Ytepfcphhgmmlhaa
/-
  The contract of addr.Next.
-/
namespace Go.Proofs.Ytepfcphhgmmlhaa
open Go.RowKit
set_option linter.unusedVariables false
set_option linter.unusedSimpArgs false

/-- How many addresses there are. -/
def limN (six : Bool) : Int := if six then 340282366920938463463374607431768211456 else 4294967296
/-- Is there an address so much further on? -/
def nextOk (six : Bool) (hi lo by' : Int) : Bool := mayB six hi lo && (decide (-1099511627776 ≤ by' ∧ by' ≤ 1099511627776) && decide (0 ≤ numN hi lo by' ∧ numN hi lo by' < limN six))
/-- What Next answers. -/
def nextE (six : Bool) (hi lo by' : Int) : Int := if nextOk six hi lo by' then 0 else if mayB six hi lo then 2 else 4
def nextS (six : Bool) (hi lo by' : Int) : Bool := nextOk six hi lo by' && six
def nextH (six : Bool) (hi lo by' : Int) : Int := if nextOk six hi lo by' then numN hi lo by' / 18446744073709551616 else 0
def nextL (six : Bool) (hi lo by' : Int) : Int := if nextOk six hi lo by' then numN hi lo by' % 18446744073709551616 else 0

set_option maxHeartbeats 400000 in
theorem next_no (hi lo by' : Int) (h0 : 0 ≤ hi) (l0 : 0 ≤ lo) (hm : mayB false hi lo = false) (w : World) :
    Calls Try.prog 65 #[.agg #[.bool false, .int .u64 hi, .int .u64 lo], .int .i64 by'] w fun e w' => e = .returned (.tuple #[.agg #[.bool false, .int .u64 0, .int .u64 0], .int .i64 4]) ∧ Below w.heap.size w w' := by
  by_cases hz : hi = 0
  · subst hz
    have hl : ¬ lo < 4294967296 := by simp [mayB] at hm; omega
    clear hm
    go_enter Try.func65, Try.ntmps65
    go_wp2
    go_returns
    exact ⟨rfl, by go_grown⟩
  · have hz' : (hi == 0) = false := by simpa using hz
    clear hm
    go_enter Try.func65, Try.ntmps65
    go_wp2
    go_returns
    exact ⟨rfl, by go_grown⟩

set_option maxHeartbeats 400000 in
theorem next_far_six (hi lo by' : Int) (hr : by' < -1099511627776 ∨ 1099511627776 < by') (w : World) :
    Calls Try.prog 65 #[.agg #[.bool true, .int .u64 hi, .int .u64 lo], .int .i64 by'] w fun e w' => e = .returned (.tuple #[.agg #[.bool false, .int .u64 0, .int .u64 0], .int .i64 2]) ∧ Below w.heap.size w w' := by
  rcases hr with hr | hr
  · go_enter Try.func65, Try.ntmps65
    go_wp2
    go_returns
    exact ⟨rfl, by go_grown⟩
  · have hr' : ¬ by' < -1099511627776 := by omega
    go_enter Try.func65, Try.ntmps65
    go_wp2
    go_returns
    exact ⟨rfl, by go_grown⟩

set_option maxHeartbeats 400000 in
theorem next_far_four (lo by' : Int) (l0 : 0 ≤ lo) (l1 : lo < 4294967296) (hr : by' < -1099511627776 ∨ 1099511627776 < by') (w : World) :
    Calls Try.prog 65 #[.agg #[.bool false, .int .u64 0, .int .u64 lo], .int .i64 by'] w fun e w' => e = .returned (.tuple #[.agg #[.bool false, .int .u64 0, .int .u64 0], .int .i64 2]) ∧ Below w.heap.size w w' := by
  rcases hr with hr | hr
  · go_enter Try.func65, Try.ntmps65
    go_wp2
    go_returns
    exact ⟨rfl, by go_grown⟩
  · have hr' : ¬ by' < -1099511627776 := by omega
    go_enter Try.func65, Try.ntmps65
    go_wp2
    go_returns
    exact ⟨rfl, by go_grown⟩

set_option maxHeartbeats 1000000 in
theorem next_six (hi lo by' hi2 lo2 : Int) (h0 : 0 ≤ hi) (h1 : hi ≤ 18446744073709551615) (l0 : 0 ≤ lo) (l1 : lo ≤ 18446744073709551615) (b0 : -1099511627776 ≤ by') (b1 : by' ≤ 1099511627776)
    (e1 : numN hi lo by' / 18446744073709551616 % 18446744073709551616 = hi2) (e2 : numN hi lo by' % 18446744073709551616 = lo2) (n0 : 0 ≤ numN hi lo by') (n1 : numN hi lo by' < 340282366920938463463374607431768211456) (w : World) :
    Calls Try.prog 65 #[.agg #[.bool true, .int .u64 hi, .int .u64 lo], .int .i64 by'] w fun e w' => e = .returned (.tuple #[.agg #[.bool true, .int .u64 hi2, .int .u64 lo2], .int .i64 0]) ∧ Below w.heap.size w w' := by
  have c := moved_calls true hi lo by' hi2 lo2 false h0 h1 l0 l1 b0 b1 e1 e2 (decide_eq_false (by omega))
  have C := Lib.hid c
  clear c e1 e2 n0 n1
  go_enter Try.func65, Try.ntmps65
  go_wp2_with (first | (go_at_call 86; refine (C.out _).mono ?_; rintro e w1 ⟨rfl, rfl⟩) | go_in)
  go_returns
  exact ⟨rfl, by go_grown⟩

set_option maxHeartbeats 1000000 in
theorem next_six_over (hi lo by' hi2 lo2 : Int) (h0 : 0 ≤ hi) (h1 : hi ≤ 18446744073709551615) (l0 : 0 ≤ lo) (l1 : lo ≤ 18446744073709551615) (b0 : -1099511627776 ≤ by') (b1 : by' ≤ 1099511627776)
    (e1 : numN hi lo by' / 18446744073709551616 % 18446744073709551616 = hi2) (e2 : numN hi lo by' % 18446744073709551616 = lo2) (hn : numN hi lo by' < 0 ∨ 340282366920938463463374607431768211456 ≤ numN hi lo by') (w : World) :
    Calls Try.prog 65 #[.agg #[.bool true, .int .u64 hi, .int .u64 lo], .int .i64 by'] w fun e w' => e = .returned (.tuple #[.agg #[.bool false, .int .u64 0, .int .u64 0], .int .i64 2]) ∧ Below w.heap.size w w' := by
  have c := moved_calls true hi lo by' hi2 lo2 true h0 h1 l0 l1 b0 b1 e1 e2 (decide_eq_true hn)
  have C := Lib.hid c
  clear c e1 e2 hn
  go_enter Try.func65, Try.ntmps65
  go_wp2_with (first | (go_at_call 86; refine (C.out _).mono ?_; rintro e w1 ⟨rfl, rfl⟩) | go_in)
  go_returns
  exact ⟨rfl, by go_grown⟩

set_option maxHeartbeats 1000000 in
theorem next_four (lo by' lo2 : Int) (l0 : 0 ≤ lo) (l1 : lo < 4294967296) (b0 : -1099511627776 ≤ by') (b1 : by' ≤ 1099511627776) (e2 : numN 0 lo by' = lo2) (n0 : 0 ≤ lo2) (n1 : lo2 < 4294967296) (w : World) :
    Calls Try.prog 65 #[.agg #[.bool false, .int .u64 0, .int .u64 lo], .int .i64 by'] w fun e w' => e = .returned (.tuple #[.agg #[.bool false, .int .u64 0, .int .u64 lo2], .int .i64 0]) ∧ Below w.heap.size w w' := by
  have c := moved_calls false 0 lo by' 0 lo2 false (by omega) (by omega) l0 (by omega) b0 b1 (by omega) (by omega) (decide_eq_false (by omega))
  have C := Lib.hid c
  clear c e2
  go_enter Try.func65, Try.ntmps65
  go_wp2_with (first | (go_at_call 86; refine (C.out _).mono ?_; rintro e w1 ⟨rfl, rfl⟩) | go_in)
  go_returns
  exact ⟨rfl, by go_grown⟩

set_option maxHeartbeats 1000000 in
theorem next_four_big (lo by' lo2 : Int) (l0 : 0 ≤ lo) (l1 : lo < 4294967296) (b0 : -1099511627776 ≤ by') (b1 : by' ≤ 1099511627776) (e2 : numN 0 lo by' = lo2) (n1 : ¬ lo2 < 4294967296) (n2 : lo2 ≤ 18446744073709551615) (w : World) :
    Calls Try.prog 65 #[.agg #[.bool false, .int .u64 0, .int .u64 lo], .int .i64 by'] w fun e w' => e = .returned (.tuple #[.agg #[.bool false, .int .u64 0, .int .u64 0], .int .i64 2]) ∧ Below w.heap.size w w' := by
  have c := moved_calls false 0 lo by' 0 lo2 false (by omega) (by omega) l0 (by omega) b0 b1 (by omega) (by omega) (decide_eq_false (by omega))
  have C := Lib.hid c
  clear c e2
  have hd : decide (lo2 < 4294967296) = false := decide_eq_false n1
  go_enter Try.func65, Try.ntmps65
  go_wp2_with (first | (go_at_call 86; refine (C.out _).mono ?_; rintro e w1 ⟨rfl, rfl⟩) | go_in)
  go_returns
  exact ⟨rfl, by go_grown⟩

set_option maxHeartbeats 1000000 in
theorem next_four_over (lo by' hi2 lo2 : Int) (l0 : 0 ≤ lo) (l1 : lo < 4294967296) (b0 : -1099511627776 ≤ by') (b1 : by' ≤ 1099511627776)
    (e1 : numN 0 lo by' / 18446744073709551616 % 18446744073709551616 = hi2) (e2 : numN 0 lo by' % 18446744073709551616 = lo2) (hn : numN 0 lo by' < 0) (w : World) :
    Calls Try.prog 65 #[.agg #[.bool false, .int .u64 0, .int .u64 lo], .int .i64 by'] w fun e w' => e = .returned (.tuple #[.agg #[.bool false, .int .u64 0, .int .u64 0], .int .i64 2]) ∧ Below w.heap.size w w' := by
  have c := moved_calls false 0 lo by' hi2 lo2 true (by omega) (by omega) l0 (by omega) b0 b1 e1 e2 (decide_eq_true (Or.inl hn))
  have C := Lib.hid c
  clear c e1 e2 hn
  go_enter Try.func65, Try.ntmps65
  go_wp2_with (first | (go_at_call 86; refine (C.out _).mono ?_; rintro e w1 ⟨rfl, rfl⟩) | go_in)
  go_returns
  exact ⟨rfl, by go_grown⟩

/-- The five ways of an answer, whoever gives it. -/
theorem next_ways {Q : Value → Int → Prop} (six : Bool) (hi lo by' : Int) (h0 : 0 ≤ hi) (h1 : hi ≤ 18446744073709551615) (l0 : 0 ≤ lo) (l1 : lo ≤ 18446744073709551615)
    (w1 : six = false → mayB false hi lo = false → Q (.agg #[.bool false, .int .u64 0, .int .u64 0]) 4)
    (w2 : mayB six hi lo = true → (by' < -1099511627776 ∨ 1099511627776 < by') → Q (.agg #[.bool false, .int .u64 0, .int .u64 0]) 2)
    (w3 : six = true → -1099511627776 ≤ by' → by' ≤ 1099511627776 → 0 ≤ numN hi lo by' → numN hi lo by' < 340282366920938463463374607431768211456 → Q (.agg #[.bool true, .int .u64 (numN hi lo by' / 18446744073709551616), .int .u64 (numN hi lo by' % 18446744073709551616)]) 0)
    (w4 : six = true → -1099511627776 ≤ by' → by' ≤ 1099511627776 → (numN hi lo by' < 0 ∨ 340282366920938463463374607431768211456 ≤ numN hi lo by') → Q (.agg #[.bool false, .int .u64 0, .int .u64 0]) 2)
    (w5 : six = false → hi = 0 → lo < 4294967296 → -1099511627776 ≤ by' → by' ≤ 1099511627776 → 0 ≤ numN hi lo by' → numN hi lo by' < 4294967296 → Q (.agg #[.bool false, .int .u64 0, .int .u64 (numN hi lo by')]) 0)
    (w6 : six = false → hi = 0 → lo < 4294967296 → -1099511627776 ≤ by' → by' ≤ 1099511627776 → ¬ numN hi lo by' < 4294967296 → Q (.agg #[.bool false, .int .u64 0, .int .u64 0]) 2)
    (w7 : six = false → hi = 0 → lo < 4294967296 → -1099511627776 ≤ by' → by' ≤ 1099511627776 → numN hi lo by' < 0 → Q (.agg #[.bool false, .int .u64 0, .int .u64 0]) 2) :
    Q (.agg #[.bool (nextS six hi lo by'), .int .u64 (nextH six hi lo by'), .int .u64 (nextL six hi lo by')]) (nextE six hi lo by') := by
  by_cases hm : mayB six hi lo = true
  · by_cases hr : -1099511627776 ≤ by' ∧ by' ≤ 1099511627776
    · by_cases hn : 0 ≤ numN hi lo by' ∧ numN hi lo by' < limN six
      · have hok : nextOk six hi lo by' = true := by simp only [nextOk, hm, decide_eq_true hr, decide_eq_true hn, Bool.and_self]
        simp only [nextS, nextH, nextL, nextE, hok, if_true, Bool.true_and]
        cases six
        · simp [mayB] at hm
          obtain ⟨rfl, hl⟩ := hm
          simp [limN] at hn
          have q1 : numN 0 lo by' / 18446744073709551616 = 0 := by omega
          have q2 : numN 0 lo by' % 18446744073709551616 = numN 0 lo by' := by omega
          rw [q1, q2]
          exact w5 rfl rfl hl hr.1 hr.2 hn.1 hn.2
        · simp [limN] at hn
          exact w3 rfl hr.1 hr.2 hn.1 hn.2
      · have hok : nextOk six hi lo by' = false := by simp only [nextOk, hm, decide_eq_true hr, decide_eq_false hn, Bool.and_false]
        simp only [nextS, nextH, nextL, nextE, hok, hm, if_true, Bool.false_and, Bool.false_eq_true, if_false]
        cases six
        · simp [mayB] at hm
          obtain ⟨rfl, hl⟩ := hm
          simp [limN] at hn
          by_cases h7 : numN 0 lo by' < 0
          · exact w7 rfl rfl hl hr.1 hr.2 h7
          · exact w6 rfl rfl hl hr.1 hr.2 (by omega)
        · simp [limN] at hn
          exact w4 rfl hr.1 hr.2 (by omega)
    · have hok : nextOk six hi lo by' = false := by simp only [nextOk, hm, decide_eq_false hr, Bool.false_and, Bool.and_false]
      simp only [nextS, nextH, nextL, nextE, hok, hm, if_true, Bool.false_and, Bool.false_eq_true, if_false]
      exact w2 hm (by omega)
  · have hm' : mayB six hi lo = false := by simpa using hm
    have hok : nextOk six hi lo by' = false := by simp only [nextOk, hm', Bool.false_and]
    simp only [nextS, nextH, nextL, nextE, hok, hm', if_true, Bool.false_and, Bool.false_eq_true, if_false]
    cases six
    · exact w1 rfl hm'
    · simp [mayB] at hm'

theorem next_calls (six : Bool) (hi lo by' : Int) (h0 : 0 ≤ hi) (h1 : hi ≤ 18446744073709551615) (l0 : 0 ≤ lo) (l1 : lo ≤ 18446744073709551615) (w : World) :
    Calls Try.prog 65 #[.agg #[.bool six, .int .u64 hi, .int .u64 lo], .int .i64 by'] w fun e w' => e = .returned (.tuple #[.agg #[.bool (nextS six hi lo by'), .int .u64 (nextH six hi lo by'), .int .u64 (nextL six hi lo by')], .int .i64 (nextE six hi lo by')]) ∧ Below w.heap.size w w' := by
  refine next_ways (Q := fun v n => Calls Try.prog 65 #[.agg #[.bool six, .int .u64 hi, .int .u64 lo], .int .i64 by'] w fun e w' => e = .returned (.tuple #[v, .int .i64 n]) ∧ Below w.heap.size w w') six hi lo by' h0 h1 l0 l1 ?_ ?_ ?_ ?_ ?_ ?_ ?_
  · rintro rfl hm
    exact next_no hi lo by' h0 l0 hm w
  · intro hm hr
    cases six
    · simp [mayB] at hm
      obtain ⟨rfl, hl⟩ := hm
      exact next_far_four lo by' l0 hl hr w
    · exact next_far_six hi lo by' hr w
  · rintro rfl r0 r1 n0 n1
    exact next_six hi lo by' _ _ h0 h1 l0 l1 r0 r1 (by omega) rfl n0 n1 w
  · rintro rfl r0 r1 hn
    exact next_six_over hi lo by' _ _ h0 h1 l0 l1 r0 r1 rfl rfl hn w
  · rintro rfl rfl hl r0 r1 n0 n1
    exact next_four lo by' _ l0 hl r0 r1 rfl n0 n1 w
  · rintro rfl rfl hl r0 r1 n1
    exact next_four_big lo by' _ l0 hl r0 r1 rfl n1 (by unfold numN; omega) w
  · rintro rfl rfl hl r0 r1 hn
    exact next_four_over lo by' _ _ l0 hl r0 r1 rfl rfl hn w
end Go.Proofs.Ytepfcphhgmmlhaa
/-
  addr.Next where it answers an address, and where it does not.
-/
namespace Go.Proofs.Ytepfcphhgmmlhaa
open Go.RowKit
set_option linter.unusedVariables false
set_option linter.unusedSimpArgs false

/-- addr.Next, where there is such an address. -/
theorem next_yes (six : Bool) (hi lo by' h2 l2 : Int) (h0 : 0 ≤ hi) (h1 : hi ≤ 18446744073709551615) (l0 : 0 ≤ lo) (l1 : lo ≤ 18446744073709551615) (hok : nextOk six hi lo by' = true) (e1 : numN hi lo by' / 18446744073709551616 = h2) (e2 : numN hi lo by' % 18446744073709551616 = l2) (w : World) :
    Calls Try.prog 65 #[.agg #[.bool six, .int .u64 hi, .int .u64 lo], .int .i64 by'] w fun e w' => e = .returned (.tuple #[.agg #[.bool six, .int .u64 h2, .int .u64 l2], .int .i64 0]) ∧ Below w.heap.size w w' := by
  have h := next_calls six hi lo by' h0 h1 l0 l1 w
  simp only [nextS, nextH, nextL, nextE, hok, if_true, Bool.true_and, e1, e2] at h
  exact h
/-- addr.Next, where there is none. -/
theorem next_none (six : Bool) (hi lo by' : Int) (h0 : 0 ≤ hi) (h1 : hi ≤ 18446744073709551615) (l0 : 0 ≤ lo) (l1 : lo ≤ 18446744073709551615) (hm : mayB six hi lo = true) (hok : nextOk six hi lo by' = false) (w : World) :
    Calls Try.prog 65 #[.agg #[.bool six, .int .u64 hi, .int .u64 lo], .int .i64 by'] w fun e w' => e = .returned (.tuple #[.agg #[.bool false, .int .u64 0, .int .u64 0], .int .i64 2]) ∧ Below w.heap.size w w' := by
  have h := next_calls six hi lo by' h0 h1 l0 l1 w
  simp only [nextS, nextH, nextL, nextE, hok, hm, if_true, Bool.false_and, Bool.false_eq_true, if_false] at h
  exact h

theorem may_iff (six : Bool) (hi lo : Int) (h0 : 0 ≤ hi) (l0 : 0 ≤ lo) (l1 : lo ≤ 18446744073709551615) (h1 : hi ≤ 18446744073709551615) : mayB six hi lo = true ↔ hi * 18446744073709551616 + lo < limN six := by
  cases six
  · simp [mayB, limN]; omega
  · simp [mayB, limN]; omega
theorem nextOk_iff (six : Bool) (hi lo by' : Int) (hm : mayB six hi lo = true) : nextOk six hi lo by' = true ↔ (-1099511627776 ≤ by' ∧ by' ≤ 1099511627776) ∧ 0 ≤ numN hi lo by' ∧ numN hi lo by' < limN six := by
  simp [nextOk, hm]
end Go.Proofs.Ytepfcphhgmmlhaa
