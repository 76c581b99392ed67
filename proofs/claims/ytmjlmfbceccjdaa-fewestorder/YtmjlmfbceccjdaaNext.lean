/-
  The contract of addr.Next.
-/
import Derived.Test.YtmjlmfbceccjdaaMoved
namespace Go.Proofs.Ytmjlmfbceccjdaa
open Go.RowKit
set_option linter.unusedVariables false
set_option linter.unusedSimpArgs false

/-- How many addresses there are. -/
def limN (six : Bool) : Int := if six then 340282366920938463463374607431768211456 else 4294967296
/-- Is there an address so much further on? -/
def nextOk (six : Bool) (hi lo by' : Int) : Bool := mayB six hi lo && (decide (-1099511627776 ≤ by' ∧ by' ≤ 1099511627776) && decide (0 ≤ numN hi lo by' ∧ numN hi lo by' < limN six))
/-- What Next answers. -/
def nextE (six : Bool) (hi lo by' : Int) : Int := if nextOk six hi lo by' then 0 else if mayB six hi lo then 2 else 4
def nextS (six : Bool) (hi lo by' : Int) : Bool := nextOk six hi lo by' && six
def nextH (six : Bool) (hi lo by' : Int) : Int := if nextOk six hi lo by' then numN hi lo by' / 18446744073709551616 else 0
def nextL (six : Bool) (hi lo by' : Int) : Int := if nextOk six hi lo by' then numN hi lo by' % 18446744073709551616 else 0

set_option maxHeartbeats 400000 in
theorem next_no (hi lo by' : Int) (h0 : 0 ≤ hi) (l0 : 0 ≤ lo) (hm : mayB false hi lo = false) (w : World) :
    Calls Try.prog 71 #[.agg #[.bool false, .int .u64 hi, .int .u64 lo], .int .i64 by'] w fun e w' => e = .returned (.tuple #[.agg #[.bool false, .int .u64 0, .int .u64 0], .int .i64 4]) ∧ Below w.heap.size w w' := by
  by_cases hz : hi = 0
  · subst hz
    have hl : ¬ lo < 4294967296 := by simp [mayB] at hm; omega
    clear hm
    go_enter Try.func71, Try.ntmps71
    go_wp2
    go_returns
    exact ⟨rfl, by go_grown⟩
  · have hz' : (hi == 0) = false := by simpa using hz
    clear hm
    go_enter Try.func71, Try.ntmps71
    go_wp2
    go_returns
    exact ⟨rfl, by go_grown⟩

set_option maxHeartbeats 400000 in
theorem next_far_six (hi lo by' : Int) (hr : by' < -1099511627776 ∨ 1099511627776 < by') (w : World) :
    Calls Try.prog 71 #[.agg #[.bool true, .int .u64 hi, .int .u64 lo], .int .i64 by'] w fun e w' => e = .returned (.tuple #[.agg #[.bool false, .int .u64 0, .int .u64 0], .int .i64 2]) ∧ Below w.heap.size w w' := by
  rcases hr with hr | hr
  · go_enter Try.func71, Try.ntmps71
    go_wp2
    go_returns
    exact ⟨rfl, by go_grown⟩
  · have hr' : ¬ by' < -1099511627776 := by omega
    go_enter Try.func71, Try.ntmps71
    go_wp2
    go_returns
    exact ⟨rfl, by go_grown⟩

set_option maxHeartbeats 400000 in
theorem next_far_four (lo by' : Int) (l0 : 0 ≤ lo) (l1 : lo < 4294967296) (hr : by' < -1099511627776 ∨ 1099511627776 < by') (w : World) :
    Calls Try.prog 71 #[.agg #[.bool false, .int .u64 0, .int .u64 lo], .int .i64 by'] w fun e w' => e = .returned (.tuple #[.agg #[.bool false, .int .u64 0, .int .u64 0], .int .i64 2]) ∧ Below w.heap.size w w' := by
  rcases hr with hr | hr
  · go_enter Try.func71, Try.ntmps71
    go_wp2
    go_returns
    exact ⟨rfl, by go_grown⟩
  · have hr' : ¬ by' < -1099511627776 := by omega
    go_enter Try.func71, Try.ntmps71
    go_wp2
    go_returns
    exact ⟨rfl, by go_grown⟩

set_option maxHeartbeats 1000000 in
theorem next_six (hi lo by' hi2 lo2 : Int) (h0 : 0 ≤ hi) (h1 : hi ≤ 18446744073709551615) (l0 : 0 ≤ lo) (l1 : lo ≤ 18446744073709551615) (b0 : -1099511627776 ≤ by') (b1 : by' ≤ 1099511627776)
    (e1 : numN hi lo by' / 18446744073709551616 % 18446744073709551616 = hi2) (e2 : numN hi lo by' % 18446744073709551616 = lo2) (n0 : 0 ≤ numN hi lo by') (n1 : numN hi lo by' < 340282366920938463463374607431768211456) (w : World) :
    Calls Try.prog 71 #[.agg #[.bool true, .int .u64 hi, .int .u64 lo], .int .i64 by'] w fun e w' => e = .returned (.tuple #[.agg #[.bool true, .int .u64 hi2, .int .u64 lo2], .int .i64 0]) ∧ Below w.heap.size w w' := by
  have c := moved_calls true hi lo by' hi2 lo2 false h0 h1 l0 l1 b0 b1 e1 e2 (decide_eq_false (by omega))
  have C := Lib.hid c
  clear c e1 e2 n0 n1
  go_enter Try.func71, Try.ntmps71
  go_wp2_with (first | (go_at_call 90; refine (C.out _).mono ?_; rintro e w1 ⟨rfl, rfl⟩) | go_in)
  go_returns
  exact ⟨rfl, by go_grown⟩

set_option maxHeartbeats 1000000 in
theorem next_six_over (hi lo by' hi2 lo2 : Int) (h0 : 0 ≤ hi) (h1 : hi ≤ 18446744073709551615) (l0 : 0 ≤ lo) (l1 : lo ≤ 18446744073709551615) (b0 : -1099511627776 ≤ by') (b1 : by' ≤ 1099511627776)
    (e1 : numN hi lo by' / 18446744073709551616 % 18446744073709551616 = hi2) (e2 : numN hi lo by' % 18446744073709551616 = lo2) (hn : numN hi lo by' < 0 ∨ 340282366920938463463374607431768211456 ≤ numN hi lo by') (w : World) :
    Calls Try.prog 71 #[.agg #[.bool true, .int .u64 hi, .int .u64 lo], .int .i64 by'] w fun e w' => e = .returned (.tuple #[.agg #[.bool false, .int .u64 0, .int .u64 0], .int .i64 2]) ∧ Below w.heap.size w w' := by
  have c := moved_calls true hi lo by' hi2 lo2 true h0 h1 l0 l1 b0 b1 e1 e2 (decide_eq_true hn)
  have C := Lib.hid c
  clear c e1 e2 hn
  go_enter Try.func71, Try.ntmps71
  go_wp2_with (first | (go_at_call 90; refine (C.out _).mono ?_; rintro e w1 ⟨rfl, rfl⟩) | go_in)
  go_returns
  exact ⟨rfl, by go_grown⟩

set_option maxHeartbeats 1000000 in
theorem next_four (lo by' lo2 : Int) (l0 : 0 ≤ lo) (l1 : lo < 4294967296) (b0 : -1099511627776 ≤ by') (b1 : by' ≤ 1099511627776) (e2 : numN 0 lo by' = lo2) (n0 : 0 ≤ lo2) (n1 : lo2 < 4294967296) (w : World) :
    Calls Try.prog 71 #[.agg #[.bool false, .int .u64 0, .int .u64 lo], .int .i64 by'] w fun e w' => e = .returned (.tuple #[.agg #[.bool false, .int .u64 0, .int .u64 lo2], .int .i64 0]) ∧ Below w.heap.size w w' := by
  have c := moved_calls false 0 lo by' 0 lo2 false (by omega) (by omega) l0 (by omega) b0 b1 (by omega) (by omega) (decide_eq_false (by omega))
  have C := Lib.hid c
  clear c e2
  go_enter Try.func71, Try.ntmps71
  go_wp2_with (first | (go_at_call 90; refine (C.out _).mono ?_; rintro e w1 ⟨rfl, rfl⟩) | go_in)
  go_returns
  exact ⟨rfl, by go_grown⟩

set_option maxHeartbeats 1000000 in
theorem next_four_big (lo by' lo2 : Int) (l0 : 0 ≤ lo) (l1 : lo < 4294967296) (b0 : -1099511627776 ≤ by') (b1 : by' ≤ 1099511627776) (e2 : numN 0 lo by' = lo2) (n1 : ¬ lo2 < 4294967296) (n2 : lo2 ≤ 18446744073709551615) (w : World) :
    Calls Try.prog 71 #[.agg #[.bool false, .int .u64 0, .int .u64 lo], .int .i64 by'] w fun e w' => e = .returned (.tuple #[.agg #[.bool false, .int .u64 0, .int .u64 0], .int .i64 2]) ∧ Below w.heap.size w w' := by
  have c := moved_calls false 0 lo by' 0 lo2 false (by omega) (by omega) l0 (by omega) b0 b1 (by omega) (by omega) (decide_eq_false (by omega))
  have C := Lib.hid c
  clear c e2
  have hd : decide (lo2 < 4294967296) = false := decide_eq_false n1
  go_enter Try.func71, Try.ntmps71
  go_wp2_with (first | (go_at_call 90; refine (C.out _).mono ?_; rintro e w1 ⟨rfl, rfl⟩) | go_in)
  go_returns
  exact ⟨rfl, by go_grown⟩

set_option maxHeartbeats 1000000 in
theorem next_four_over (lo by' hi2 lo2 : Int) (l0 : 0 ≤ lo) (l1 : lo < 4294967296) (b0 : -1099511627776 ≤ by') (b1 : by' ≤ 1099511627776)
    (e1 : numN 0 lo by' / 18446744073709551616 % 18446744073709551616 = hi2) (e2 : numN 0 lo by' % 18446744073709551616 = lo2) (hn : numN 0 lo by' < 0) (w : World) :
    Calls Try.prog 71 #[.agg #[.bool false, .int .u64 0, .int .u64 lo], .int .i64 by'] w fun e w' => e = .returned (.tuple #[.agg #[.bool false, .int .u64 0, .int .u64 0], .int .i64 2]) ∧ Below w.heap.size w w' := by
  have c := moved_calls false 0 lo by' hi2 lo2 true (by omega) (by omega) l0 (by omega) b0 b1 e1 e2 (decide_eq_true (Or.inl hn))
  have C := Lib.hid c
  clear c e1 e2 hn
  go_enter Try.func71, Try.ntmps71
  go_wp2_with (first | (go_at_call 90; refine (C.out _).mono ?_; rintro e w1 ⟨rfl, rfl⟩) | go_in)
  go_returns
  exact ⟨rfl, by go_grown⟩

/-- The five ways of an answer, whoever gives it. -/
theorem next_ways {Q : Value → Int → Prop} (six : Bool) (hi lo by' : Int) (h0 : 0 ≤ hi) (h1 : hi ≤ 18446744073709551615) (l0 : 0 ≤ lo) (l1 : lo ≤ 18446744073709551615)
    (w1 : six = false → mayB false hi lo = false → Q (.agg #[.bool false, .int .u64 0, .int .u64 0]) 4)
    (w2 : mayB six hi lo = true → (by' < -1099511627776 ∨ 1099511627776 < by') → Q (.agg #[.bool false, .int .u64 0, .int .u64 0]) 2)
    (w3 : six = true → -1099511627776 ≤ by' → by' ≤ 1099511627776 → 0 ≤ numN hi lo by' → numN hi lo by' < 340282366920938463463374607431768211456 → Q (.agg #[.bool true, .int .u64 (numN hi lo by' / 18446744073709551616), .int .u64 (numN hi lo by' % 18446744073709551616)]) 0)
    (w4 : six = true → -1099511627776 ≤ by' → by' ≤ 1099511627776 → (numN hi lo by' < 0 ∨ 340282366920938463463374607431768211456 ≤ numN hi lo by') → Q (.agg #[.bool false, .int .u64 0, .int .u64 0]) 2)
    (w5 : six = false → hi = 0 → lo < 4294967296 → -1099511627776 ≤ by' → by' ≤ 1099511627776 → 0 ≤ numN hi lo by' → numN hi lo by' < 4294967296 → Q (.agg #[.bool false, .int .u64 0, .int .u64 (numN hi lo by')]) 0)
    (w6 : six = false → hi = 0 → lo < 4294967296 → -1099511627776 ≤ by' → by' ≤ 1099511627776 → ¬ numN hi lo by' < 4294967296 → Q (.agg #[.bool false, .int .u64 0, .int .u64 0]) 2)
    (w7 : six = false → hi = 0 → lo < 4294967296 → -1099511627776 ≤ by' → by' ≤ 1099511627776 → numN hi lo by' < 0 → Q (.agg #[.bool false, .int .u64 0, .int .u64 0]) 2) :
    Q (.agg #[.bool (nextS six hi lo by'), .int .u64 (nextH six hi lo by'), .int .u64 (nextL six hi lo by')]) (nextE six hi lo by') := by
  by_cases hm : mayB six hi lo = true
  · by_cases hr : -1099511627776 ≤ by' ∧ by' ≤ 1099511627776
    · by_cases hn : 0 ≤ numN hi lo by' ∧ numN hi lo by' < limN six
      · have hok : nextOk six hi lo by' = true := by simp only [nextOk, hm, decide_eq_true hr, decide_eq_true hn, Bool.and_self]
        simp only [nextS, nextH, nextL, nextE, hok, if_true, Bool.true_and]
        cases six
        · simp [mayB] at hm
          obtain ⟨rfl, hl⟩ := hm
          simp [limN] at hn
          have q1 : numN 0 lo by' / 18446744073709551616 = 0 := by omega
          have q2 : numN 0 lo by' % 18446744073709551616 = numN 0 lo by' := by omega
          rw [q1, q2]
          exact w5 rfl rfl hl hr.1 hr.2 hn.1 hn.2
        · simp [limN] at hn
          exact w3 rfl hr.1 hr.2 hn.1 hn.2
      · have hok : nextOk six hi lo by' = false := by simp only [nextOk, hm, decide_eq_true hr, decide_eq_false hn, Bool.and_false]
        simp only [nextS, nextH, nextL, nextE, hok, hm, if_true, Bool.false_and, Bool.false_eq_true, if_false]
        cases six
        · simp [mayB] at hm
          obtain ⟨rfl, hl⟩ := hm
          simp [limN] at hn
          by_cases h7 : numN 0 lo by' < 0
          · exact w7 rfl rfl hl hr.1 hr.2 h7
          · exact w6 rfl rfl hl hr.1 hr.2 (by omega)
        · simp [limN] at hn
          exact w4 rfl hr.1 hr.2 (by omega)
    · have hok : nextOk six hi lo by' = false := by simp only [nextOk, hm, decide_eq_false hr, Bool.false_and, Bool.and_false]
      simp only [nextS, nextH, nextL, nextE, hok, hm, if_true, Bool.false_and, Bool.false_eq_true, if_false]
      exact w2 hm (by omega)
  · have hm' : mayB six hi lo = false := by simpa using hm
    have hok : nextOk six hi lo by' = false := by simp only [nextOk, hm', Bool.false_and]
    simp only [nextS, nextH, nextL, nextE, hok, hm', if_true, Bool.false_and, Bool.false_eq_true, if_false]
    cases six
    · exact w1 rfl hm'
    · simp [mayB] at hm'

theorem next_calls (six : Bool) (hi lo by' : Int) (h0 : 0 ≤ hi) (h1 : hi ≤ 18446744073709551615) (l0 : 0 ≤ lo) (l1 : lo ≤ 18446744073709551615) (w : World) :
    Calls Try.prog 71 #[.agg #[.bool six, .int .u64 hi, .int .u64 lo], .int .i64 by'] w fun e w' => e = .returned (.tuple #[.agg #[.bool (nextS six hi lo by'), .int .u64 (nextH six hi lo by'), .int .u64 (nextL six hi lo by')], .int .i64 (nextE six hi lo by')]) ∧ Below w.heap.size w w' := by
  refine next_ways (Q := fun v n => Calls Try.prog 71 #[.agg #[.bool six, .int .u64 hi, .int .u64 lo], .int .i64 by'] w fun e w' => e = .returned (.tuple #[v, .int .i64 n]) ∧ Below w.heap.size w w') six hi lo by' h0 h1 l0 l1 ?_ ?_ ?_ ?_ ?_ ?_ ?_
  · rintro rfl hm
    exact next_no hi lo by' h0 l0 hm w
  · intro hm hr
    cases six
    · simp [mayB] at hm
      obtain ⟨rfl, hl⟩ := hm
      exact next_far_four lo by' l0 hl hr w
    · exact next_far_six hi lo by' hr w
  · rintro rfl r0 r1 n0 n1
    exact next_six hi lo by' _ _ h0 h1 l0 l1 r0 r1 (by omega) rfl n0 n1 w
  · rintro rfl r0 r1 hn
    exact next_six_over hi lo by' _ _ h0 h1 l0 l1 r0 r1 rfl rfl hn w
  · rintro rfl rfl hl r0 r1 n0 n1
    exact next_four lo by' _ l0 hl r0 r1 rfl n0 n1 w
  · rintro rfl rfl hl r0 r1 n1
    exact next_four_big lo by' _ l0 hl r0 r1 rfl n1 (by unfold numN; omega) w
  · rintro rfl rfl hl r0 r1 hn
    exact next_four_over lo by' _ _ l0 hl r0 r1 rfl rfl hn w
end Go.Proofs.Ytmjlmfbceccjdaa
