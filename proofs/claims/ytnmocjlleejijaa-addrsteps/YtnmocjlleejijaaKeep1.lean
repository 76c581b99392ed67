/-
  Contracts of whipcordkeep's helpers: AddrOf, Picked, ahead, Wide; addr.Next where it answers an address, and where it does not; an address that lies in memory.
-/
import Derived.Test.YtnmocjlleejijaaNext
namespace Go.Proofs.Ytnmocjlleejijaa
open Go.RowKit
set_option linter.unusedVariables false
set_option linter.unusedSimpArgs false

/-- An address that lies in a block. -/
def AddrAt (w : World) (b : Nat) (s : Bool) (h l : Int) : Prop := w.cell? ⟨b, 0, none⟩ = some (.bool s) ∧ w.cell? ⟨b, 1, none⟩ = some (.int .u64 h) ∧ w.cell? ⟨b, 2, none⟩ = some (.int .u64 l) ∧ b < w.heap.size
theorem AddrAt.keep {w w' : World} {b : Nat} {s : Bool} {h l : Int} (a : AddrAt w b s h l) (hb : Below w.heap.size w w') : AddrAt w' b s h l :=
  ⟨(hb.cell (p := ⟨b, 0, none⟩) a.2.2.2).trans a.1, (hb.cell (p := ⟨b, 1, none⟩) a.2.2.2).trans a.2.1, (hb.cell (p := ⟨b, 2, none⟩) a.2.2.2).trans a.2.2.1, Nat.lt_of_lt_of_le a.2.2.2 hb.size⟩
theorem AddrAt.alloc {w : World} {b : Nat} {s : Bool} {h l : Int} (a : AddrAt w b s h l) (o : Obj) : AddrAt (w.alloc o) b s h l :=
  a.keep ((Below.refl _ _).alloc (Nat.le_refl _) o)
theorem AddrAt.new (w : World) (s : Bool) (h l : Int) (t : TypeId) : AddrAt (w.alloc (.cells #[.bool s, .int .u64 h, .int .u64 l] t)) w.heap.size s h l :=
  ⟨by simp, by simp, by simp, by simp⟩

/-- What AddrOf makes of raw numbers. -/
def ofH (six : Bool) (hi : Int) : Int := if six then hi else 0
def ofL (six : Bool) (lo : Int) : Int := if six then lo else lo % 4294967296
theorem of_ok (six : Bool) (hi lo : Int) (h0 : 0 ≤ hi) (h1 : hi ≤ 18446744073709551615) (l0 : 0 ≤ lo) (l1 : lo ≤ 18446744073709551615) :
    0 ≤ ofH six hi ∧ ofH six hi ≤ 18446744073709551615 ∧ 0 ≤ ofL six lo ∧ ofL six lo ≤ 18446744073709551615 ∧ mayB six (ofH six hi) (ofL six lo) = true := by
  cases six
  · simp [ofH, ofL, mayB]; omega
  · simp [ofH, ofL, mayB]; omega

set_option maxHeartbeats 400000 in
theorem addrOfRaw_calls (six : Bool) (hi lo : Int) (h0 : 0 ≤ hi) (l0 : 0 ≤ lo) (l1 : lo ≤ 18446744073709551615) (w : World) :
    Calls Try.prog 15 #[.agg #[.bool six, .int .u64 hi, .int .u64 lo]] w fun e w' => e = .returned (.agg #[.bool six, .int .u64 (ofH six hi), .int .u64 (ofL six lo)]) ∧ Below w.heap.size w w' := by
  cases six
  · go_enter Try.func15, Try.ntmps15
    go_wp2
    go_returns
    exact ⟨rfl, by go_grown⟩
  · go_enter Try.func15, Try.ntmps15
    go_wp2
    go_returns
    exact ⟨rfl, by go_grown⟩

set_option maxHeartbeats 400000 in
theorem picked_calls (a n : Int) (n0 : 0 < n) (n1 : n ≤ 1152921504606846976) (a0 : -9223372036854775808 ≤ a) (a1 : a ≤ 9223372036854775807) (w : World) :
    Calls Try.prog 16 #[.int .i64 a, .int .i64 n] w fun e w' => e = .returned (.int .i64 (a % n)) ∧ w = w' := by
  have e1 : a.tmod n = if a.tmod n < 0 then a % n - n else a % n := by
    have h1 := Int.tmod_eq_emod_of_nonneg (a := a) (b := n)
    rw [Int.tmod_eq_emod]
    have hz := Int.emod_nonneg a (show n ≠ 0 by omega)
    have hl := Int.emod_lt_of_pos a n0
    have hd : a % n = 0 ↔ n ∣ a := Int.dvd_iff_emod_eq_zero.symm
    split
    · rw [if_neg (by omega)]; omega
    · rw [if_pos (by omega)]; omega
  have hz := Int.emod_nonneg a (show n ≠ 0 by omega)
  have hl := Int.emod_lt_of_pos a n0
  obtain ⟨t, ht⟩ : ∃ t, a.tmod n = t := ⟨_, rfl⟩
  rw [ht] at e1
  have hne : (n == 0) = false := by simp; omega
  have hn1 : (n == -1) = false := by simp; omega
  by_cases hneg : t < 0
  · rw [if_pos hneg] at e1
    have e2 : Hid (t + n = a % n) := by show t + n = a % n; omega
    obtain ⟨z, hze⟩ : ∃ z, a % n = z := ⟨_, rfl⟩
    rw [hze] at hz hl e1 e2
    rw [hze]
    have hb0 : -1152921504606846976 ≤ t := by omega
    clear e1 hze
    go_enter Try.func16, Try.ntmps16
    go_wp2
    go_ret
    exact ⟨by show Ending.returned (.int .i64 (t + n)) = _; rw [e2.out], rfl⟩
  · rw [if_neg hneg] at e1
    have e2 : Hid (t = a % n) := e1
    obtain ⟨z, hze⟩ : ∃ z, a % n = z := ⟨_, rfl⟩
    rw [hze] at hz hl e1 e2
    rw [hze]
    have hb0 : 0 ≤ t := by omega
    have hb1 : t < 1152921504606846976 := by omega
    clear e1 hze
    go_enter Try.func16, Try.ntmps16
    go_wp2
    go_ret
    exact ⟨by show Ending.returned (.int .i64 t) = _; rw [e2.out], rfl⟩

set_option maxHeartbeats 400000 in
/-- 'ahead', where it is. -/
theorem ahead_yes (s s' : Bool) (ah al bh bl : Int) (h : ah < bh ∨ ah = bh ∧ al < bl) (w : World) :
    Calls Try.prog 17 #[.agg #[.bool s, .int .u64 ah, .int .u64 al], .agg #[.bool s', .int .u64 bh, .int .u64 bl]] w fun e w' => e = .returned (.bool true) ∧ (w.alloc (.cells #[.bool s, .int .u64 ah, .int .u64 al] 24)).alloc (.cells #[.bool s', .int .u64 bh, .int .u64 bl] 24) = w' := by
  rcases h with h | ⟨rfl, h⟩
  · go_enter Try.func17, Try.ntmps17
    go_wp2
    go_ret
    exact ⟨rfl, rfl⟩
  · go_enter Try.func17, Try.ntmps17
    go_wp2
    go_ret
    exact ⟨by simp [h], rfl⟩
set_option maxHeartbeats 400000 in
theorem ahead_no (s s' : Bool) (ah al bh bl : Int) (h : bh < ah ∨ ah = bh ∧ bl ≤ al) (w : World) :
    Calls Try.prog 17 #[.agg #[.bool s, .int .u64 ah, .int .u64 al], .agg #[.bool s', .int .u64 bh, .int .u64 bl]] w fun e w' => e = .returned (.bool false) ∧ (w.alloc (.cells #[.bool s, .int .u64 ah, .int .u64 al] 24)).alloc (.cells #[.bool s', .int .u64 bh, .int .u64 bl] 24) = w' := by
  rcases h with h | ⟨rfl, h⟩
  · have h' : ¬ ah < bh := by omega
    have h2 : (ah == bh) = false := by simp; omega
    go_enter Try.func17, Try.ntmps17
    go_wp2
    go_ret
    exact ⟨rfl, rfl⟩
  · have h' : ¬ al < bl := by omega
    go_enter Try.func17, Try.ntmps17
    go_wp2
    go_ret
    exact ⟨by simp [h'], rfl⟩

/-- addr.Next, where there is such an address. -/
theorem next_yes (six : Bool) (hi lo by' h2 l2 : Int) (h0 : 0 ≤ hi) (h1 : hi ≤ 18446744073709551615) (l0 : 0 ≤ lo) (l1 : lo ≤ 18446744073709551615) (hok : nextOk six hi lo by' = true) (e1 : numN hi lo by' / 18446744073709551616 = h2) (e2 : numN hi lo by' % 18446744073709551616 = l2) (w : World) :
    Calls Try.prog 13 #[.agg #[.bool six, .int .u64 hi, .int .u64 lo], .int .i64 by'] w fun e w' => e = .returned (.tuple #[.agg #[.bool six, .int .u64 h2, .int .u64 l2], .int .i64 0]) ∧ Below w.heap.size w w' := by
  have h := next_calls six hi lo by' h0 h1 l0 l1 w
  simp only [nextS, nextH, nextL, nextE, hok, if_true, Bool.true_and, e1, e2] at h
  exact h
/-- addr.Next, where there is none. -/
theorem next_none (six : Bool) (hi lo by' : Int) (h0 : 0 ≤ hi) (h1 : hi ≤ 18446744073709551615) (l0 : 0 ≤ lo) (l1 : lo ≤ 18446744073709551615) (hm : mayB six hi lo = true) (hok : nextOk six hi lo by' = false) (w : World) :
    Calls Try.prog 13 #[.agg #[.bool six, .int .u64 hi, .int .u64 lo], .int .i64 by'] w fun e w' => e = .returned (.tuple #[.agg #[.bool false, .int .u64 0, .int .u64 0], .int .i64 2]) ∧ Below w.heap.size w w' := by
  have h := next_calls six hi lo by' h0 h1 l0 l1 w
  simp only [nextS, nextH, nextL, nextE, hok, hm, if_true, Bool.false_and, Bool.false_eq_true, if_false] at h
  exact h

theorem may_iff (six : Bool) (hi lo : Int) (h0 : 0 ≤ hi) (l0 : 0 ≤ lo) (l1 : lo ≤ 18446744073709551615) (h1 : hi ≤ 18446744073709551615) : mayB six hi lo = true ↔ hi * 18446744073709551616 + lo < limN six := by
  cases six
  · simp [mayB, limN]; omega
  · simp [mayB, limN]; omega
theorem nextOk_iff (six : Bool) (hi lo by' : Int) (hm : mayB six hi lo = true) : nextOk six hi lo by' = true ↔ (-1099511627776 ≤ by' ∧ by' ≤ 1099511627776) ∧ 0 ≤ numN hi lo by' ∧ numN hi lo by' < limN six := by
  simp [nextOk, hm]
end Go.Proofs.Ytnmocjlleejijaa
