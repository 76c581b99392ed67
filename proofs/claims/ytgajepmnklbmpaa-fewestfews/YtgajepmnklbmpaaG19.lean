/-
  Laid together: PreBothC, PreD, CovD.
-/
import Derived.Test.YtgajepmnklbmpaaG4
/-
  Contracts of pre.checkBoth.
-/
namespace Go.Proofs.Ytgajepmnklbmpaa
open Go.RowKit
set_option linter.unusedVariables false
set_option linter.unusedSimpArgs false

/-- What checkBoth answers. -/
def bothE (s1 : Bool) (x : Nat) (n : Int) (s2 : Bool) (y : Nat) (m : Int) : Int := if chkE s1 x n = 0 then (if chkE s2 y m = 0 then (if s1 = s2 then 0 else 6) else chkE s2 y m) else chkE s1 x n

set_option maxHeartbeats 400000 in
theorem checkBoth_one (s1 s2 : Bool) (x y : Nat) (n m e0 : Int) (hx : x < 2 ^ 128) (hc : chkE s1 x n = e0) (he : (e0 == 0) = false) (w : World) :
    Calls Try.prog 58 #[.agg #[.bool s1, .int .u64 (aH x), .int .u64 (aL x), .int .i64 n], .agg #[.bool s2, .int .u64 (aH y), .int .u64 (aL y), .int .i64 m]] w fun e w' => e = .returned (.int .i64 e0) ∧ Below w.heap.size w w' := by
  have C := Lib.hid hc
  clear hc
  go_enter Try.func58, Try.ntmps58
  go_wp2_with fail
  refine (check_calls s1 x n hx _).mono ?_
  rw [C.out]
  rintro e w1 ⟨rfl, hb1⟩
  have b1 := thenBelow (((Below.refl _ w).alloc (Nat.le_refl _) _).alloc (by simp) _) hb1
  clear hb1
  go_wp2
  go_ret
  exact ⟨rfl, b1⟩
set_option maxHeartbeats 400000 in
theorem checkBoth_two (s1 s2 : Bool) (x y : Nat) (n m e0 : Int) (hx : x < 2 ^ 128) (hy : y < 2 ^ 128) (hc : chkE s1 x n = 0) (hd : chkE s2 y m = e0) (he : (e0 == 0) = false) (w : World) :
    Calls Try.prog 58 #[.agg #[.bool s1, .int .u64 (aH x), .int .u64 (aL x), .int .i64 n], .agg #[.bool s2, .int .u64 (aH y), .int .u64 (aL y), .int .i64 m]] w fun e w' => e = .returned (.int .i64 e0) ∧ Below w.heap.size w w' := by
  have C := Lib.hid hc
  have D := Lib.hid hd
  clear hc hd
  go_enter Try.func58, Try.ntmps58
  go_wp2_with fail
  refine (check_calls s1 x n hx _).mono ?_
  rw [C.out]
  rintro e w1 ⟨rfl, hb1⟩
  have b1 := thenBelow (((Below.refl _ w).alloc (Nat.le_refl _) _).alloc (by simp) _) hb1
  obtain ⟨q0, q1, q2, q3, ql⟩ := (PreAt.new (w.alloc (.cells #[.bool s1, .int .u64 (aH x), .int .u64 (aL x), .int .i64 n] 63)) s2 (aH y) (aL y) m 63).keep hb1
  simp at q0 q1 q2 q3 ql
  clear hb1
  go_wp2_with fail
  refine (check_calls s2 y m hy _).mono ?_
  rw [D.out]
  rintro e w2 ⟨rfl, hb2⟩
  have b2 := thenBelow b1 hb2
  clear hb2
  go_wp2
  go_ret
  exact ⟨rfl, b2⟩
set_option maxHeartbeats 400000 in
theorem checkBoth_fam (s1 s2 : Bool) (x y : Nat) (n m e0 : Int) (b : Bool) (hs : (!s1 == s2) = b) (hx : x < 2 ^ 128) (hy : y < 2 ^ 128) (hc : chkE s1 x n = 0) (hd : chkE s2 y m = 0) (he : (if b then 6 else 0) = e0) (w : World) :
    Calls Try.prog 58 #[.agg #[.bool s1, .int .u64 (aH x), .int .u64 (aL x), .int .i64 n], .agg #[.bool s2, .int .u64 (aH y), .int .u64 (aL y), .int .i64 m]] w fun e w' => e = .returned (.int .i64 e0) ∧ Below w.heap.size w w' := by
  subst he
  have C := Lib.hid hc
  have D := Lib.hid hd
  clear hc hd
  go_enter Try.func58, Try.ntmps58
  go_wp2_with fail
  refine (check_calls s1 x n hx _).mono ?_
  rw [C.out]
  rintro e w1 ⟨rfl, hb1⟩
  have b1 := thenBelow (((Below.refl _ w).alloc (Nat.le_refl _) _).alloc (by simp) _) hb1
  have P1 := ((PreAt.new w s1 (aH x) (aL x) n 63).alloc _).keep hb1
  have Q1 := (PreAt.new (w.alloc (.cells #[.bool s1, .int .u64 (aH x), .int .u64 (aL x), .int .i64 n] 63)) s2 (aH y) (aL y) m 63).keep hb1
  have Q1' := Q1
  obtain ⟨q0, q1, q2, q3, ql⟩ := Q1'
  simp at q0 q1 q2 q3 ql
  clear hb1
  go_wp2_with fail
  refine (check_calls s2 y m hy _).mono ?_
  rw [D.out]
  rintro e w2 ⟨rfl, hb2⟩
  have b2 := thenBelow b1 hb2
  clear q0 q1 q2 q3 ql
  obtain ⟨q0, q1, q2, q3, ql⟩ := Q1.keep hb2
  obtain ⟨p0, p1, p2, p3, pl⟩ := P1.keep hb2
  simp at q0 q1 q2 q3 ql
  clear hb2 P1 Q1
  cases b
  · go_wp2
    go_ret
    exact ⟨rfl, b2⟩
  · go_wp2
    go_ret
    exact ⟨rfl, b2⟩
theorem checkBoth_calls (s1 s2 : Bool) (x y : Nat) (n m : Int) (hx : x < 2 ^ 128) (hy : y < 2 ^ 128) (w : World) :
    Calls Try.prog 58 #[.agg #[.bool s1, .int .u64 (aH x), .int .u64 (aL x), .int .i64 n], .agg #[.bool s2, .int .u64 (aH y), .int .u64 (aL y), .int .i64 m]] w fun e w' => e = .returned (.int .i64 (bothE s1 x n s2 y m)) ∧ Below w.heap.size w w' := by
  unfold bothE
  by_cases h1 : chkE s1 x n = 0
  · rw [if_pos h1]
    by_cases h2 : chkE s2 y m = 0
    · rw [if_pos h2]
      exact checkBoth_fam s1 s2 x y n m _ (!s1 == s2) rfl hx hy h1 h2 (by cases s1 <;> cases s2 <;> rfl) w
    · rw [if_neg h2]
      exact checkBoth_two s1 s2 x y n m _ hx hy h1 rfl (by simpa using h2) w
  · rw [if_neg h1]
    exact checkBoth_one s1 s2 x y n m _ hx rfl (by simpa using h1) w
end Go.Proofs.Ytgajepmnklbmpaa
/-
  Contracts of pre.Covers.
-/
namespace Go.Proofs.Ytgajepmnklbmpaa
open Go.RowKit
set_option linter.unusedVariables false
set_option linter.unusedSimpArgs false

set_option maxHeartbeats 400000 in
theorem covers_err (s1 s2 : Bool) (x y : Nat) (n m e0 : Int) (hx : x < 2 ^ 128) (hy : y < 2 ^ 128) (hc : bothE s1 x n s2 y m = e0) (he : (e0 == 0) = false) (w : World) :
    Calls Try.prog 45 #[.agg #[.bool s1, .int .u64 (aH x), .int .u64 (aL x), .int .i64 n], .agg #[.bool s2, .int .u64 (aH y), .int .u64 (aL y), .int .i64 m]] w fun e w' => e = .returned (.tuple #[.bool false, .int .i64 e0]) ∧ Below w.heap.size w w' := by
  have C := Lib.hid hc
  clear hc
  go_enter Try.func45, Try.ntmps45
  go_wp2_with fail
  refine (checkBoth_calls s1 s2 x y n m hx hy _).mono ?_
  rw [C.out]
  rintro e w1 ⟨rfl, hb1⟩
  have b1 := thenBelow (((Below.refl _ w).alloc (Nat.le_refl _) _).alloc (by simp) _) hb1
  clear hb1
  go_wp2
  go_ret2
  exact ⟨rfl, b1⟩

set_option maxHeartbeats 1000000 in
theorem covers_long (six : Bool) (x y n m : Nat) (hx : x < 2 ^ 128) (hy : y < 2 ^ 128) (hc : bothE six x n six y m = 0) (hn : n ≤ wideN six) (hm : m < n) (w : World) :
    Calls Try.prog 45 #[.agg #[.bool six, .int .u64 (aH x), .int .u64 (aL x), .int .i64 n], .agg #[.bool six, .int .u64 (aH y), .int .u64 (aL y), .int .i64 m]] w fun e w' => e = .returned (.tuple #[.bool false, .int .i64 0]) ∧ Below w.heap.size w w' := by
  have C := Lib.hid hc
  have hd : decide (n ≤ m) = false := by simpa using hm
  clear hc
  go_enter Try.func45, Try.ntmps45
  go_wp2_with fail
  refine (checkBoth_calls six six x y n m hx hy _).mono ?_
  rw [C.out]
  rintro e w1 ⟨rfl, hb1⟩
  have b1 := thenBelow (((Below.refl _ w).alloc (Nat.le_refl _) _).alloc (by simp) _) hb1
  obtain ⟨q0, q1, q2, q3, ql⟩ := (PreAt.new (w.alloc (.cells #[.bool six, .int .u64 (aH x), .int .u64 (aL x), .int .i64 n] 63)) six (aH y) (aL y) m 63).keep hb1
  obtain ⟨p0, p1, p2, p3, pl⟩ := ((PreAt.new w six (aH x) (aL x) n 63).alloc _).keep hb1
  simp at q0 q1 q2 q3 ql
  clear hb1
  go_wp2_with fail
  go_quiet ((fail))
  go_wp2
  go_ret2
  exact ⟨rfl, below_drewN b1 _⟩

set_option maxHeartbeats 1000000 in
theorem covers_short (six : Bool) (x y n m z : Nat) (b : Bool) (hx : x < 2 ^ 128) (hy : y < 2 ^ 128) (hc : bothE six x n six y m = 0) (hn : n ≤ wideN six) (hm : n ≤ m) (hz : lowN y (wideN six - n) = z) (hb : decide (z = x) = b) (w : World) :
    Calls Try.prog 45 #[.agg #[.bool six, .int .u64 (aH x), .int .u64 (aL x), .int .i64 n], .agg #[.bool six, .int .u64 (aH y), .int .u64 (aL y), .int .i64 m]] w fun e w' => e = .returned (.tuple #[.bool b, .int .i64 0]) ∧ Below w.heap.size w w' := by
  have C := Lib.hid hc
  have Z := Lib.hid hz
  have B := Lib.hid hb
  clear hz hb
  clear hc
  go_enter Try.func45, Try.ntmps45
  go_wp2_with fail
  refine (checkBoth_calls six six x y n m hx hy _).mono ?_
  rw [C.out]
  rintro e w1 ⟨rfl, hb1⟩
  have b1 := thenBelow (((Below.refl _ w).alloc (Nat.le_refl _) _).alloc (by simp) _) hb1
  obtain ⟨q0, q1, q2, q3, ql⟩ := (PreAt.new (w.alloc (.cells #[.bool six, .int .u64 (aH x), .int .u64 (aL x), .int .i64 n] 63)) six (aH y) (aL y) m 63).keep hb1
  obtain ⟨p0, p1, p2, p3, pl⟩ := ((PreAt.new w six (aH x) (aL x) n 63).alloc _).keep hb1
  simp at q0 q1 q2 q3 ql
  clear hb1
  go_wp2_with fail
  rcases eq3 z x with h | h | ⟨h1, h⟩
  · go_region_held3 (fun w' => (w'.cell? ⟨w.heap.size + 1, 0, none⟩ = some (.bool six) ∧ w'.cell? ⟨w.heap.size + 1, 1, none⟩ = some (.int .u64 (aH y)) ∧ w'.cell? ⟨w.heap.size + 1, 2, none⟩ = some (.int .u64 (aL y)) ∧ w'.cell? ⟨w.heap.size + 1, 3, none⟩ = some (.int .i64 m)) ∧ w'.cell? ⟨w.heap.size, 0, none⟩ = some (.bool six) ∧ w'.cell? ⟨w.heap.size, 1, none⟩ = some (.int .u64 (aH x)) ∧ w'.cell? ⟨w.heap.size, 2, none⟩ = some (.int .u64 (aL x)) ∧ w'.cell? ⟨w.heap.size, 3, none⟩ = some (.int .i64 n)) (simp (disch := first | assumption | (simp; omega)) [go_sem, World.cell?_alloc_past, q0, q1, q2, q3, p0, p1, p2, p3])
      ((go_at_call 59; refine (start_calls six y n hy hn _).mono ?_; rintro e w' ⟨rfl, rfl⟩; rw [Z.out, h]))
    go_wp2
    go_ret2
    exact ⟨by rw [← B.out, h]; simp, by go_grown⟩
  · go_region_held3 (fun w' => (w'.cell? ⟨w.heap.size + 1, 0, none⟩ = some (.bool six) ∧ w'.cell? ⟨w.heap.size + 1, 1, none⟩ = some (.int .u64 (aH y)) ∧ w'.cell? ⟨w.heap.size + 1, 2, none⟩ = some (.int .u64 (aL y)) ∧ w'.cell? ⟨w.heap.size + 1, 3, none⟩ = some (.int .i64 m)) ∧ w'.cell? ⟨w.heap.size, 0, none⟩ = some (.bool six) ∧ w'.cell? ⟨w.heap.size, 1, none⟩ = some (.int .u64 (aH x)) ∧ w'.cell? ⟨w.heap.size, 2, none⟩ = some (.int .u64 (aL x)) ∧ w'.cell? ⟨w.heap.size, 3, none⟩ = some (.int .i64 n)) (simp (disch := first | assumption | (simp; omega)) [go_sem, World.cell?_alloc_past, q0, q1, q2, q3, p0, p1, p2, p3])
      ((go_at_call 59; refine (start_calls six y n hy hn _).mono ?_; rintro e w' ⟨rfl, rfl⟩; rw [Z.out]))
    go_wp2
    go_ret2
    exact ⟨by rw [← B.out, decide_eq_false (ne_of_h h)]; rfl, by go_grown⟩
  · have H1 := Lib.hid h1
    clear h1
    go_region_held3 (fun w' => (w'.cell? ⟨w.heap.size + 1, 0, none⟩ = some (.bool six) ∧ w'.cell? ⟨w.heap.size + 1, 1, none⟩ = some (.int .u64 (aH y)) ∧ w'.cell? ⟨w.heap.size + 1, 2, none⟩ = some (.int .u64 (aL y)) ∧ w'.cell? ⟨w.heap.size + 1, 3, none⟩ = some (.int .i64 m)) ∧ w'.cell? ⟨w.heap.size, 0, none⟩ = some (.bool six) ∧ w'.cell? ⟨w.heap.size, 1, none⟩ = some (.int .u64 (aH x)) ∧ w'.cell? ⟨w.heap.size, 2, none⟩ = some (.int .u64 (aL x)) ∧ w'.cell? ⟨w.heap.size, 3, none⟩ = some (.int .i64 n)) (simp (disch := first | assumption | (simp; omega)) [go_sem, World.cell?_alloc_past, q0, q1, q2, q3, p0, p1, p2, p3])
      ((go_at_call 59; refine (start_calls six y n hy hn _).mono ?_; rintro e w' ⟨rfl, rfl⟩; rw [Z.out, H1.out]))
    go_wp2
    go_ret2
    exact ⟨by rw [← B.out, decide_eq_false (ne_of_l h)]; rfl, by go_grown⟩
end Go.Proofs.Ytgajepmnklbmpaa
/-
  pre.Covers of two valid prefixes of one family.
-/
namespace Go.Proofs.Ytgajepmnklbmpaa
open Go.RowKit
set_option linter.unusedVariables false
set_option linter.unusedSimpArgs false
/-- Does the first cover the second? -/
def covD (six : Bool) (x n y m : Nat) : Bool := decide (n ≤ m) && decide (lowN y (wideN six - n) = x)
theorem covers_ok' (six : Bool) (x y n m : Nat) (hx : x < 2 ^ 128) (hy : y < 2 ^ 128) (hb : bothE six x n six y m = 0) (hn : n ≤ wideN six) (w : World) :
    Calls Try.prog 45 #[.agg #[.bool six, .int .u64 (aH x), .int .u64 (aL x), .int .i64 n], .agg #[.bool six, .int .u64 (aH y), .int .u64 (aL y), .int .i64 m]] w fun e w' => e = .returned (.tuple #[.bool (covD six x n y m), .int .i64 0]) ∧ Below w.heap.size w w' := by
  by_cases hm : n ≤ m
  · exact covers_short six x y n m _ _ hx hy hb hn hm rfl (by simp [covD, hm]) w
  · rw [show covD six x n y m = false from by simp [covD, hm]]
    exact covers_long six x y n m hx hy hb hn (by omega) w
end Go.Proofs.Ytgajepmnklbmpaa
