/-
  Contracts of pre.Check (one for all), pre.checkBoth, pre.Has.
-/
import Derived.Test.YthlkofbdfjpfpaaPreB
import Derived.Test.YthlkofbdfjpfpaaPreAt
namespace Go.Proofs.Ythlkofbdfjpfpaa
open Go.RowKit
set_option linter.unusedVariables false
set_option linter.unusedSimpArgs false

theorem check_calls (six : Bool) (x : Nat) (n : Int) (hx : x < 2 ^ 128) (w : World) :
    Calls Try.prog 14 #[.agg #[.bool six, .int .u64 (aH x), .int .u64 (aL x), .int .i64 n]] w fun e w' => e = .returned (.int .i64 (chkE six x n)) ∧ Below w.heap.size w w' := by
  by_cases hv : x < 2 ^ wideN six
  · by_cases hn : 0 ≤ n ∧ n ≤ wideN six
    · obtain ⟨k, rfl⟩ := Int.eq_ofNat_of_zero_le hn.1
      have hk : k ≤ wideN six := by omega
      by_cases hl : lowN x (wideN six - k) = x
      · rw [show chkE six x k = 0 from by unfold chkE; rw [if_pos hv, if_pos hn, if_pos (by simpa using hl)]]
        exact check_ok six x k hx hv hk hl w
      · rw [show chkE six x k = 5 from by unfold chkE; rw [if_pos hv, if_pos hn, if_neg (by simpa using hl)]]
        exact check_bits six x k hx hv hk hl w
    · rw [show chkE six x n = 2 from by unfold chkE; rw [if_pos hv, if_neg hn]]
      by_cases h0 : n < 0
      · exact check_neg six x n hx hv h0 w
      · exact check_big six x n hx hv (by omega) w
  · rw [show chkE six x n = 4 from by unfold chkE; rw [if_neg hv]]
    exact check_form six x n hx hv w
theorem chk0 {six : Bool} {x : Nat} {n : Int} (h : chkE six x n = 0) : x < 2 ^ wideN six ∧ ∃ k : Nat, n = k ∧ k ≤ wideN six ∧ lowN x (wideN six - k) = x := by
  unfold chkE at h
  split at h
  · rename_i hv
    split at h
    · rename_i hn
      split at h
      · rename_i hl; exact ⟨hv, n.toNat, by omega, by omega, hl⟩
      · omega
    · omega
  · omega
theorem chk_mk (six : Bool) (x k : Nat) (hv : x < 2 ^ wideN six) (hk : k ≤ wideN six) (hl : lowN x (wideN six - k) = x) : chkE six x k = 0 := by
  unfold chkE; rw [if_pos hv, if_pos (by omega), if_pos (by simpa using hl)]
theorem lt128 {six : Bool} {x : Nat} (h : x < 2 ^ wideN six) : x < 2 ^ 128 := Nat.lt_of_lt_of_le h (Nat.pow_le_pow_right (by omega) (wideN_le six))

theorem may_num (six : Bool) (x : Nat) (hx : x < 2 ^ 128) (b : Bool) (hb : decide (x < 2 ^ wideN six) = b) (w : World) :
    Calls Try.prog 32 #[.agg #[.bool six, .int .u64 (aH x), .int .u64 (aL x)]] w fun e w' => e = .returned (.bool b) ∧ w.alloc (.cells #[.bool six, .int .u64 (aH x), .int .u64 (aL x)] 24) = w' := by
  rw [← hb, ← mayB_num six x hx]
  exact may_calls six _ _ (aH_0 x) (aL_0 x) w

set_option maxHeartbeats 400000 in
theorem has_err (six s2 : Bool) (x : Nat) (n : Int) (y1 y2 e0 : Int) (hx : x < 2 ^ 128) (hc : chkE six x n = e0) (he : (e0 == 0) = false) (w : World) :
    Calls Try.prog 16 #[.agg #[.bool six, .int .u64 (aH x), .int .u64 (aL x), .int .i64 n], .agg #[.bool s2, .int .u64 y1, .int .u64 y2]] w fun e w' => e = .returned (.tuple #[.bool false, .int .i64 e0]) ∧ Below w.heap.size w w' := by
  have C := Lib.hid hc
  clear hc
  go_enter Try.func16, Try.ntmps16
  go_wp2_with fail
  refine (check_calls six x n hx _).mono ?_
  rw [C.out]
  rintro e w1 ⟨rfl, hb1⟩
  have b1 := thenBelow (((Below.refl _ w).alloc (Nat.le_refl _) _).alloc (by simp) _) hb1
  clear hb1
  go_wp2
  go_ret2
  exact ⟨rfl, b1⟩

set_option maxHeartbeats 400000 in
theorem has_form (six s2 : Bool) (x y : Nat) (n : Int) (hx : x < 2 ^ 128) (hy : y < 2 ^ 128) (hc : chkE six x n = 0) (hv : ¬ y < 2 ^ wideN s2) (w : World) :
    Calls Try.prog 16 #[.agg #[.bool six, .int .u64 (aH x), .int .u64 (aL x), .int .i64 n], .agg #[.bool s2, .int .u64 (aH y), .int .u64 (aL y)]] w fun e w' => e = .returned (.tuple #[.bool false, .int .i64 4]) ∧ Below w.heap.size w w' := by
  have C := Lib.hid hc
  clear hc
  go_enter Try.func16, Try.ntmps16
  go_wp2_with fail
  refine (check_calls six x n hx _).mono ?_
  rw [C.out]
  rintro e w1 ⟨rfl, hb1⟩
  have b1 := thenBelow (((Below.refl _ w).alloc (Nat.le_refl _) _).alloc (by simp) _) hb1
  obtain ⟨a0, a1, a2, al⟩ := (AddrAt.new (w.alloc (.cells #[.bool six, .int .u64 (aH x), .int .u64 (aL x), .int .i64 n] 26)) s2 (aH y) (aL y) 24).keep hb1
  simp at a0 a1 a2 al
  clear hb1
  go_wp2_with fail
  refine (may_num s2 y hy false (decide_eq_false hv) _).mono ?_
  rintro e w2 ⟨rfl, rfl⟩
  go_wp2
  go_ret2
  exact ⟨rfl, b1.alloc b1.size _⟩

set_option maxHeartbeats 400000 in
theorem has_fam (six s2 : Bool) (x y : Nat) (n : Int) (hs : (!six == s2) = true) (hx : x < 2 ^ 128) (hy : y < 2 ^ 128) (hc : chkE six x n = 0) (hv : y < 2 ^ wideN s2) (w : World) :
    Calls Try.prog 16 #[.agg #[.bool six, .int .u64 (aH x), .int .u64 (aL x), .int .i64 n], .agg #[.bool s2, .int .u64 (aH y), .int .u64 (aL y)]] w fun e w' => e = .returned (.tuple #[.bool false, .int .i64 6]) ∧ Below w.heap.size w w' := by
  have C := Lib.hid hc
  clear hc
  go_enter Try.func16, Try.ntmps16
  go_wp2_with fail
  refine (check_calls six x n hx _).mono ?_
  rw [C.out]
  rintro e w1 ⟨rfl, hb1⟩
  have b1 := thenBelow (((Below.refl _ w).alloc (Nat.le_refl _) _).alloc (by simp) _) hb1
  obtain ⟨a0, a1, a2, al⟩ := (AddrAt.new (w.alloc (.cells #[.bool six, .int .u64 (aH x), .int .u64 (aL x), .int .i64 n] 26)) s2 (aH y) (aL y) 24).keep hb1
  obtain ⟨p0, p1, p2, p3, pl⟩ := ((PreAt.new w six (aH x) (aL x) n 26).alloc _).keep hb1
  simp at a0 a1 a2 al
  clear hb1
  go_wp2_with fail
  refine (may_num s2 y hy true (decide_eq_true hv) _).mono ?_
  rintro e w2 ⟨rfl, rfl⟩
  go_wp2
  go_ret2
  exact ⟨rfl, b1.alloc b1.size _⟩

/-- Two numbers are the same, or differ in a word. -/
theorem eq3 (y x : Nat) : y = x ∨ (aH y == aH x) = false ∨ aH y = aH x ∧ (aL y == aL x) = false := by
  by_cases h : aH y = aH x
  · by_cases l : aL y = aL x
    · exact .inl (a_inj h l)
    · exact .inr (.inr ⟨h, by simpa using l⟩)
  · exact .inr (.inl (by simpa using h))
theorem ne_of_h {y x : Nat} (h : (aH y == aH x) = false) : y ≠ x := by rintro rfl; simp at h
theorem ne_of_l {y x : Nat} (h : (aL y == aL x) = false) : y ≠ x := by rintro rfl; simp at h

set_option maxHeartbeats 1000000 in
theorem has_ok (six : Bool) (x y n z : Nat) (b : Bool) (hx : x < 2 ^ 128) (hy : y < 2 ^ 128) (hc : chkE six x n = 0) (hn : n ≤ wideN six) (hv : y < 2 ^ wideN six) (hz : lowN y (wideN six - n) = z) (hb : decide (z = x) = b) (w : World) :
    Calls Try.prog 16 #[.agg #[.bool six, .int .u64 (aH x), .int .u64 (aL x), .int .i64 n], .agg #[.bool six, .int .u64 (aH y), .int .u64 (aL y)]] w fun e w' => e = .returned (.tuple #[.bool b, .int .i64 0]) ∧ Below w.heap.size w w' := by
  have C := Lib.hid hc
  have Z := Lib.hid hz
  have B := Lib.hid hb
  clear hc hz hb
  go_enter Try.func16, Try.ntmps16
  go_wp2_with fail
  refine (check_calls six x n hx _).mono ?_
  rw [C.out]
  rintro e w1 ⟨rfl, hb1⟩
  have b1 := thenBelow (((Below.refl _ w).alloc (Nat.le_refl _) _).alloc (by simp) _) hb1
  obtain ⟨a0, a1, a2, al⟩ := (AddrAt.new (w.alloc (.cells #[.bool six, .int .u64 (aH x), .int .u64 (aL x), .int .i64 n] 26)) six (aH y) (aL y) 24).keep hb1
  obtain ⟨p0, p1, p2, p3, pl⟩ := ((PreAt.new w six (aH x) (aL x) n 26).alloc _).keep hb1
  simp at a0 a1 a2 al
  clear hb1
  go_wp2_with fail
  refine (may_num six y hy true (decide_eq_true hv) _).mono ?_
  rintro e w2 ⟨rfl, rfl⟩
  go_wp2_with fail
  rcases eq3 z x with h | h | ⟨h1, h⟩
  · go_region_held3 (fun w' => (w'.cell? ⟨w.heap.size + 1, 0, none⟩ = some (.bool six) ∧ w'.cell? ⟨w.heap.size + 1, 1, none⟩ = some (.int .u64 (aH y)) ∧ w'.cell? ⟨w.heap.size + 1, 2, none⟩ = some (.int .u64 (aL y))) ∧ w'.cell? ⟨w.heap.size, 0, none⟩ = some (.bool six) ∧ w'.cell? ⟨w.heap.size, 1, none⟩ = some (.int .u64 (aH x)) ∧ w'.cell? ⟨w.heap.size, 2, none⟩ = some (.int .u64 (aL x)) ∧ w'.cell? ⟨w.heap.size, 3, none⟩ = some (.int .i64 n)) (simp (disch := first | assumption | (simp; omega)) [go_sem, World.cell?_alloc_past, a0, a1, a2, p0, p1, p2, p3])
      ((go_at_call 34; refine (start_calls six y n hy hn _).mono ?_; rintro e w' ⟨rfl, rfl⟩; rw [Z.out, h]))
    go_wp2
    go_ret2
    exact ⟨by rw [← B.out, h]; simp, by go_grown⟩
  · go_region_held3 (fun w' => (w'.cell? ⟨w.heap.size + 1, 0, none⟩ = some (.bool six) ∧ w'.cell? ⟨w.heap.size + 1, 1, none⟩ = some (.int .u64 (aH y)) ∧ w'.cell? ⟨w.heap.size + 1, 2, none⟩ = some (.int .u64 (aL y))) ∧ w'.cell? ⟨w.heap.size, 0, none⟩ = some (.bool six) ∧ w'.cell? ⟨w.heap.size, 1, none⟩ = some (.int .u64 (aH x)) ∧ w'.cell? ⟨w.heap.size, 2, none⟩ = some (.int .u64 (aL x)) ∧ w'.cell? ⟨w.heap.size, 3, none⟩ = some (.int .i64 n)) (simp (disch := first | assumption | (simp; omega)) [go_sem, World.cell?_alloc_past, a0, a1, a2, p0, p1, p2, p3])
      ((go_at_call 34; refine (start_calls six y n hy hn _).mono ?_; rintro e w' ⟨rfl, rfl⟩; rw [Z.out]))
    go_wp2
    go_ret2
    exact ⟨by rw [← B.out, decide_eq_false (ne_of_h h)]; rfl, by go_grown⟩
  · have H1 := Lib.hid h1
    clear h1
    go_region_held3 (fun w' => (w'.cell? ⟨w.heap.size + 1, 0, none⟩ = some (.bool six) ∧ w'.cell? ⟨w.heap.size + 1, 1, none⟩ = some (.int .u64 (aH y)) ∧ w'.cell? ⟨w.heap.size + 1, 2, none⟩ = some (.int .u64 (aL y))) ∧ w'.cell? ⟨w.heap.size, 0, none⟩ = some (.bool six) ∧ w'.cell? ⟨w.heap.size, 1, none⟩ = some (.int .u64 (aH x)) ∧ w'.cell? ⟨w.heap.size, 2, none⟩ = some (.int .u64 (aL x)) ∧ w'.cell? ⟨w.heap.size, 3, none⟩ = some (.int .i64 n)) (simp (disch := first | assumption | (simp; omega)) [go_sem, World.cell?_alloc_past, a0, a1, a2, p0, p1, p2, p3])
      ((go_at_call 34; refine (start_calls six y n hy hn _).mono ?_; rintro e w' ⟨rfl, rfl⟩; rw [Z.out, H1.out]))
    go_wp2
    go_ret2
    exact ⟨by rw [← B.out, decide_eq_false (ne_of_l h)]; rfl, by go_grown⟩

/-- What checkBoth answers. -/
def bothE (s1 : Bool) (x : Nat) (n : Int) (s2 : Bool) (y : Nat) (m : Int) : Int := if chkE s1 x n = 0 then (if chkE s2 y m = 0 then (if s1 = s2 then 0 else 6) else chkE s2 y m) else chkE s1 x n

set_option maxHeartbeats 400000 in
theorem checkBoth_one (s1 s2 : Bool) (x y : Nat) (n m e0 : Int) (hx : x < 2 ^ 128) (hc : chkE s1 x n = e0) (he : (e0 == 0) = false) (w : World) :
    Calls Try.prog 38 #[.agg #[.bool s1, .int .u64 (aH x), .int .u64 (aL x), .int .i64 n], .agg #[.bool s2, .int .u64 (aH y), .int .u64 (aL y), .int .i64 m]] w fun e w' => e = .returned (.int .i64 e0) ∧ Below w.heap.size w w' := by
  have C := Lib.hid hc
  clear hc
  go_enter Try.func38, Try.ntmps38
  go_wp2_with fail
  refine (check_calls s1 x n hx _).mono ?_
  rw [C.out]
  rintro e w1 ⟨rfl, hb1⟩
  have b1 := thenBelow (((Below.refl _ w).alloc (Nat.le_refl _) _).alloc (by simp) _) hb1
  clear hb1
  go_wp2
  go_ret
  exact ⟨rfl, b1⟩
set_option maxHeartbeats 400000 in
theorem checkBoth_two (s1 s2 : Bool) (x y : Nat) (n m e0 : Int) (hx : x < 2 ^ 128) (hy : y < 2 ^ 128) (hc : chkE s1 x n = 0) (hd : chkE s2 y m = e0) (he : (e0 == 0) = false) (w : World) :
    Calls Try.prog 38 #[.agg #[.bool s1, .int .u64 (aH x), .int .u64 (aL x), .int .i64 n], .agg #[.bool s2, .int .u64 (aH y), .int .u64 (aL y), .int .i64 m]] w fun e w' => e = .returned (.int .i64 e0) ∧ Below w.heap.size w w' := by
  have C := Lib.hid hc
  have D := Lib.hid hd
  clear hc hd
  go_enter Try.func38, Try.ntmps38
  go_wp2_with fail
  refine (check_calls s1 x n hx _).mono ?_
  rw [C.out]
  rintro e w1 ⟨rfl, hb1⟩
  have b1 := thenBelow (((Below.refl _ w).alloc (Nat.le_refl _) _).alloc (by simp) _) hb1
  obtain ⟨q0, q1, q2, q3, ql⟩ := (PreAt.new (w.alloc (.cells #[.bool s1, .int .u64 (aH x), .int .u64 (aL x), .int .i64 n] 26)) s2 (aH y) (aL y) m 26).keep hb1
  simp at q0 q1 q2 q3 ql
  clear hb1
  go_wp2_with fail
  refine (check_calls s2 y m hy _).mono ?_
  rw [D.out]
  rintro e w2 ⟨rfl, hb2⟩
  have b2 := thenBelow b1 hb2
  clear hb2
  go_wp2
  go_ret
  exact ⟨rfl, b2⟩
set_option maxHeartbeats 400000 in
theorem checkBoth_fam (s1 s2 : Bool) (x y : Nat) (n m e0 : Int) (b : Bool) (hs : (!s1 == s2) = b) (hx : x < 2 ^ 128) (hy : y < 2 ^ 128) (hc : chkE s1 x n = 0) (hd : chkE s2 y m = 0) (he : (if b then 6 else 0) = e0) (w : World) :
    Calls Try.prog 38 #[.agg #[.bool s1, .int .u64 (aH x), .int .u64 (aL x), .int .i64 n], .agg #[.bool s2, .int .u64 (aH y), .int .u64 (aL y), .int .i64 m]] w fun e w' => e = .returned (.int .i64 e0) ∧ Below w.heap.size w w' := by
  subst he
  have C := Lib.hid hc
  have D := Lib.hid hd
  clear hc hd
  go_enter Try.func38, Try.ntmps38
  go_wp2_with fail
  refine (check_calls s1 x n hx _).mono ?_
  rw [C.out]
  rintro e w1 ⟨rfl, hb1⟩
  have b1 := thenBelow (((Below.refl _ w).alloc (Nat.le_refl _) _).alloc (by simp) _) hb1
  have P1 := ((PreAt.new w s1 (aH x) (aL x) n 26).alloc _).keep hb1
  have Q1 := (PreAt.new (w.alloc (.cells #[.bool s1, .int .u64 (aH x), .int .u64 (aL x), .int .i64 n] 26)) s2 (aH y) (aL y) m 26).keep hb1
  have Q1' := Q1
  obtain ⟨q0, q1, q2, q3, ql⟩ := Q1'
  simp at q0 q1 q2 q3 ql
  clear hb1
  go_wp2_with fail
  refine (check_calls s2 y m hy _).mono ?_
  rw [D.out]
  rintro e w2 ⟨rfl, hb2⟩
  have b2 := thenBelow b1 hb2
  clear q0 q1 q2 q3 ql
  obtain ⟨q0, q1, q2, q3, ql⟩ := Q1.keep hb2
  obtain ⟨p0, p1, p2, p3, pl⟩ := P1.keep hb2
  simp at q0 q1 q2 q3 ql
  clear hb2 P1 Q1
  cases b
  · go_wp2
    go_ret
    exact ⟨rfl, b2⟩
  · go_wp2
    go_ret
    exact ⟨rfl, b2⟩
theorem checkBoth_calls (s1 s2 : Bool) (x y : Nat) (n m : Int) (hx : x < 2 ^ 128) (hy : y < 2 ^ 128) (w : World) :
    Calls Try.prog 38 #[.agg #[.bool s1, .int .u64 (aH x), .int .u64 (aL x), .int .i64 n], .agg #[.bool s2, .int .u64 (aH y), .int .u64 (aL y), .int .i64 m]] w fun e w' => e = .returned (.int .i64 (bothE s1 x n s2 y m)) ∧ Below w.heap.size w w' := by
  unfold bothE
  by_cases h1 : chkE s1 x n = 0
  · rw [if_pos h1]
    by_cases h2 : chkE s2 y m = 0
    · rw [if_pos h2]
      exact checkBoth_fam s1 s2 x y n m _ (!s1 == s2) rfl hx hy h1 h2 (by cases s1 <;> cases s2 <;> rfl) w
    · rw [if_neg h2]
      exact checkBoth_two s1 s2 x y n m _ hx hy h1 rfl (by simpa using h2) w
  · rw [if_neg h1]
    exact checkBoth_one s1 s2 x y n m _ hx rfl (by simpa using h1) w
end Go.Proofs.Ythlkofbdfjpfpaa
