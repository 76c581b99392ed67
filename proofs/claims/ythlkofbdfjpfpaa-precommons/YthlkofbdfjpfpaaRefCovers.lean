/-
  Contracts of the document's preBoth, PreCovers.
-/
import Derived.Test.YthlkofbdfjpfpaaRefSpan
import Derived.Test.YthlkofbdfjpfpaaVia
import Derived.Test.YthlkofbdfjpfpaaPreD
namespace Go.Proofs.Ythlkofbdfjpfpaa
open Go.RowKit
set_option linter.unusedVariables false
set_option linter.unusedSimpArgs false

set_option maxHeartbeats 400000 in
theorem refBoth_one (s1 s2 : Bool) (x y : Nat) (n m e0 : Int) (hx : x < 2 ^ 128) (hc : chkE s1 x n = e0) (he : (e0 == 0) = false) (w : World) :
    Calls Try.prog 39 #[.agg #[.bool s1, .int .u64 (aH x), .int .u64 (aL x), .int .i64 n], .agg #[.bool s2, .int .u64 (aH y), .int .u64 (aL y), .int .i64 m]] w fun e w' => e = .returned (.int .i64 e0) ∧ Below w.heap.size w w' := by
  have C := Lib.hid hc
  clear hc
  go_enter Try.func39, Try.ntmps39
  go_wp2_with fail
  refine (refFault_calls s1 x n hx _).mono ?_
  rw [C.out]
  rintro e w1 ⟨rfl, hb1⟩
  have b1 := thenBelow (((Below.refl _ w).alloc (Nat.le_refl _) _).alloc (by simp) _) hb1
  have P1 := ((PreAt.new w s1 (aH x) (aL x) n 26).alloc _).keep hb1
  have Q1 := (PreAt.new (w.alloc (.cells #[.bool s1, .int .u64 (aH x), .int .u64 (aL x), .int .i64 n] 26)) s2 (aH y) (aL y) m 26).keep hb1
  simp only [World.size_alloc] at Q1
  clear hb1
  clear P1 Q1
  go_wp2
  go_ret
  exact ⟨rfl, b1⟩
set_option maxHeartbeats 400000 in
theorem refBoth_two (s1 s2 : Bool) (x y : Nat) (n m e0 : Int) (hx : x < 2 ^ 128) (hy : y < 2 ^ 128) (hc : chkE s1 x n = 0) (hd : chkE s2 y m = e0) (he : (e0 == 0) = false) (w : World) :
    Calls Try.prog 39 #[.agg #[.bool s1, .int .u64 (aH x), .int .u64 (aL x), .int .i64 n], .agg #[.bool s2, .int .u64 (aH y), .int .u64 (aL y), .int .i64 m]] w fun e w' => e = .returned (.int .i64 e0) ∧ Below w.heap.size w w' := by
  have D := Lib.hid hd
  clear hd
  have C := Lib.hid hc
  clear hc
  go_enter Try.func39, Try.ntmps39
  go_wp2_with fail
  refine (refFault_calls s1 x n hx _).mono ?_
  rw [C.out]
  rintro e w1 ⟨rfl, hb1⟩
  have b1 := thenBelow (((Below.refl _ w).alloc (Nat.le_refl _) _).alloc (by simp) _) hb1
  have P1 := ((PreAt.new w s1 (aH x) (aL x) n 26).alloc _).keep hb1
  have Q1 := (PreAt.new (w.alloc (.cells #[.bool s1, .int .u64 (aH x), .int .u64 (aL x), .int .i64 n] 26)) s2 (aH y) (aL y) m 26).keep hb1
  simp only [World.size_alloc] at Q1
  clear hb1
  have Q1' := Q1
  obtain ⟨q0, q1, q2, q3, ql⟩ := Q1'
  have HP := Lib.hid P1
  have HQ := Lib.hid Q1
  clear P1
  go_wp2_with fail
  refine (refFault_calls s2 y m hy _).mono ?_
  rw [D.out]
  rintro e w2 ⟨rfl, hb2⟩
  have b2 := thenBelow b1 hb2
  clear q0 q1 q2 q3 ql
  obtain ⟨p0, p1, p2, p3, pl⟩ := HP.out.keep hb2
  obtain ⟨q0, q1, q2, q3, ql⟩ := HQ.out.keep hb2
  clear hb2 HP HQ
  go_wp2
  go_ret
  exact ⟨rfl, b2⟩
set_option maxHeartbeats 400000 in
theorem refBoth_fam (s1 s2 : Bool) (x y : Nat) (n m e0 : Int) (b : Bool) (hs : (!s1 == s2) = b) (hx : x < 2 ^ 128) (hy : y < 2 ^ 128) (hc : chkE s1 x n = 0) (hd : chkE s2 y m = 0) (he : (if b then 6 else 0) = e0) (w : World) :
    Calls Try.prog 39 #[.agg #[.bool s1, .int .u64 (aH x), .int .u64 (aL x), .int .i64 n], .agg #[.bool s2, .int .u64 (aH y), .int .u64 (aL y), .int .i64 m]] w fun e w' => e = .returned (.int .i64 e0) ∧ Below w.heap.size w w' := by
  subst he
  have D := Lib.hid hd
  clear hd
  have C := Lib.hid hc
  clear hc
  go_enter Try.func39, Try.ntmps39
  go_wp2_with fail
  refine (refFault_calls s1 x n hx _).mono ?_
  rw [C.out]
  rintro e w1 ⟨rfl, hb1⟩
  have b1 := thenBelow (((Below.refl _ w).alloc (Nat.le_refl _) _).alloc (by simp) _) hb1
  have P1 := ((PreAt.new w s1 (aH x) (aL x) n 26).alloc _).keep hb1
  have Q1 := (PreAt.new (w.alloc (.cells #[.bool s1, .int .u64 (aH x), .int .u64 (aL x), .int .i64 n] 26)) s2 (aH y) (aL y) m 26).keep hb1
  simp only [World.size_alloc] at Q1
  clear hb1
  have Q1' := Q1
  obtain ⟨q0, q1, q2, q3, ql⟩ := Q1'
  have HP := Lib.hid P1
  have HQ := Lib.hid Q1
  clear P1
  go_wp2_with fail
  refine (refFault_calls s2 y m hy _).mono ?_
  rw [D.out]
  rintro e w2 ⟨rfl, hb2⟩
  have b2 := thenBelow b1 hb2
  clear q0 q1 q2 q3 ql
  obtain ⟨p0, p1, p2, p3, pl⟩ := HP.out.keep hb2
  obtain ⟨q0, q1, q2, q3, ql⟩ := HQ.out.keep hb2
  clear hb2 HP HQ
  cases b
  · go_wp2
    go_ret
    exact ⟨rfl, b2⟩
  · go_wp2
    go_ret
    exact ⟨rfl, b2⟩
theorem refBoth_calls (s1 s2 : Bool) (x y : Nat) (n m : Int) (hx : x < 2 ^ 128) (hy : y < 2 ^ 128) (w : World) :
    Calls Try.prog 39 #[.agg #[.bool s1, .int .u64 (aH x), .int .u64 (aL x), .int .i64 n], .agg #[.bool s2, .int .u64 (aH y), .int .u64 (aL y), .int .i64 m]] w fun e w' => e = .returned (.int .i64 (bothE s1 x n s2 y m)) ∧ Below w.heap.size w w' := by
  unfold bothE
  by_cases h1 : chkE s1 x n = 0
  · rw [if_pos h1]
    by_cases h2 : chkE s2 y m = 0
    · rw [if_pos h2]
      exact refBoth_fam s1 s2 x y n m _ (!s1 == s2) rfl hx hy h1 h2 (by cases s1 <;> cases s2 <;> rfl) w
    · rw [if_neg h2]
      exact refBoth_two s1 s2 x y n m _ hx hy h1 rfl (by simpa using h2) w
  · rw [if_neg h1]
    exact refBoth_one s1 s2 x y n m _ hx rfl (by simpa using h1) w
theorem both0 {s1 s2 : Bool} {x y : Nat} {n m : Int} (h : bothE s1 x n s2 y m = 0) : chkE s1 x n = 0 ∧ chkE s2 y m = 0 ∧ s1 = s2 := by
  unfold bothE at h
  split at h
  · split at h
    · split at h
      · rename_i a b c; exact ⟨a, b, c⟩
      · omega
    · omega
  · omega

set_option maxHeartbeats 400000 in
theorem refCovers_err (s1 s2 : Bool) (x y : Nat) (n m e0 : Int) (hx : x < 2 ^ 128) (hy : y < 2 ^ 128) (hc : bothE s1 x n s2 y m = e0) (he : (e0 == 0) = false) (w : World) :
    Calls Try.prog 19 #[.agg #[.bool s1, .int .u64 (aH x), .int .u64 (aL x), .int .i64 n], .agg #[.bool s2, .int .u64 (aH y), .int .u64 (aL y), .int .i64 m]] w fun e w' => e = .returned (.tuple #[.bool false, .int .i64 e0]) ∧ Below w.heap.size w w' := by
  have C := Lib.hid hc
  clear hc
  go_enter Try.func19, Try.ntmps19
  go_wp2_with fail
  refine (refBoth_calls s1 s2 x y n m hx hy _).mono ?_
  rw [C.out]
  rintro e w1 ⟨rfl, hb1⟩
  have b1 := thenBelow (((Below.refl _ w).alloc (Nat.le_refl _) _).alloc (by simp) _) hb1
  clear hb1
  go_wp2
  go_ret2
  exact ⟨rfl, b1⟩
set_option maxHeartbeats 1000000 in
theorem refCovers_walk (six r b1 b2 : Bool) (x y T : Nat) (n m : Int)
    (BT : Hid (∀ W : World, Calls Try.prog 39 #[.agg #[.bool six, .int .u64 (aH x), .int .u64 (aL x), .int .i64 n], .agg #[.bool six, .int .u64 (aH y), .int .u64 (aL y), .int .i64 m]] W fun e w' => e = .returned (.int .i64 0) ∧ Below W.heap.size W w'))
    (SP : Hid (∀ W : World, Calls Try.prog 21 #[.agg #[.bool six, .int .u64 (aH y), .int .u64 (aL y), .int .i64 m]] W fun e w' => e = .returned (.tuple #[.agg #[.bool six, .int .u64 (aH y), .int .u64 (aL y)], .agg #[.bool six, .int .u64 (aH T), .int .u64 (aL T)], .int .i64 0]) ∧ Below W.heap.size W w'))
    (I1 : Hid (∀ W : World, Calls Try.prog 37 #[.agg #[.bool six, .int .u64 (aH x), .int .u64 (aL x), .int .i64 n], .agg #[.bool six, .int .u64 (aH y), .int .u64 (aL y)]] W fun e w' => e = .returned (.bool b1) ∧ Below W.heap.size W w'))
    (I2 : Hid (∀ W : World, Calls Try.prog 37 #[.agg #[.bool six, .int .u64 (aH x), .int .u64 (aL x), .int .i64 n], .agg #[.bool six, .int .u64 (aH T), .int .u64 (aL T)]] W fun e w' => e = .returned (.bool b2) ∧ Below W.heap.size W w'))
    (HB : Hid ((r = true ∧ b1 = true ∧ b2 = true) ∨ (r = false ∧ b1 = false) ∨ (r = false ∧ b2 = false))) (w : World) :
    Calls Try.prog 19 #[.agg #[.bool six, .int .u64 (aH x), .int .u64 (aL x), .int .i64 n], .agg #[.bool six, .int .u64 (aH y), .int .u64 (aL y), .int .i64 m]] w fun e w' => e = .returned (.tuple #[.bool r, .int .i64 0]) ∧ Below w.heap.size w w' := by
  go_enter Try.func19, Try.ntmps19
  go_wp2_with fail
  refine (BT.out _).mono ?_
  rintro e w1 ⟨rfl, hb1⟩
  have b1 := thenBelow (show Below w.heap.size w _ from (by first | exact Below.refl _ _ | exact (Below.refl _ _).alloc (Nat.le_refl _) _ | exact ((Below.refl _ _).alloc (Nat.le_refl _) _).alloc (by simp) _ | exact (((Below.refl _ _).alloc (Nat.le_refl _) _).alloc (by simp) _).alloc (by simp; omega) _)) hb1
  have Gp := (PreAt.new (w) six (aH x) (aL x) n 26).via (by first | exact Below.refl _ _ | exact (Below.refl _ _).alloc (Nat.le_refl _) _ | exact ((Below.refl _ _).alloc (Nat.le_refl _) _).alloc (by simp) _ | exact (((Below.refl _ _).alloc (Nat.le_refl _) _).alloc (by simp) _).alloc (by simp; omega) _) hb1
  try simp only [World.size_alloc] at Gp
  have Fp := Lib.hid Gp
  clear Gp
  have Gq := (PreAt.new ((w.alloc (.cells #[.bool six, .int .u64 (aH x), .int .u64 (aL x), .int .i64 n] 26))) six (aH y) (aL y) m 26).via (by first | exact Below.refl _ _ | exact (Below.refl _ _).alloc (Nat.le_refl _) _ | exact ((Below.refl _ _).alloc (Nat.le_refl _) _).alloc (by simp) _ | exact (((Below.refl _ _).alloc (Nat.le_refl _) _).alloc (by simp) _).alloc (by simp; omega) _) hb1
  try simp only [World.size_alloc] at Gq
  have Fq := Lib.hid Gq
  clear Gq
  clear hb1
  obtain ⟨q_0, q_1, q_2, q_3, q_l⟩ := Fq.out
  have q_m := Nat.lt_succ_of_lt q_l
  try simp only [Nat.succ_eq_add_one, Nat.add_lt_add_iff_right] at q_m
  go_wp2_with fail
  refine (SP.out _).mono ?_
  rintro e w2 ⟨rfl, hb2⟩
  have b2 := thenBelow (thenBelow b1 (by first | exact Below.refl _ _ | exact (Below.refl _ _).alloc (Nat.le_refl _) _ | exact ((Below.refl _ _).alloc (Nat.le_refl _) _).alloc (by simp) _ | exact (((Below.refl _ _).alloc (Nat.le_refl _) _).alloc (by simp) _).alloc (by simp; omega) _)) hb2
  clear q_0 q_1 q_2 q_3 q_l q_m
  have Fp := Lib.hid (Fp.out.via (by first | exact Below.refl _ _ | exact (Below.refl _ _).alloc (Nat.le_refl _) _ | exact ((Below.refl _ _).alloc (Nat.le_refl _) _).alloc (by simp) _ | exact (((Below.refl _ _).alloc (Nat.le_refl _) _).alloc (by simp) _).alloc (by simp; omega) _) hb2)
  clear Fq
  clear hb2 b1
  obtain ⟨p_0, p_1, p_2, p_3, p_l⟩ := Fp.out
  have p_m := Nat.lt_succ_of_lt p_l
  try simp only [Nat.succ_eq_add_one, Nat.add_lt_add_iff_right] at p_m
  go_wp2_with fail
  refine (I1.out _).mono ?_
  rintro e w3 ⟨rfl, hb3⟩
  have b3 := thenBelow (thenBelow b2 (by first | exact Below.refl _ _ | exact (Below.refl _ _).alloc (Nat.le_refl _) _ | exact ((Below.refl _ _).alloc (Nat.le_refl _) _).alloc (by simp) _ | exact (((Below.refl _ _).alloc (Nat.le_refl _) _).alloc (by simp) _).alloc (by simp; omega) _)) hb3
  clear p_0 p_1 p_2 p_3 p_l p_m
  have Fp := Lib.hid (Fp.out.via (by first | exact Below.refl _ _ | exact (Below.refl _ _).alloc (Nat.le_refl _) _ | exact ((Below.refl _ _).alloc (Nat.le_refl _) _).alloc (by simp) _ | exact (((Below.refl _ _).alloc (Nat.le_refl _) _).alloc (by simp) _).alloc (by simp; omega) _) hb3)
  have Ga := (AddrAt.new (w2) six (aH y) (aL y) 24).via (by first | exact Below.refl _ _ | exact (Below.refl _ _).alloc (Nat.le_refl _) _ | exact ((Below.refl _ _).alloc (Nat.le_refl _) _).alloc (by simp) _ | exact (((Below.refl _ _).alloc (Nat.le_refl _) _).alloc (by simp) _).alloc (by simp; omega) _) hb3
  try simp only [World.size_alloc] at Ga
  have Fa := Lib.hid Ga
  clear Ga
  have Gb := (AddrAt.new ((w2.alloc (.cells #[.bool six, .int .u64 (aH y), .int .u64 (aL y)] 24))) six (aH T) (aL T) 24).via (by first | exact Below.refl _ _ | exact (Below.refl _ _).alloc (Nat.le_refl _) _ | exact ((Below.refl _ _).alloc (Nat.le_refl _) _).alloc (by simp) _ | exact (((Below.refl _ _).alloc (Nat.le_refl _) _).alloc (by simp) _).alloc (by simp; omega) _) hb3
  try simp only [World.size_alloc] at Gb
  have Fb := Lib.hid Gb
  clear Gb
  clear hb3 b2
  obtain ⟨p_0, p_1, p_2, p_3, p_l⟩ := Fp.out
  have p_m := Nat.lt_succ_of_lt p_l
  try simp only [Nat.succ_eq_add_one, Nat.add_lt_add_iff_right] at p_m
  obtain ⟨b_0, b_1, b_2, b_l⟩ := Fb.out
  have b_m := Nat.lt_succ_of_lt b_l
  try simp only [Nat.succ_eq_add_one, Nat.add_lt_add_iff_right] at b_m
  rcases HB.out with ⟨rfl, rfl, rfl⟩ | ⟨rfl, rfl⟩ | ⟨rfl, rfl⟩
  · go_wp2_with fail
    refine (I2.out _).mono ?_
    rintro e w4 ⟨rfl, hb4⟩
    go_wp2
    go_ret2
    exact ⟨rfl, thenBelow b3 hb4⟩
  · go_wp2
    go_ret2
    exact ⟨rfl, b3⟩
  · cases b1
    · go_wp2
      go_ret2
      exact ⟨rfl, b3⟩
    · go_wp2_with fail
      refine (I2.out _).mono ?_
      rintro e w4 ⟨rfl, hb4⟩
      go_wp2
      go_ret2
      exact ⟨rfl, thenBelow b3 hb4⟩

theorem lowN_top' (x j k : Nat) (h : j ≤ k) : lowN (topN x j) k = lowN x k := by
  refine Nat.eq_of_testBit_eq fun i => ?_
  rw [lowN_testBit, lowN_testBit, topN_testBit]
  by_cases hk : k ≤ i
  · rw [decide_eq_false (show ¬ i < j by omega)]; simp
  · simp [hk]
/-- Does the first cover the second? -/
def covD (six : Bool) (x n y m : Nat) : Bool := decide (n ≤ m) && decide (lowN y (wideN six - n) = x)
theorem refCovers_ok (six : Bool) (x y n m : Nat) (hx : x < 2 ^ wideN six) (hy : y < 2 ^ wideN six) (hn : n ≤ wideN six) (hm : m ≤ wideN six) (hl : lowN x (wideN six - n) = x) (hk : lowN y (wideN six - m) = y) (hb : bothE six x n six y m = 0) (w : World) :
    Calls Try.prog 19 #[.agg #[.bool six, .int .u64 (aH x), .int .u64 (aL x), .int .i64 n], .agg #[.bool six, .int .u64 (aH y), .int .u64 (aL y), .int .i64 m]] w fun e w' => e = .returned (.tuple #[.bool (covD six x n y m), .int .i64 0]) ∧ Below w.heap.size w w' := by
  have bt := fun W : World => refBoth_calls six six x y n m (lt128 hx) (lt128 hy) W
  rw [hb] at bt
  have hT : topN y (wideN six - m) < 2 ^ wideN six := topN_lt _ _ _ hy (by omega)
  have sp := fun W : World => refSpan_ok six y m _ hy hm (chk_mk six y m hy hm hk) rfl W
  refine refCovers_walk six _ _ _ x y _ n m (Lib.hid bt) (Lib.hid sp) (Lib.hid (fun W => refIn_calls six x y n _ hx hy hn rfl W)) (Lib.hid (fun W => refIn_calls six x _ n _ hx hT hn rfl W)) (Lib.hid ?_) w
  rw [hl]
  by_cases h : n ≤ m
  · rw [lowN_top' _ _ _ (show wideN six - m ≤ wideN six - n by omega)]
    simp only [covD, h, decide_true, Bool.true_and]
    cases decide (lowN y (wideN six - n) = x) <;> simp
  · have e0 : covD six x n y m = false := by simp [covD, h]
    rw [e0]
    by_cases h1 : lowN y (wideN six - n) = x
    · refine .inr (.inr ⟨rfl, decide_eq_false fun h2 => ?_⟩)
      have hs := h1.trans h2.symm
      have hc := congrArg (fun z => fB six z m) hs
      simp only [fB_low six _ n m hn (by omega), decide_eq_true (show m < n by omega), Bool.true_and] at hc
      rw [fB_top six y m m hm (by omega), decide_eq_true (Nat.le_refl m), Bool.true_or] at hc
      have := (low_bits six y m hy hm).1 hk m (Nat.le_refl _) (by omega)
      rw [this] at hc; cases hc
    · exact .inr (.inl ⟨rfl, decide_eq_false h1⟩)
theorem covers_ok' (six : Bool) (x y n m : Nat) (hx : x < 2 ^ 128) (hy : y < 2 ^ 128) (hb : bothE six x n six y m = 0) (hn : n ≤ wideN six) (w : World) :
    Calls Try.prog 18 #[.agg #[.bool six, .int .u64 (aH x), .int .u64 (aL x), .int .i64 n], .agg #[.bool six, .int .u64 (aH y), .int .u64 (aL y), .int .i64 m]] w fun e w' => e = .returned (.tuple #[.bool (covD six x n y m), .int .i64 0]) ∧ Below w.heap.size w w' := by
  by_cases hm : n ≤ m
  · exact covers_short six x y n m _ _ hx hy hb hn hm rfl (by simp [covD, hm]) w
  · rw [show covD six x n y m = false from by simp [covD, hm]]
    exact covers_long six x y n m hx hy hb hn (by omega) w
end Go.Proofs.Ythlkofbdfjpfpaa
