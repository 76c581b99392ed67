/-
  PROVED: whipcordkeep.PreNested returns true for all arguments, and they read afterwards as they read before. No condition.
-/
import Derived.Test.YthlkofbdfjpfpaaRows
import Derived.Test.YthlkofbdfjpfpaaPreN
import Derived.Test.YthlkofbdfjpfpaaShapesRaw
namespace Go.Proofs.Ythlkofbdfjpfpaa
open Go.ChangeShapes Go.WideShapes Go.ChangeAt Go.RowKit Go.Joins
set_option linter.unusedVariables false
set_option linter.unusedSimpArgs false

set_option maxHeartbeats 4000000 in
set_option maxRecDepth 100000 in
theorem Nested.same (six s2 : Bool) (rh rl n0 qh ql m0 : Int) (x n : Nat)
    (O1 : Hid (∀ W : World, Calls Try.prog 26 #[.agg #[.bool six, .int .u64 rh, .int .u64 rl], .int .i64 n0] W fun e w' => e = .returned (.agg #[.bool six, .int .u64 (aH x), .int .u64 (aL x), .int .i64 n]) ∧ Below W.heap.size W w'))
    (O2 : Hid (∀ W : World, Calls Try.prog 26 #[.agg #[.bool six, .int .u64 qh, .int .u64 ql], .int .i64 m0] W fun e w' => e = .returned (.agg #[.bool six, .int .u64 (aH x), .int .u64 (aL x), .int .i64 n]) ∧ Below W.heap.size W w'))
    (V1 : Hid (∀ W : World, Calls Try.prog 18 #[.agg #[.bool six, .int .u64 (aH x), .int .u64 (aL x), .int .i64 n], .agg #[.bool six, .int .u64 (aH x), .int .u64 (aL x), .int .i64 n]] W fun e w' => e = .returned (.tuple #[.bool true, .int .i64 0]) ∧ Below W.heap.size W w'))
    (V2 : Hid (∀ W : World, Calls Try.prog 18 #[.agg #[.bool six, .int .u64 (aH x), .int .u64 (aL x), .int .i64 n], .agg #[.bool six, .int .u64 (aH x), .int .u64 (aL x), .int .i64 n]] W fun e w' => e = .returned (.tuple #[.bool true, .int .i64 0]) ∧ Below W.heap.size W w'))
    (C1 : Hid (∀ W : World, Calls Try.prog 24 #[.agg #[.bool six, .int .u64 (aH x), .int .u64 (aL x), .int .i64 n], .agg #[.bool six, .int .u64 (aH x), .int .u64 (aL x), .int .i64 n]] W fun e w' => e = .returned (.tuple #[.agg #[.bool six, .int .u64 (aH x), .int .u64 (aL x), .int .i64 n], .int .i64 0]) ∧ Below W.heap.size W w'))
    (V3 : Hid (∀ W : World, Calls Try.prog 18 #[.agg #[.bool six, .int .u64 (aH x), .int .u64 (aL x), .int .i64 n], .agg #[.bool six, .int .u64 (aH x), .int .u64 (aL x), .int .i64 n]] W fun e w' => e = .returned (.tuple #[.bool true, .int .i64 0]) ∧ Below W.heap.size W w'))
    (V4 : Hid (∀ W : World, Calls Try.prog 18 #[.agg #[.bool six, .int .u64 (aH x), .int .u64 (aL x), .int .i64 n], .agg #[.bool six, .int .u64 (aH x), .int .u64 (aL x), .int .i64 n]] W fun e w' => e = .returned (.tuple #[.bool true, .int .i64 0]) ∧ Below W.heap.size W w'))
    (H1 : Hid (∀ W : World, Calls Try.prog 16 #[.agg #[.bool six, .int .u64 (aH x), .int .u64 (aL x), .int .i64 n], .agg #[.bool six, .int .u64 (aH x), .int .u64 (aL x)]] W fun e w' => e = .returned (.tuple #[.bool true, .int .i64 0]) ∧ Below W.heap.size W w'))
    (H2 : Hid (∀ W : World, Calls Try.prog 16 #[.agg #[.bool six, .int .u64 (aH x), .int .u64 (aL x), .int .i64 n], .agg #[.bool six, .int .u64 (aH x), .int .u64 (aL x)]] W fun e w' => e = .returned (.tuple #[.bool true, .int .i64 0]) ∧ Below W.heap.size W w')) (w : World) :
    Calls Try.prog 10 #[.agg #[.bool six, .int .u64 rh, .int .u64 rl], .int .i64 n0, .agg #[.bool s2, .int .u64 qh, .int .u64 ql], .int .i64 m0] w fun e w' => e = .returned (.bool true) ∧ Below w.heap.size w w' := by
  go_enter Try.func10, Try.ntmps10
  go_wp2_with fail
  refine (O1.out _).mono ?_
  rintro e w1 ⟨rfl, hb1⟩
  have b1 := thenBelow (show Below w.heap.size w _ from (by first | exact Below.refl _ _ | exact (Below.refl _ _).alloc (Nat.le_refl _) _ | exact ((Below.refl _ _).alloc (Nat.le_refl _) _).alloc (by simp) _ | exact (((Below.refl _ _).alloc (Nat.le_refl _) _).alloc (by simp) _).alloc (by simp; omega) _)) hb1
  have Gq := (AddrAt.new ((w.alloc (.cells #[.bool six, .int .u64 rh, .int .u64 rl] 41))) six qh ql 41).via (by first | exact Below.refl _ _ | exact (Below.refl _ _).alloc (Nat.le_refl _) _ | exact ((Below.refl _ _).alloc (Nat.le_refl _) _).alloc (by simp) _ | exact (((Below.refl _ _).alloc (Nat.le_refl _) _).alloc (by simp) _).alloc (by simp; omega) _) hb1
  try simp only [World.size_alloc] at Gq
  have Fq := Lib.hid Gq
  clear Gq
  clear hb1
  obtain ⟨q_0, q_1, q_2, q_l⟩ := Fq.out
  have q_m := Nat.lt_succ_of_lt q_l
  try simp only [Nat.succ_eq_add_one, Nat.add_lt_add_iff_right] at q_m
  go_wp2_with fail
  refine (O2.out _).mono ?_
  rintro e w2 ⟨rfl, hb2⟩
  have b2 := thenBelow (thenBelow b1 (by first | exact Below.refl _ _ | exact (Below.refl _ _).alloc (Nat.le_refl _) _ | exact ((Below.refl _ _).alloc (Nat.le_refl _) _).alloc (by simp) _ | exact (((Below.refl _ _).alloc (Nat.le_refl _) _).alloc (by simp) _).alloc (by simp; omega) _)) hb2
  clear q_0 q_1 q_2 q_l q_m
  clear Fq
  have Gp := (PreAt.new (w1) six (aH x) (aL x) n 26).via (by first | exact Below.refl _ _ | exact (Below.refl _ _).alloc (Nat.le_refl _) _ | exact ((Below.refl _ _).alloc (Nat.le_refl _) _).alloc (by simp) _ | exact (((Below.refl _ _).alloc (Nat.le_refl _) _).alloc (by simp) _).alloc (by simp; omega) _) hb2
  try simp only [World.size_alloc] at Gp
  have Fp := Lib.hid Gp
  clear Gp
  clear hb2 b1
  obtain ⟨p_0, p_1, p_2, p_3, p_l⟩ := Fp.out
  have p_m := Nat.lt_succ_of_lt p_l
  try simp only [Nat.succ_eq_add_one, Nat.add_lt_add_iff_right] at p_m
  go_wp2_with fail
  refine (V1.out _).mono ?_
  rintro e w3 ⟨rfl, hb3⟩
  have b3 := thenBelow (thenBelow b2 (by first | exact Below.refl _ _ | exact (Below.refl _ _).alloc (Nat.le_refl _) _ | exact ((Below.refl _ _).alloc (Nat.le_refl _) _).alloc (by simp) _ | exact (((Below.refl _ _).alloc (Nat.le_refl _) _).alloc (by simp) _).alloc (by simp; omega) _)) hb3
  clear p_0 p_1 p_2 p_3 p_l p_m
  have Fp := Lib.hid (Fp.out.via (by first | exact Below.refl _ _ | exact (Below.refl _ _).alloc (Nat.le_refl _) _ | exact ((Below.refl _ _).alloc (Nat.le_refl _) _).alloc (by simp) _ | exact (((Below.refl _ _).alloc (Nat.le_refl _) _).alloc (by simp) _).alloc (by simp; omega) _) hb3)
  have Go := (PreAt.new (w2) six (aH x) (aL x) n 26).via (by first | exact Below.refl _ _ | exact (Below.refl _ _).alloc (Nat.le_refl _) _ | exact ((Below.refl _ _).alloc (Nat.le_refl _) _).alloc (by simp) _ | exact (((Below.refl _ _).alloc (Nat.le_refl _) _).alloc (by simp) _).alloc (by simp; omega) _) hb3
  try simp only [World.size_alloc] at Go
  have Fo := Lib.hid Go
  clear Go
  clear hb3 b2
  obtain ⟨p_0, p_1, p_2, p_3, p_l⟩ := Fp.out
  have p_m := Nat.lt_succ_of_lt p_l
  try simp only [Nat.succ_eq_add_one, Nat.add_lt_add_iff_right] at p_m
  obtain ⟨o_0, o_1, o_2, o_3, o_l⟩ := Fo.out
  have o_m := Nat.lt_succ_of_lt o_l
  try simp only [Nat.succ_eq_add_one, Nat.add_lt_add_iff_right] at o_m
  go_wp2_with fail
  refine (V2.out _).mono ?_
  rintro e w4 ⟨rfl, hb4⟩
  have b4 := thenBelow (thenBelow b3 (by first | exact Below.refl _ _ | exact (Below.refl _ _).alloc (Nat.le_refl _) _ | exact ((Below.refl _ _).alloc (Nat.le_refl _) _).alloc (by simp) _ | exact (((Below.refl _ _).alloc (Nat.le_refl _) _).alloc (by simp) _).alloc (by simp; omega) _)) hb4
  clear p_0 p_1 p_2 p_3 p_l p_m o_0 o_1 o_2 o_3 o_l o_m
  have Fp := Lib.hid (Fp.out.via (by first | exact Below.refl _ _ | exact (Below.refl _ _).alloc (Nat.le_refl _) _ | exact ((Below.refl _ _).alloc (Nat.le_refl _) _).alloc (by simp) _ | exact (((Below.refl _ _).alloc (Nat.le_refl _) _).alloc (by simp) _).alloc (by simp; omega) _) hb4)
  have Fo := Lib.hid (Fo.out.via (by first | exact Below.refl _ _ | exact (Below.refl _ _).alloc (Nat.le_refl _) _ | exact ((Below.refl _ _).alloc (Nat.le_refl _) _).alloc (by simp) _ | exact (((Below.refl _ _).alloc (Nat.le_refl _) _).alloc (by simp) _).alloc (by simp; omega) _) hb4)
  clear hb4 b3
  obtain ⟨p_0, p_1, p_2, p_3, p_l⟩ := Fp.out
  have p_m := Nat.lt_succ_of_lt p_l
  try simp only [Nat.succ_eq_add_one, Nat.add_lt_add_iff_right] at p_m
  obtain ⟨o_0, o_1, o_2, o_3, o_l⟩ := Fo.out
  have o_m := Nat.lt_succ_of_lt o_l
  try simp only [Nat.succ_eq_add_one, Nat.add_lt_add_iff_right] at o_m
  go_wp2_with fail
  refine (C1.out _).mono ?_
  rintro e w5 ⟨rfl, hb5⟩
  have b5 := thenBelow (thenBelow b4 (by first | exact Below.refl _ _ | exact (Below.refl _ _).alloc (Nat.le_refl _) _ | exact ((Below.refl _ _).alloc (Nat.le_refl _) _).alloc (by simp) _ | exact (((Below.refl _ _).alloc (Nat.le_refl _) _).alloc (by simp) _).alloc (by simp; omega) _)) hb5
  clear p_0 p_1 p_2 p_3 p_l p_m o_0 o_1 o_2 o_3 o_l o_m
  have Fp := Lib.hid (Fp.out.via (by first | exact Below.refl _ _ | exact (Below.refl _ _).alloc (Nat.le_refl _) _ | exact ((Below.refl _ _).alloc (Nat.le_refl _) _).alloc (by simp) _ | exact (((Below.refl _ _).alloc (Nat.le_refl _) _).alloc (by simp) _).alloc (by simp; omega) _) hb5)
  have Fo := Lib.hid (Fo.out.via (by first | exact Below.refl _ _ | exact (Below.refl _ _).alloc (Nat.le_refl _) _ | exact ((Below.refl _ _).alloc (Nat.le_refl _) _).alloc (by simp) _ | exact (((Below.refl _ _).alloc (Nat.le_refl _) _).alloc (by simp) _).alloc (by simp; omega) _) hb5)
  clear hb5 b4
  obtain ⟨p_0, p_1, p_2, p_3, p_l⟩ := Fp.out
  have p_m := Nat.lt_succ_of_lt p_l
  try simp only [Nat.succ_eq_add_one, Nat.add_lt_add_iff_right] at p_m
  go_wp2_with fail
  refine (V3.out _).mono ?_
  rintro e w6 ⟨rfl, hb6⟩
  have b6 := thenBelow (thenBelow b5 (by first | exact Below.refl _ _ | exact (Below.refl _ _).alloc (Nat.le_refl _) _ | exact ((Below.refl _ _).alloc (Nat.le_refl _) _).alloc (by simp) _ | exact (((Below.refl _ _).alloc (Nat.le_refl _) _).alloc (by simp) _).alloc (by simp; omega) _)) hb6
  clear p_0 p_1 p_2 p_3 p_l p_m
  have Fp := Lib.hid (Fp.out.via (by first | exact Below.refl _ _ | exact (Below.refl _ _).alloc (Nat.le_refl _) _ | exact ((Below.refl _ _).alloc (Nat.le_refl _) _).alloc (by simp) _ | exact (((Below.refl _ _).alloc (Nat.le_refl _) _).alloc (by simp) _).alloc (by simp; omega) _) hb6)
  have Fo := Lib.hid (Fo.out.via (by first | exact Below.refl _ _ | exact (Below.refl _ _).alloc (Nat.le_refl _) _ | exact ((Below.refl _ _).alloc (Nat.le_refl _) _).alloc (by simp) _ | exact (((Below.refl _ _).alloc (Nat.le_refl _) _).alloc (by simp) _).alloc (by simp; omega) _) hb6)
  have Gc := (PreAt.new (w5) six (aH x) (aL x) n 26).via (by first | exact Below.refl _ _ | exact (Below.refl _ _).alloc (Nat.le_refl _) _ | exact ((Below.refl _ _).alloc (Nat.le_refl _) _).alloc (by simp) _ | exact (((Below.refl _ _).alloc (Nat.le_refl _) _).alloc (by simp) _).alloc (by simp; omega) _) hb6
  try simp only [World.size_alloc] at Gc
  have Fc := Lib.hid Gc
  clear Gc
  clear hb6 b5
  obtain ⟨c_0, c_1, c_2, c_3, c_l⟩ := Fc.out
  have c_m := Nat.lt_succ_of_lt c_l
  try simp only [Nat.succ_eq_add_one, Nat.add_lt_add_iff_right] at c_m
  obtain ⟨o_0, o_1, o_2, o_3, o_l⟩ := Fo.out
  have o_m := Nat.lt_succ_of_lt o_l
  try simp only [Nat.succ_eq_add_one, Nat.add_lt_add_iff_right] at o_m
  go_wp2_with fail
  refine (V4.out _).mono ?_
  rintro e w7 ⟨rfl, hb7⟩
  have b7 := thenBelow (thenBelow b6 (by first | exact Below.refl _ _ | exact (Below.refl _ _).alloc (Nat.le_refl _) _ | exact ((Below.refl _ _).alloc (Nat.le_refl _) _).alloc (by simp) _ | exact (((Below.refl _ _).alloc (Nat.le_refl _) _).alloc (by simp) _).alloc (by simp; omega) _)) hb7
  clear c_0 c_1 c_2 c_3 c_l c_m o_0 o_1 o_2 o_3 o_l o_m
  have Fp := Lib.hid (Fp.out.via (by first | exact Below.refl _ _ | exact (Below.refl _ _).alloc (Nat.le_refl _) _ | exact ((Below.refl _ _).alloc (Nat.le_refl _) _).alloc (by simp) _ | exact (((Below.refl _ _).alloc (Nat.le_refl _) _).alloc (by simp) _).alloc (by simp; omega) _) hb7)
  have Fo := Lib.hid (Fo.out.via (by first | exact Below.refl _ _ | exact (Below.refl _ _).alloc (Nat.le_refl _) _ | exact ((Below.refl _ _).alloc (Nat.le_refl _) _).alloc (by simp) _ | exact (((Below.refl _ _).alloc (Nat.le_refl _) _).alloc (by simp) _).alloc (by simp; omega) _) hb7)
  have Fc := Lib.hid (Fc.out.via (by first | exact Below.refl _ _ | exact (Below.refl _ _).alloc (Nat.le_refl _) _ | exact ((Below.refl _ _).alloc (Nat.le_refl _) _).alloc (by simp) _ | exact (((Below.refl _ _).alloc (Nat.le_refl _) _).alloc (by simp) _).alloc (by simp; omega) _) hb7)
  clear hb7 b6
  obtain ⟨p_0, p_1, p_2, p_3, p_l⟩ := Fp.out
  have p_m := Nat.lt_succ_of_lt p_l
  try simp only [Nat.succ_eq_add_one, Nat.add_lt_add_iff_right] at p_m
  obtain ⟨o_0, o_1, o_2, o_3, o_l⟩ := Fo.out
  have o_m := Nat.lt_succ_of_lt o_l
  try simp only [Nat.succ_eq_add_one, Nat.add_lt_add_iff_right] at o_m
  go_wp2_with fail
  refine (H1.out _).mono ?_
  rintro e w8 ⟨rfl, hb8⟩
  have b8 := thenBelow (thenBelow b7 (by first | exact Below.refl _ _ | exact (Below.refl _ _).alloc (Nat.le_refl _) _ | exact ((Below.refl _ _).alloc (Nat.le_refl _) _).alloc (by simp) _ | exact (((Below.refl _ _).alloc (Nat.le_refl _) _).alloc (by simp) _).alloc (by simp; omega) _)) hb8
  clear p_0 p_1 p_2 p_3 p_l p_m o_0 o_1 o_2 o_3 o_l o_m
  have Fp := Lib.hid (Fp.out.via (by first | exact Below.refl _ _ | exact (Below.refl _ _).alloc (Nat.le_refl _) _ | exact ((Below.refl _ _).alloc (Nat.le_refl _) _).alloc (by simp) _ | exact (((Below.refl _ _).alloc (Nat.le_refl _) _).alloc (by simp) _).alloc (by simp; omega) _) hb8)
  have Fo := Lib.hid (Fo.out.via (by first | exact Below.refl _ _ | exact (Below.refl _ _).alloc (Nat.le_refl _) _ | exact ((Below.refl _ _).alloc (Nat.le_refl _) _).alloc (by simp) _ | exact (((Below.refl _ _).alloc (Nat.le_refl _) _).alloc (by simp) _).alloc (by simp; omega) _) hb8)
  have Fc := Lib.hid (Fc.out.via (by first | exact Below.refl _ _ | exact (Below.refl _ _).alloc (Nat.le_refl _) _ | exact ((Below.refl _ _).alloc (Nat.le_refl _) _).alloc (by simp) _ | exact (((Below.refl _ _).alloc (Nat.le_refl _) _).alloc (by simp) _).alloc (by simp; omega) _) hb8)
  clear hb8 b7
  obtain ⟨p_0, p_1, p_2, p_3, p_l⟩ := Fp.out
  have p_m := Nat.lt_succ_of_lt p_l
  try simp only [Nat.succ_eq_add_one, Nat.add_lt_add_iff_right] at p_m
  obtain ⟨o_0, o_1, o_2, o_3, o_l⟩ := Fo.out
  have o_m := Nat.lt_succ_of_lt o_l
  try simp only [Nat.succ_eq_add_one, Nat.add_lt_add_iff_right] at o_m
  go_wp2_with fail
  refine (H2.out _).mono ?_
  rintro e w9 ⟨rfl, hb9⟩
  have b9 := thenBelow (thenBelow b8 (by first | exact Below.refl _ _ | exact (Below.refl _ _).alloc (Nat.le_refl _) _ | exact ((Below.refl _ _).alloc (Nat.le_refl _) _).alloc (by simp) _ | exact (((Below.refl _ _).alloc (Nat.le_refl _) _).alloc (by simp) _).alloc (by simp; omega) _)) hb9
  clear p_0 p_1 p_2 p_3 p_l p_m o_0 o_1 o_2 o_3 o_l o_m
  have Fp := Lib.hid (Fp.out.via (by first | exact Below.refl _ _ | exact (Below.refl _ _).alloc (Nat.le_refl _) _ | exact ((Below.refl _ _).alloc (Nat.le_refl _) _).alloc (by simp) _ | exact (((Below.refl _ _).alloc (Nat.le_refl _) _).alloc (by simp) _).alloc (by simp; omega) _) hb9)
  have Fo := Lib.hid (Fo.out.via (by first | exact Below.refl _ _ | exact (Below.refl _ _).alloc (Nat.le_refl _) _ | exact ((Below.refl _ _).alloc (Nat.le_refl _) _).alloc (by simp) _ | exact (((Below.refl _ _).alloc (Nat.le_refl _) _).alloc (by simp) _).alloc (by simp; omega) _) hb9)
  have Fc := Lib.hid (Fc.out.via (by first | exact Below.refl _ _ | exact (Below.refl _ _).alloc (Nat.le_refl _) _ | exact ((Below.refl _ _).alloc (Nat.le_refl _) _).alloc (by simp) _ | exact (((Below.refl _ _).alloc (Nat.le_refl _) _).alloc (by simp) _).alloc (by simp; omega) _) hb9)
  clear hb9 b8
  go_wp2_with fail
  refine (preSure_calls _).mono ?_
  rintro e w10 ⟨rfl, hb10⟩
  have b10 := thenBelow (thenBelow b9 (by first | exact Below.refl _ _ | exact (Below.refl _ _).alloc (Nat.le_refl _) _ | exact ((Below.refl _ _).alloc (Nat.le_refl _) _).alloc (by simp) _ | exact (((Below.refl _ _).alloc (Nat.le_refl _) _).alloc (by simp) _).alloc (by simp; omega) _)) hb10
  have Fp := Lib.hid (Fp.out.via (by first | exact Below.refl _ _ | exact (Below.refl _ _).alloc (Nat.le_refl _) _ | exact ((Below.refl _ _).alloc (Nat.le_refl _) _).alloc (by simp) _ | exact (((Below.refl _ _).alloc (Nat.le_refl _) _).alloc (by simp) _).alloc (by simp; omega) _) hb10)
  have Fo := Lib.hid (Fo.out.via (by first | exact Below.refl _ _ | exact (Below.refl _ _).alloc (Nat.le_refl _) _ | exact ((Below.refl _ _).alloc (Nat.le_refl _) _).alloc (by simp) _ | exact (((Below.refl _ _).alloc (Nat.le_refl _) _).alloc (by simp) _).alloc (by simp; omega) _) hb10)
  have Fc := Lib.hid (Fc.out.via (by first | exact Below.refl _ _ | exact (Below.refl _ _).alloc (Nat.le_refl _) _ | exact ((Below.refl _ _).alloc (Nat.le_refl _) _).alloc (by simp) _ | exact (((Below.refl _ _).alloc (Nat.le_refl _) _).alloc (by simp) _).alloc (by simp; omega) _) hb10)
  clear hb10 b9
  obtain ⟨p_0, p_1, p_2, p_3, p_l⟩ := Fp.out
  have p_m := Nat.lt_succ_of_lt p_l
  try simp only [Nat.succ_eq_add_one, Nat.add_lt_add_iff_right] at p_m
  obtain ⟨o_0, o_1, o_2, o_3, o_l⟩ := Fo.out
  have o_m := Nat.lt_succ_of_lt o_l
  try simp only [Nat.succ_eq_add_one, Nat.add_lt_add_iff_right] at o_m
  obtain ⟨c_0, c_1, c_2, c_3, c_l⟩ := Fc.out
  have c_m := Nat.lt_succ_of_lt c_l
  try simp only [Nat.succ_eq_add_one, Nat.add_lt_add_iff_right] at c_m
  go_wp2
  go_ret
  exact ⟨rfl, (thenBelow b10 (by first | exact Below.refl _ _ | exact (Below.refl _ _).alloc (Nat.le_refl _) _ | exact ((Below.refl _ _).alloc (Nat.le_refl _) _).alloc (by simp) _ | exact (((Below.refl _ _).alloc (Nat.le_refl _) _).alloc (by simp) _).alloc (by simp; omega) _))⟩

set_option maxHeartbeats 4000000 in
set_option maxRecDepth 100000 in
theorem Nested.first (six s2 : Bool) (rh rl n0 qh ql m0 : Int) (bb : Bool) (x n y m : Nat) (hnm' : n < m)
    (O1 : Hid (∀ W : World, Calls Try.prog 26 #[.agg #[.bool six, .int .u64 rh, .int .u64 rl], .int .i64 n0] W fun e w' => e = .returned (.agg #[.bool six, .int .u64 (aH x), .int .u64 (aL x), .int .i64 n]) ∧ Below W.heap.size W w'))
    (O2 : Hid (∀ W : World, Calls Try.prog 26 #[.agg #[.bool six, .int .u64 qh, .int .u64 ql], .int .i64 m0] W fun e w' => e = .returned (.agg #[.bool six, .int .u64 (aH y), .int .u64 (aL y), .int .i64 m]) ∧ Below W.heap.size W w'))
    (V1 : Hid (∀ W : World, Calls Try.prog 18 #[.agg #[.bool six, .int .u64 (aH x), .int .u64 (aL x), .int .i64 n], .agg #[.bool six, .int .u64 (aH y), .int .u64 (aL y), .int .i64 m]] W fun e w' => e = .returned (.tuple #[.bool true, .int .i64 0]) ∧ Below W.heap.size W w'))
    (V2 : Hid (∀ W : World, Calls Try.prog 18 #[.agg #[.bool six, .int .u64 (aH y), .int .u64 (aL y), .int .i64 m], .agg #[.bool six, .int .u64 (aH x), .int .u64 (aL x), .int .i64 n]] W fun e w' => e = .returned (.tuple #[.bool false, .int .i64 0]) ∧ Below W.heap.size W w'))
    (C1 : Hid (∀ W : World, Calls Try.prog 24 #[.agg #[.bool six, .int .u64 (aH x), .int .u64 (aL x), .int .i64 n], .agg #[.bool six, .int .u64 (aH y), .int .u64 (aL y), .int .i64 m]] W fun e w' => e = .returned (.tuple #[.agg #[.bool six, .int .u64 (aH x), .int .u64 (aL x), .int .i64 n], .int .i64 0]) ∧ Below W.heap.size W w'))
    (V3 : Hid (∀ W : World, Calls Try.prog 18 #[.agg #[.bool six, .int .u64 (aH x), .int .u64 (aL x), .int .i64 n], .agg #[.bool six, .int .u64 (aH x), .int .u64 (aL x), .int .i64 n]] W fun e w' => e = .returned (.tuple #[.bool true, .int .i64 0]) ∧ Below W.heap.size W w'))
    (V4 : Hid (∀ W : World, Calls Try.prog 18 #[.agg #[.bool six, .int .u64 (aH x), .int .u64 (aL x), .int .i64 n], .agg #[.bool six, .int .u64 (aH y), .int .u64 (aL y), .int .i64 m]] W fun e w' => e = .returned (.tuple #[.bool true, .int .i64 0]) ∧ Below W.heap.size W w'))
    (H1 : Hid (∀ W : World, Calls Try.prog 16 #[.agg #[.bool six, .int .u64 (aH x), .int .u64 (aL x), .int .i64 n], .agg #[.bool six, .int .u64 (aH y), .int .u64 (aL y)]] W fun e w' => e = .returned (.tuple #[.bool true, .int .i64 0]) ∧ Below W.heap.size W w'))
    (H2 : Hid (∀ W : World, Calls Try.prog 16 #[.agg #[.bool six, .int .u64 (aH y), .int .u64 (aL y), .int .i64 m], .agg #[.bool six, .int .u64 (aH x), .int .u64 (aL x)]] W fun e w' => e = .returned (.tuple #[.bool bb, .int .i64 0]) ∧ Below W.heap.size W w')) (w : World) :
    Calls Try.prog 10 #[.agg #[.bool six, .int .u64 rh, .int .u64 rl], .int .i64 n0, .agg #[.bool s2, .int .u64 qh, .int .u64 ql], .int .i64 m0] w fun e w' => e = .returned (.bool true) ∧ Below w.heap.size w w' := by
  go_enter Try.func10, Try.ntmps10
  go_wp2_with fail
  refine (O1.out _).mono ?_
  rintro e w1 ⟨rfl, hb1⟩
  have b1 := thenBelow (show Below w.heap.size w _ from (by first | exact Below.refl _ _ | exact (Below.refl _ _).alloc (Nat.le_refl _) _ | exact ((Below.refl _ _).alloc (Nat.le_refl _) _).alloc (by simp) _ | exact (((Below.refl _ _).alloc (Nat.le_refl _) _).alloc (by simp) _).alloc (by simp; omega) _)) hb1
  have Gq := (AddrAt.new ((w.alloc (.cells #[.bool six, .int .u64 rh, .int .u64 rl] 41))) six qh ql 41).via (by first | exact Below.refl _ _ | exact (Below.refl _ _).alloc (Nat.le_refl _) _ | exact ((Below.refl _ _).alloc (Nat.le_refl _) _).alloc (by simp) _ | exact (((Below.refl _ _).alloc (Nat.le_refl _) _).alloc (by simp) _).alloc (by simp; omega) _) hb1
  try simp only [World.size_alloc] at Gq
  have Fq := Lib.hid Gq
  clear Gq
  clear hb1
  obtain ⟨q_0, q_1, q_2, q_l⟩ := Fq.out
  have q_m := Nat.lt_succ_of_lt q_l
  try simp only [Nat.succ_eq_add_one, Nat.add_lt_add_iff_right] at q_m
  go_wp2_with fail
  refine (O2.out _).mono ?_
  rintro e w2 ⟨rfl, hb2⟩
  have b2 := thenBelow (thenBelow b1 (by first | exact Below.refl _ _ | exact (Below.refl _ _).alloc (Nat.le_refl _) _ | exact ((Below.refl _ _).alloc (Nat.le_refl _) _).alloc (by simp) _ | exact (((Below.refl _ _).alloc (Nat.le_refl _) _).alloc (by simp) _).alloc (by simp; omega) _)) hb2
  clear q_0 q_1 q_2 q_l q_m
  clear Fq
  have Gp := (PreAt.new (w1) six (aH x) (aL x) n 26).via (by first | exact Below.refl _ _ | exact (Below.refl _ _).alloc (Nat.le_refl _) _ | exact ((Below.refl _ _).alloc (Nat.le_refl _) _).alloc (by simp) _ | exact (((Below.refl _ _).alloc (Nat.le_refl _) _).alloc (by simp) _).alloc (by simp; omega) _) hb2
  try simp only [World.size_alloc] at Gp
  have Fp := Lib.hid Gp
  clear Gp
  clear hb2 b1
  obtain ⟨p_0, p_1, p_2, p_3, p_l⟩ := Fp.out
  have p_m := Nat.lt_succ_of_lt p_l
  try simp only [Nat.succ_eq_add_one, Nat.add_lt_add_iff_right] at p_m
  go_wp2_with fail
  refine (V1.out _).mono ?_
  rintro e w3 ⟨rfl, hb3⟩
  have b3 := thenBelow (thenBelow b2 (by first | exact Below.refl _ _ | exact (Below.refl _ _).alloc (Nat.le_refl _) _ | exact ((Below.refl _ _).alloc (Nat.le_refl _) _).alloc (by simp) _ | exact (((Below.refl _ _).alloc (Nat.le_refl _) _).alloc (by simp) _).alloc (by simp; omega) _)) hb3
  clear p_0 p_1 p_2 p_3 p_l p_m
  have Fp := Lib.hid (Fp.out.via (by first | exact Below.refl _ _ | exact (Below.refl _ _).alloc (Nat.le_refl _) _ | exact ((Below.refl _ _).alloc (Nat.le_refl _) _).alloc (by simp) _ | exact (((Below.refl _ _).alloc (Nat.le_refl _) _).alloc (by simp) _).alloc (by simp; omega) _) hb3)
  have Go := (PreAt.new (w2) six (aH y) (aL y) m 26).via (by first | exact Below.refl _ _ | exact (Below.refl _ _).alloc (Nat.le_refl _) _ | exact ((Below.refl _ _).alloc (Nat.le_refl _) _).alloc (by simp) _ | exact (((Below.refl _ _).alloc (Nat.le_refl _) _).alloc (by simp) _).alloc (by simp; omega) _) hb3
  try simp only [World.size_alloc] at Go
  have Fo := Lib.hid Go
  clear Go
  clear hb3 b2
  obtain ⟨p_0, p_1, p_2, p_3, p_l⟩ := Fp.out
  have p_m := Nat.lt_succ_of_lt p_l
  try simp only [Nat.succ_eq_add_one, Nat.add_lt_add_iff_right] at p_m
  obtain ⟨o_0, o_1, o_2, o_3, o_l⟩ := Fo.out
  have o_m := Nat.lt_succ_of_lt o_l
  try simp only [Nat.succ_eq_add_one, Nat.add_lt_add_iff_right] at o_m
  go_wp2_with fail
  refine (V2.out _).mono ?_
  rintro e w4 ⟨rfl, hb4⟩
  have b4 := thenBelow (thenBelow b3 (by first | exact Below.refl _ _ | exact (Below.refl _ _).alloc (Nat.le_refl _) _ | exact ((Below.refl _ _).alloc (Nat.le_refl _) _).alloc (by simp) _ | exact (((Below.refl _ _).alloc (Nat.le_refl _) _).alloc (by simp) _).alloc (by simp; omega) _)) hb4
  clear p_0 p_1 p_2 p_3 p_l p_m o_0 o_1 o_2 o_3 o_l o_m
  have Fp := Lib.hid (Fp.out.via (by first | exact Below.refl _ _ | exact (Below.refl _ _).alloc (Nat.le_refl _) _ | exact ((Below.refl _ _).alloc (Nat.le_refl _) _).alloc (by simp) _ | exact (((Below.refl _ _).alloc (Nat.le_refl _) _).alloc (by simp) _).alloc (by simp; omega) _) hb4)
  have Fo := Lib.hid (Fo.out.via (by first | exact Below.refl _ _ | exact (Below.refl _ _).alloc (Nat.le_refl _) _ | exact ((Below.refl _ _).alloc (Nat.le_refl _) _).alloc (by simp) _ | exact (((Below.refl _ _).alloc (Nat.le_refl _) _).alloc (by simp) _).alloc (by simp; omega) _) hb4)
  clear hb4 b3
  obtain ⟨p_0, p_1, p_2, p_3, p_l⟩ := Fp.out
  have p_m := Nat.lt_succ_of_lt p_l
  try simp only [Nat.succ_eq_add_one, Nat.add_lt_add_iff_right] at p_m
  obtain ⟨o_0, o_1, o_2, o_3, o_l⟩ := Fo.out
  have o_m := Nat.lt_succ_of_lt o_l
  try simp only [Nat.succ_eq_add_one, Nat.add_lt_add_iff_right] at o_m
  go_wp2_with fail
  refine (C1.out _).mono ?_
  rintro e w5 ⟨rfl, hb5⟩
  have b5 := thenBelow (thenBelow b4 (by first | exact Below.refl _ _ | exact (Below.refl _ _).alloc (Nat.le_refl _) _ | exact ((Below.refl _ _).alloc (Nat.le_refl _) _).alloc (by simp) _ | exact (((Below.refl _ _).alloc (Nat.le_refl _) _).alloc (by simp) _).alloc (by simp; omega) _)) hb5
  clear p_0 p_1 p_2 p_3 p_l p_m o_0 o_1 o_2 o_3 o_l o_m
  have Fp := Lib.hid (Fp.out.via (by first | exact Below.refl _ _ | exact (Below.refl _ _).alloc (Nat.le_refl _) _ | exact ((Below.refl _ _).alloc (Nat.le_refl _) _).alloc (by simp) _ | exact (((Below.refl _ _).alloc (Nat.le_refl _) _).alloc (by simp) _).alloc (by simp; omega) _) hb5)
  have Fo := Lib.hid (Fo.out.via (by first | exact Below.refl _ _ | exact (Below.refl _ _).alloc (Nat.le_refl _) _ | exact ((Below.refl _ _).alloc (Nat.le_refl _) _).alloc (by simp) _ | exact (((Below.refl _ _).alloc (Nat.le_refl _) _).alloc (by simp) _).alloc (by simp; omega) _) hb5)
  clear hb5 b4
  obtain ⟨p_0, p_1, p_2, p_3, p_l⟩ := Fp.out
  have p_m := Nat.lt_succ_of_lt p_l
  try simp only [Nat.succ_eq_add_one, Nat.add_lt_add_iff_right] at p_m
  go_wp2_with fail
  refine (V3.out _).mono ?_
  rintro e w6 ⟨rfl, hb6⟩
  have b6 := thenBelow (thenBelow b5 (by first | exact Below.refl _ _ | exact (Below.refl _ _).alloc (Nat.le_refl _) _ | exact ((Below.refl _ _).alloc (Nat.le_refl _) _).alloc (by simp) _ | exact (((Below.refl _ _).alloc (Nat.le_refl _) _).alloc (by simp) _).alloc (by simp; omega) _)) hb6
  clear p_0 p_1 p_2 p_3 p_l p_m
  have Fp := Lib.hid (Fp.out.via (by first | exact Below.refl _ _ | exact (Below.refl _ _).alloc (Nat.le_refl _) _ | exact ((Below.refl _ _).alloc (Nat.le_refl _) _).alloc (by simp) _ | exact (((Below.refl _ _).alloc (Nat.le_refl _) _).alloc (by simp) _).alloc (by simp; omega) _) hb6)
  have Fo := Lib.hid (Fo.out.via (by first | exact Below.refl _ _ | exact (Below.refl _ _).alloc (Nat.le_refl _) _ | exact ((Below.refl _ _).alloc (Nat.le_refl _) _).alloc (by simp) _ | exact (((Below.refl _ _).alloc (Nat.le_refl _) _).alloc (by simp) _).alloc (by simp; omega) _) hb6)
  have Gc := (PreAt.new (w5) six (aH x) (aL x) n 26).via (by first | exact Below.refl _ _ | exact (Below.refl _ _).alloc (Nat.le_refl _) _ | exact ((Below.refl _ _).alloc (Nat.le_refl _) _).alloc (by simp) _ | exact (((Below.refl _ _).alloc (Nat.le_refl _) _).alloc (by simp) _).alloc (by simp; omega) _) hb6
  try simp only [World.size_alloc] at Gc
  have Fc := Lib.hid Gc
  clear Gc
  clear hb6 b5
  obtain ⟨c_0, c_1, c_2, c_3, c_l⟩ := Fc.out
  have c_m := Nat.lt_succ_of_lt c_l
  try simp only [Nat.succ_eq_add_one, Nat.add_lt_add_iff_right] at c_m
  obtain ⟨o_0, o_1, o_2, o_3, o_l⟩ := Fo.out
  have o_m := Nat.lt_succ_of_lt o_l
  try simp only [Nat.succ_eq_add_one, Nat.add_lt_add_iff_right] at o_m
  go_wp2_with fail
  refine (V4.out _).mono ?_
  rintro e w7 ⟨rfl, hb7⟩
  have b7 := thenBelow (thenBelow b6 (by first | exact Below.refl _ _ | exact (Below.refl _ _).alloc (Nat.le_refl _) _ | exact ((Below.refl _ _).alloc (Nat.le_refl _) _).alloc (by simp) _ | exact (((Below.refl _ _).alloc (Nat.le_refl _) _).alloc (by simp) _).alloc (by simp; omega) _)) hb7
  clear c_0 c_1 c_2 c_3 c_l c_m o_0 o_1 o_2 o_3 o_l o_m
  have Fp := Lib.hid (Fp.out.via (by first | exact Below.refl _ _ | exact (Below.refl _ _).alloc (Nat.le_refl _) _ | exact ((Below.refl _ _).alloc (Nat.le_refl _) _).alloc (by simp) _ | exact (((Below.refl _ _).alloc (Nat.le_refl _) _).alloc (by simp) _).alloc (by simp; omega) _) hb7)
  have Fo := Lib.hid (Fo.out.via (by first | exact Below.refl _ _ | exact (Below.refl _ _).alloc (Nat.le_refl _) _ | exact ((Below.refl _ _).alloc (Nat.le_refl _) _).alloc (by simp) _ | exact (((Below.refl _ _).alloc (Nat.le_refl _) _).alloc (by simp) _).alloc (by simp; omega) _) hb7)
  have Fc := Lib.hid (Fc.out.via (by first | exact Below.refl _ _ | exact (Below.refl _ _).alloc (Nat.le_refl _) _ | exact ((Below.refl _ _).alloc (Nat.le_refl _) _).alloc (by simp) _ | exact (((Below.refl _ _).alloc (Nat.le_refl _) _).alloc (by simp) _).alloc (by simp; omega) _) hb7)
  clear hb7 b6
  obtain ⟨p_0, p_1, p_2, p_3, p_l⟩ := Fp.out
  have p_m := Nat.lt_succ_of_lt p_l
  try simp only [Nat.succ_eq_add_one, Nat.add_lt_add_iff_right] at p_m
  obtain ⟨o_0, o_1, o_2, o_3, o_l⟩ := Fo.out
  have o_m := Nat.lt_succ_of_lt o_l
  try simp only [Nat.succ_eq_add_one, Nat.add_lt_add_iff_right] at o_m
  go_wp2_with fail
  refine (H1.out _).mono ?_
  rintro e w8 ⟨rfl, hb8⟩
  have b8 := thenBelow (thenBelow b7 (by first | exact Below.refl _ _ | exact (Below.refl _ _).alloc (Nat.le_refl _) _ | exact ((Below.refl _ _).alloc (Nat.le_refl _) _).alloc (by simp) _ | exact (((Below.refl _ _).alloc (Nat.le_refl _) _).alloc (by simp) _).alloc (by simp; omega) _)) hb8
  clear p_0 p_1 p_2 p_3 p_l p_m o_0 o_1 o_2 o_3 o_l o_m
  have Fp := Lib.hid (Fp.out.via (by first | exact Below.refl _ _ | exact (Below.refl _ _).alloc (Nat.le_refl _) _ | exact ((Below.refl _ _).alloc (Nat.le_refl _) _).alloc (by simp) _ | exact (((Below.refl _ _).alloc (Nat.le_refl _) _).alloc (by simp) _).alloc (by simp; omega) _) hb8)
  have Fo := Lib.hid (Fo.out.via (by first | exact Below.refl _ _ | exact (Below.refl _ _).alloc (Nat.le_refl _) _ | exact ((Below.refl _ _).alloc (Nat.le_refl _) _).alloc (by simp) _ | exact (((Below.refl _ _).alloc (Nat.le_refl _) _).alloc (by simp) _).alloc (by simp; omega) _) hb8)
  have Fc := Lib.hid (Fc.out.via (by first | exact Below.refl _ _ | exact (Below.refl _ _).alloc (Nat.le_refl _) _ | exact ((Below.refl _ _).alloc (Nat.le_refl _) _).alloc (by simp) _ | exact (((Below.refl _ _).alloc (Nat.le_refl _) _).alloc (by simp) _).alloc (by simp; omega) _) hb8)
  clear hb8 b7
  obtain ⟨p_0, p_1, p_2, p_3, p_l⟩ := Fp.out
  have p_m := Nat.lt_succ_of_lt p_l
  try simp only [Nat.succ_eq_add_one, Nat.add_lt_add_iff_right] at p_m
  obtain ⟨o_0, o_1, o_2, o_3, o_l⟩ := Fo.out
  have o_m := Nat.lt_succ_of_lt o_l
  try simp only [Nat.succ_eq_add_one, Nat.add_lt_add_iff_right] at o_m
  go_wp2_with fail
  refine (H2.out _).mono ?_
  rintro e w9 ⟨rfl, hb9⟩
  have b9 := thenBelow (thenBelow b8 (by first | exact Below.refl _ _ | exact (Below.refl _ _).alloc (Nat.le_refl _) _ | exact ((Below.refl _ _).alloc (Nat.le_refl _) _).alloc (by simp) _ | exact (((Below.refl _ _).alloc (Nat.le_refl _) _).alloc (by simp) _).alloc (by simp; omega) _)) hb9
  clear p_0 p_1 p_2 p_3 p_l p_m o_0 o_1 o_2 o_3 o_l o_m
  have Fp := Lib.hid (Fp.out.via (by first | exact Below.refl _ _ | exact (Below.refl _ _).alloc (Nat.le_refl _) _ | exact ((Below.refl _ _).alloc (Nat.le_refl _) _).alloc (by simp) _ | exact (((Below.refl _ _).alloc (Nat.le_refl _) _).alloc (by simp) _).alloc (by simp; omega) _) hb9)
  have Fo := Lib.hid (Fo.out.via (by first | exact Below.refl _ _ | exact (Below.refl _ _).alloc (Nat.le_refl _) _ | exact ((Below.refl _ _).alloc (Nat.le_refl _) _).alloc (by simp) _ | exact (((Below.refl _ _).alloc (Nat.le_refl _) _).alloc (by simp) _).alloc (by simp; omega) _) hb9)
  have Fc := Lib.hid (Fc.out.via (by first | exact Below.refl _ _ | exact (Below.refl _ _).alloc (Nat.le_refl _) _ | exact ((Below.refl _ _).alloc (Nat.le_refl _) _).alloc (by simp) _ | exact (((Below.refl _ _).alloc (Nat.le_refl _) _).alloc (by simp) _).alloc (by simp; omega) _) hb9)
  clear hb9 b8
  go_wp2_with fail
  refine (preSure_calls _).mono ?_
  rintro e w10 ⟨rfl, hb10⟩
  have b10 := thenBelow (thenBelow b9 (by first | exact Below.refl _ _ | exact (Below.refl _ _).alloc (Nat.le_refl _) _ | exact ((Below.refl _ _).alloc (Nat.le_refl _) _).alloc (by simp) _ | exact (((Below.refl _ _).alloc (Nat.le_refl _) _).alloc (by simp) _).alloc (by simp; omega) _)) hb10
  have Fp := Lib.hid (Fp.out.via (by first | exact Below.refl _ _ | exact (Below.refl _ _).alloc (Nat.le_refl _) _ | exact ((Below.refl _ _).alloc (Nat.le_refl _) _).alloc (by simp) _ | exact (((Below.refl _ _).alloc (Nat.le_refl _) _).alloc (by simp) _).alloc (by simp; omega) _) hb10)
  have Fo := Lib.hid (Fo.out.via (by first | exact Below.refl _ _ | exact (Below.refl _ _).alloc (Nat.le_refl _) _ | exact ((Below.refl _ _).alloc (Nat.le_refl _) _).alloc (by simp) _ | exact (((Below.refl _ _).alloc (Nat.le_refl _) _).alloc (by simp) _).alloc (by simp; omega) _) hb10)
  have Fc := Lib.hid (Fc.out.via (by first | exact Below.refl _ _ | exact (Below.refl _ _).alloc (Nat.le_refl _) _ | exact ((Below.refl _ _).alloc (Nat.le_refl _) _).alloc (by simp) _ | exact (((Below.refl _ _).alloc (Nat.le_refl _) _).alloc (by simp) _).alloc (by simp; omega) _) hb10)
  clear hb10 b9
  obtain ⟨p_0, p_1, p_2, p_3, p_l⟩ := Fp.out
  have p_m := Nat.lt_succ_of_lt p_l
  try simp only [Nat.succ_eq_add_one, Nat.add_lt_add_iff_right] at p_m
  obtain ⟨o_0, o_1, o_2, o_3, o_l⟩ := Fo.out
  have o_m := Nat.lt_succ_of_lt o_l
  try simp only [Nat.succ_eq_add_one, Nat.add_lt_add_iff_right] at o_m
  obtain ⟨c_0, c_1, c_2, c_3, c_l⟩ := Fc.out
  have c_m := Nat.lt_succ_of_lt c_l
  try simp only [Nat.succ_eq_add_one, Nat.add_lt_add_iff_right] at c_m
  have hnm : ((n : Int) == (m : Int)) = false := by simp; omega
  rcases eq3 x y with h | h | ⟨h1, h⟩
  · subst h
    go_wp2
    go_ret
    exact ⟨rfl, (thenBelow b10 (by first | exact Below.refl _ _ | exact (Below.refl _ _).alloc (Nat.le_refl _) _ | exact ((Below.refl _ _).alloc (Nat.le_refl _) _).alloc (by simp) _ | exact (((Below.refl _ _).alloc (Nat.le_refl _) _).alloc (by simp) _).alloc (by simp; omega) _))⟩
  · skip
    go_wp2
    go_ret
    exact ⟨rfl, (thenBelow b10 (by first | exact Below.refl _ _ | exact (Below.refl _ _).alloc (Nat.le_refl _) _ | exact ((Below.refl _ _).alloc (Nat.le_refl _) _).alloc (by simp) _ | exact (((Below.refl _ _).alloc (Nat.le_refl _) _).alloc (by simp) _).alloc (by simp; omega) _))⟩
  · rw [h1] at p_1 c_1
    have H1' := Lib.hid h1
    clear h1
    go_wp2
    go_ret
    exact ⟨rfl, (thenBelow b10 (by first | exact Below.refl _ _ | exact (Below.refl _ _).alloc (Nat.le_refl _) _ | exact ((Below.refl _ _).alloc (Nat.le_refl _) _).alloc (by simp) _ | exact (((Below.refl _ _).alloc (Nat.le_refl _) _).alloc (by simp) _).alloc (by simp; omega) _))⟩

set_option maxHeartbeats 4000000 in
set_option maxRecDepth 100000 in
theorem Nested.second (six s2 : Bool) (rh rl n0 qh ql m0 : Int) (ba : Bool) (x n y m : Nat)
    (O1 : Hid (∀ W : World, Calls Try.prog 26 #[.agg #[.bool six, .int .u64 rh, .int .u64 rl], .int .i64 n0] W fun e w' => e = .returned (.agg #[.bool six, .int .u64 (aH x), .int .u64 (aL x), .int .i64 n]) ∧ Below W.heap.size W w'))
    (O2 : Hid (∀ W : World, Calls Try.prog 26 #[.agg #[.bool six, .int .u64 qh, .int .u64 ql], .int .i64 m0] W fun e w' => e = .returned (.agg #[.bool six, .int .u64 (aH y), .int .u64 (aL y), .int .i64 m]) ∧ Below W.heap.size W w'))
    (V1 : Hid (∀ W : World, Calls Try.prog 18 #[.agg #[.bool six, .int .u64 (aH x), .int .u64 (aL x), .int .i64 n], .agg #[.bool six, .int .u64 (aH y), .int .u64 (aL y), .int .i64 m]] W fun e w' => e = .returned (.tuple #[.bool false, .int .i64 0]) ∧ Below W.heap.size W w'))
    (V2 : Hid (∀ W : World, Calls Try.prog 18 #[.agg #[.bool six, .int .u64 (aH y), .int .u64 (aL y), .int .i64 m], .agg #[.bool six, .int .u64 (aH x), .int .u64 (aL x), .int .i64 n]] W fun e w' => e = .returned (.tuple #[.bool true, .int .i64 0]) ∧ Below W.heap.size W w'))
    (C1 : Hid (∀ W : World, Calls Try.prog 24 #[.agg #[.bool six, .int .u64 (aH x), .int .u64 (aL x), .int .i64 n], .agg #[.bool six, .int .u64 (aH y), .int .u64 (aL y), .int .i64 m]] W fun e w' => e = .returned (.tuple #[.agg #[.bool six, .int .u64 (aH y), .int .u64 (aL y), .int .i64 m], .int .i64 0]) ∧ Below W.heap.size W w'))
    (V3 : Hid (∀ W : World, Calls Try.prog 18 #[.agg #[.bool six, .int .u64 (aH y), .int .u64 (aL y), .int .i64 m], .agg #[.bool six, .int .u64 (aH x), .int .u64 (aL x), .int .i64 n]] W fun e w' => e = .returned (.tuple #[.bool true, .int .i64 0]) ∧ Below W.heap.size W w'))
    (V4 : Hid (∀ W : World, Calls Try.prog 18 #[.agg #[.bool six, .int .u64 (aH y), .int .u64 (aL y), .int .i64 m], .agg #[.bool six, .int .u64 (aH y), .int .u64 (aL y), .int .i64 m]] W fun e w' => e = .returned (.tuple #[.bool true, .int .i64 0]) ∧ Below W.heap.size W w'))
    (H1 : Hid (∀ W : World, Calls Try.prog 16 #[.agg #[.bool six, .int .u64 (aH x), .int .u64 (aL x), .int .i64 n], .agg #[.bool six, .int .u64 (aH y), .int .u64 (aL y)]] W fun e w' => e = .returned (.tuple #[.bool ba, .int .i64 0]) ∧ Below W.heap.size W w'))
    (H2 : Hid (∀ W : World, Calls Try.prog 16 #[.agg #[.bool six, .int .u64 (aH y), .int .u64 (aL y), .int .i64 m], .agg #[.bool six, .int .u64 (aH x), .int .u64 (aL x)]] W fun e w' => e = .returned (.tuple #[.bool true, .int .i64 0]) ∧ Below W.heap.size W w')) (w : World) :
    Calls Try.prog 10 #[.agg #[.bool six, .int .u64 rh, .int .u64 rl], .int .i64 n0, .agg #[.bool s2, .int .u64 qh, .int .u64 ql], .int .i64 m0] w fun e w' => e = .returned (.bool true) ∧ Below w.heap.size w w' := by
  go_enter Try.func10, Try.ntmps10
  go_wp2_with fail
  refine (O1.out _).mono ?_
  rintro e w1 ⟨rfl, hb1⟩
  have b1 := thenBelow (show Below w.heap.size w _ from (by first | exact Below.refl _ _ | exact (Below.refl _ _).alloc (Nat.le_refl _) _ | exact ((Below.refl _ _).alloc (Nat.le_refl _) _).alloc (by simp) _ | exact (((Below.refl _ _).alloc (Nat.le_refl _) _).alloc (by simp) _).alloc (by simp; omega) _)) hb1
  have Gq := (AddrAt.new ((w.alloc (.cells #[.bool six, .int .u64 rh, .int .u64 rl] 41))) six qh ql 41).via (by first | exact Below.refl _ _ | exact (Below.refl _ _).alloc (Nat.le_refl _) _ | exact ((Below.refl _ _).alloc (Nat.le_refl _) _).alloc (by simp) _ | exact (((Below.refl _ _).alloc (Nat.le_refl _) _).alloc (by simp) _).alloc (by simp; omega) _) hb1
  try simp only [World.size_alloc] at Gq
  have Fq := Lib.hid Gq
  clear Gq
  clear hb1
  obtain ⟨q_0, q_1, q_2, q_l⟩ := Fq.out
  have q_m := Nat.lt_succ_of_lt q_l
  try simp only [Nat.succ_eq_add_one, Nat.add_lt_add_iff_right] at q_m
  go_wp2_with fail
  refine (O2.out _).mono ?_
  rintro e w2 ⟨rfl, hb2⟩
  have b2 := thenBelow (thenBelow b1 (by first | exact Below.refl _ _ | exact (Below.refl _ _).alloc (Nat.le_refl _) _ | exact ((Below.refl _ _).alloc (Nat.le_refl _) _).alloc (by simp) _ | exact (((Below.refl _ _).alloc (Nat.le_refl _) _).alloc (by simp) _).alloc (by simp; omega) _)) hb2
  clear q_0 q_1 q_2 q_l q_m
  clear Fq
  have Gp := (PreAt.new (w1) six (aH x) (aL x) n 26).via (by first | exact Below.refl _ _ | exact (Below.refl _ _).alloc (Nat.le_refl _) _ | exact ((Below.refl _ _).alloc (Nat.le_refl _) _).alloc (by simp) _ | exact (((Below.refl _ _).alloc (Nat.le_refl _) _).alloc (by simp) _).alloc (by simp; omega) _) hb2
  try simp only [World.size_alloc] at Gp
  have Fp := Lib.hid Gp
  clear Gp
  clear hb2 b1
  obtain ⟨p_0, p_1, p_2, p_3, p_l⟩ := Fp.out
  have p_m := Nat.lt_succ_of_lt p_l
  try simp only [Nat.succ_eq_add_one, Nat.add_lt_add_iff_right] at p_m
  go_wp2_with fail
  refine (V1.out _).mono ?_
  rintro e w3 ⟨rfl, hb3⟩
  have b3 := thenBelow (thenBelow b2 (by first | exact Below.refl _ _ | exact (Below.refl _ _).alloc (Nat.le_refl _) _ | exact ((Below.refl _ _).alloc (Nat.le_refl _) _).alloc (by simp) _ | exact (((Below.refl _ _).alloc (Nat.le_refl _) _).alloc (by simp) _).alloc (by simp; omega) _)) hb3
  clear p_0 p_1 p_2 p_3 p_l p_m
  have Fp := Lib.hid (Fp.out.via (by first | exact Below.refl _ _ | exact (Below.refl _ _).alloc (Nat.le_refl _) _ | exact ((Below.refl _ _).alloc (Nat.le_refl _) _).alloc (by simp) _ | exact (((Below.refl _ _).alloc (Nat.le_refl _) _).alloc (by simp) _).alloc (by simp; omega) _) hb3)
  have Go := (PreAt.new (w2) six (aH y) (aL y) m 26).via (by first | exact Below.refl _ _ | exact (Below.refl _ _).alloc (Nat.le_refl _) _ | exact ((Below.refl _ _).alloc (Nat.le_refl _) _).alloc (by simp) _ | exact (((Below.refl _ _).alloc (Nat.le_refl _) _).alloc (by simp) _).alloc (by simp; omega) _) hb3
  try simp only [World.size_alloc] at Go
  have Fo := Lib.hid Go
  clear Go
  clear hb3 b2
  obtain ⟨p_0, p_1, p_2, p_3, p_l⟩ := Fp.out
  have p_m := Nat.lt_succ_of_lt p_l
  try simp only [Nat.succ_eq_add_one, Nat.add_lt_add_iff_right] at p_m
  obtain ⟨o_0, o_1, o_2, o_3, o_l⟩ := Fo.out
  have o_m := Nat.lt_succ_of_lt o_l
  try simp only [Nat.succ_eq_add_one, Nat.add_lt_add_iff_right] at o_m
  go_wp2_with fail
  refine (V2.out _).mono ?_
  rintro e w4 ⟨rfl, hb4⟩
  have b4 := thenBelow (thenBelow b3 (by first | exact Below.refl _ _ | exact (Below.refl _ _).alloc (Nat.le_refl _) _ | exact ((Below.refl _ _).alloc (Nat.le_refl _) _).alloc (by simp) _ | exact (((Below.refl _ _).alloc (Nat.le_refl _) _).alloc (by simp) _).alloc (by simp; omega) _)) hb4
  clear p_0 p_1 p_2 p_3 p_l p_m o_0 o_1 o_2 o_3 o_l o_m
  have Fp := Lib.hid (Fp.out.via (by first | exact Below.refl _ _ | exact (Below.refl _ _).alloc (Nat.le_refl _) _ | exact ((Below.refl _ _).alloc (Nat.le_refl _) _).alloc (by simp) _ | exact (((Below.refl _ _).alloc (Nat.le_refl _) _).alloc (by simp) _).alloc (by simp; omega) _) hb4)
  have Fo := Lib.hid (Fo.out.via (by first | exact Below.refl _ _ | exact (Below.refl _ _).alloc (Nat.le_refl _) _ | exact ((Below.refl _ _).alloc (Nat.le_refl _) _).alloc (by simp) _ | exact (((Below.refl _ _).alloc (Nat.le_refl _) _).alloc (by simp) _).alloc (by simp; omega) _) hb4)
  clear hb4 b3
  obtain ⟨p_0, p_1, p_2, p_3, p_l⟩ := Fp.out
  have p_m := Nat.lt_succ_of_lt p_l
  try simp only [Nat.succ_eq_add_one, Nat.add_lt_add_iff_right] at p_m
  obtain ⟨o_0, o_1, o_2, o_3, o_l⟩ := Fo.out
  have o_m := Nat.lt_succ_of_lt o_l
  try simp only [Nat.succ_eq_add_one, Nat.add_lt_add_iff_right] at o_m
  go_wp2_with fail
  refine (C1.out _).mono ?_
  rintro e w5 ⟨rfl, hb5⟩
  have b5 := thenBelow (thenBelow b4 (by first | exact Below.refl _ _ | exact (Below.refl _ _).alloc (Nat.le_refl _) _ | exact ((Below.refl _ _).alloc (Nat.le_refl _) _).alloc (by simp) _ | exact (((Below.refl _ _).alloc (Nat.le_refl _) _).alloc (by simp) _).alloc (by simp; omega) _)) hb5
  clear p_0 p_1 p_2 p_3 p_l p_m o_0 o_1 o_2 o_3 o_l o_m
  have Fp := Lib.hid (Fp.out.via (by first | exact Below.refl _ _ | exact (Below.refl _ _).alloc (Nat.le_refl _) _ | exact ((Below.refl _ _).alloc (Nat.le_refl _) _).alloc (by simp) _ | exact (((Below.refl _ _).alloc (Nat.le_refl _) _).alloc (by simp) _).alloc (by simp; omega) _) hb5)
  have Fo := Lib.hid (Fo.out.via (by first | exact Below.refl _ _ | exact (Below.refl _ _).alloc (Nat.le_refl _) _ | exact ((Below.refl _ _).alloc (Nat.le_refl _) _).alloc (by simp) _ | exact (((Below.refl _ _).alloc (Nat.le_refl _) _).alloc (by simp) _).alloc (by simp; omega) _) hb5)
  clear hb5 b4
  obtain ⟨p_0, p_1, p_2, p_3, p_l⟩ := Fp.out
  have p_m := Nat.lt_succ_of_lt p_l
  try simp only [Nat.succ_eq_add_one, Nat.add_lt_add_iff_right] at p_m
  go_wp2_with fail
  refine (V3.out _).mono ?_
  rintro e w6 ⟨rfl, hb6⟩
  have b6 := thenBelow (thenBelow b5 (by first | exact Below.refl _ _ | exact (Below.refl _ _).alloc (Nat.le_refl _) _ | exact ((Below.refl _ _).alloc (Nat.le_refl _) _).alloc (by simp) _ | exact (((Below.refl _ _).alloc (Nat.le_refl _) _).alloc (by simp) _).alloc (by simp; omega) _)) hb6
  clear p_0 p_1 p_2 p_3 p_l p_m
  have Fp := Lib.hid (Fp.out.via (by first | exact Below.refl _ _ | exact (Below.refl _ _).alloc (Nat.le_refl _) _ | exact ((Below.refl _ _).alloc (Nat.le_refl _) _).alloc (by simp) _ | exact (((Below.refl _ _).alloc (Nat.le_refl _) _).alloc (by simp) _).alloc (by simp; omega) _) hb6)
  have Fo := Lib.hid (Fo.out.via (by first | exact Below.refl _ _ | exact (Below.refl _ _).alloc (Nat.le_refl _) _ | exact ((Below.refl _ _).alloc (Nat.le_refl _) _).alloc (by simp) _ | exact (((Below.refl _ _).alloc (Nat.le_refl _) _).alloc (by simp) _).alloc (by simp; omega) _) hb6)
  have Gc := (PreAt.new (w5) six (aH y) (aL y) m 26).via (by first | exact Below.refl _ _ | exact (Below.refl _ _).alloc (Nat.le_refl _) _ | exact ((Below.refl _ _).alloc (Nat.le_refl _) _).alloc (by simp) _ | exact (((Below.refl _ _).alloc (Nat.le_refl _) _).alloc (by simp) _).alloc (by simp; omega) _) hb6
  try simp only [World.size_alloc] at Gc
  have Fc := Lib.hid Gc
  clear Gc
  clear hb6 b5
  obtain ⟨c_0, c_1, c_2, c_3, c_l⟩ := Fc.out
  have c_m := Nat.lt_succ_of_lt c_l
  try simp only [Nat.succ_eq_add_one, Nat.add_lt_add_iff_right] at c_m
  obtain ⟨o_0, o_1, o_2, o_3, o_l⟩ := Fo.out
  have o_m := Nat.lt_succ_of_lt o_l
  try simp only [Nat.succ_eq_add_one, Nat.add_lt_add_iff_right] at o_m
  go_wp2_with fail
  refine (V4.out _).mono ?_
  rintro e w7 ⟨rfl, hb7⟩
  have b7 := thenBelow (thenBelow b6 (by first | exact Below.refl _ _ | exact (Below.refl _ _).alloc (Nat.le_refl _) _ | exact ((Below.refl _ _).alloc (Nat.le_refl _) _).alloc (by simp) _ | exact (((Below.refl _ _).alloc (Nat.le_refl _) _).alloc (by simp) _).alloc (by simp; omega) _)) hb7
  clear c_0 c_1 c_2 c_3 c_l c_m o_0 o_1 o_2 o_3 o_l o_m
  have Fp := Lib.hid (Fp.out.via (by first | exact Below.refl _ _ | exact (Below.refl _ _).alloc (Nat.le_refl _) _ | exact ((Below.refl _ _).alloc (Nat.le_refl _) _).alloc (by simp) _ | exact (((Below.refl _ _).alloc (Nat.le_refl _) _).alloc (by simp) _).alloc (by simp; omega) _) hb7)
  have Fo := Lib.hid (Fo.out.via (by first | exact Below.refl _ _ | exact (Below.refl _ _).alloc (Nat.le_refl _) _ | exact ((Below.refl _ _).alloc (Nat.le_refl _) _).alloc (by simp) _ | exact (((Below.refl _ _).alloc (Nat.le_refl _) _).alloc (by simp) _).alloc (by simp; omega) _) hb7)
  have Fc := Lib.hid (Fc.out.via (by first | exact Below.refl _ _ | exact (Below.refl _ _).alloc (Nat.le_refl _) _ | exact ((Below.refl _ _).alloc (Nat.le_refl _) _).alloc (by simp) _ | exact (((Below.refl _ _).alloc (Nat.le_refl _) _).alloc (by simp) _).alloc (by simp; omega) _) hb7)
  clear hb7 b6
  obtain ⟨p_0, p_1, p_2, p_3, p_l⟩ := Fp.out
  have p_m := Nat.lt_succ_of_lt p_l
  try simp only [Nat.succ_eq_add_one, Nat.add_lt_add_iff_right] at p_m
  obtain ⟨o_0, o_1, o_2, o_3, o_l⟩ := Fo.out
  have o_m := Nat.lt_succ_of_lt o_l
  try simp only [Nat.succ_eq_add_one, Nat.add_lt_add_iff_right] at o_m
  go_wp2_with fail
  refine (H1.out _).mono ?_
  rintro e w8 ⟨rfl, hb8⟩
  have b8 := thenBelow (thenBelow b7 (by first | exact Below.refl _ _ | exact (Below.refl _ _).alloc (Nat.le_refl _) _ | exact ((Below.refl _ _).alloc (Nat.le_refl _) _).alloc (by simp) _ | exact (((Below.refl _ _).alloc (Nat.le_refl _) _).alloc (by simp) _).alloc (by simp; omega) _)) hb8
  clear p_0 p_1 p_2 p_3 p_l p_m o_0 o_1 o_2 o_3 o_l o_m
  have Fp := Lib.hid (Fp.out.via (by first | exact Below.refl _ _ | exact (Below.refl _ _).alloc (Nat.le_refl _) _ | exact ((Below.refl _ _).alloc (Nat.le_refl _) _).alloc (by simp) _ | exact (((Below.refl _ _).alloc (Nat.le_refl _) _).alloc (by simp) _).alloc (by simp; omega) _) hb8)
  have Fo := Lib.hid (Fo.out.via (by first | exact Below.refl _ _ | exact (Below.refl _ _).alloc (Nat.le_refl _) _ | exact ((Below.refl _ _).alloc (Nat.le_refl _) _).alloc (by simp) _ | exact (((Below.refl _ _).alloc (Nat.le_refl _) _).alloc (by simp) _).alloc (by simp; omega) _) hb8)
  have Fc := Lib.hid (Fc.out.via (by first | exact Below.refl _ _ | exact (Below.refl _ _).alloc (Nat.le_refl _) _ | exact ((Below.refl _ _).alloc (Nat.le_refl _) _).alloc (by simp) _ | exact (((Below.refl _ _).alloc (Nat.le_refl _) _).alloc (by simp) _).alloc (by simp; omega) _) hb8)
  clear hb8 b7
  obtain ⟨p_0, p_1, p_2, p_3, p_l⟩ := Fp.out
  have p_m := Nat.lt_succ_of_lt p_l
  try simp only [Nat.succ_eq_add_one, Nat.add_lt_add_iff_right] at p_m
  obtain ⟨o_0, o_1, o_2, o_3, o_l⟩ := Fo.out
  have o_m := Nat.lt_succ_of_lt o_l
  try simp only [Nat.succ_eq_add_one, Nat.add_lt_add_iff_right] at o_m
  go_wp2_with fail
  refine (H2.out _).mono ?_
  rintro e w9 ⟨rfl, hb9⟩
  have b9 := thenBelow (thenBelow b8 (by first | exact Below.refl _ _ | exact (Below.refl _ _).alloc (Nat.le_refl _) _ | exact ((Below.refl _ _).alloc (Nat.le_refl _) _).alloc (by simp) _ | exact (((Below.refl _ _).alloc (Nat.le_refl _) _).alloc (by simp) _).alloc (by simp; omega) _)) hb9
  clear p_0 p_1 p_2 p_3 p_l p_m o_0 o_1 o_2 o_3 o_l o_m
  have Fp := Lib.hid (Fp.out.via (by first | exact Below.refl _ _ | exact (Below.refl _ _).alloc (Nat.le_refl _) _ | exact ((Below.refl _ _).alloc (Nat.le_refl _) _).alloc (by simp) _ | exact (((Below.refl _ _).alloc (Nat.le_refl _) _).alloc (by simp) _).alloc (by simp; omega) _) hb9)
  have Fo := Lib.hid (Fo.out.via (by first | exact Below.refl _ _ | exact (Below.refl _ _).alloc (Nat.le_refl _) _ | exact ((Below.refl _ _).alloc (Nat.le_refl _) _).alloc (by simp) _ | exact (((Below.refl _ _).alloc (Nat.le_refl _) _).alloc (by simp) _).alloc (by simp; omega) _) hb9)
  have Fc := Lib.hid (Fc.out.via (by first | exact Below.refl _ _ | exact (Below.refl _ _).alloc (Nat.le_refl _) _ | exact ((Below.refl _ _).alloc (Nat.le_refl _) _).alloc (by simp) _ | exact (((Below.refl _ _).alloc (Nat.le_refl _) _).alloc (by simp) _).alloc (by simp; omega) _) hb9)
  clear hb9 b8
  go_wp2_with fail
  refine (preSure_calls _).mono ?_
  rintro e w10 ⟨rfl, hb10⟩
  have b10 := thenBelow (thenBelow b9 (by first | exact Below.refl _ _ | exact (Below.refl _ _).alloc (Nat.le_refl _) _ | exact ((Below.refl _ _).alloc (Nat.le_refl _) _).alloc (by simp) _ | exact (((Below.refl _ _).alloc (Nat.le_refl _) _).alloc (by simp) _).alloc (by simp; omega) _)) hb10
  have Fp := Lib.hid (Fp.out.via (by first | exact Below.refl _ _ | exact (Below.refl _ _).alloc (Nat.le_refl _) _ | exact ((Below.refl _ _).alloc (Nat.le_refl _) _).alloc (by simp) _ | exact (((Below.refl _ _).alloc (Nat.le_refl _) _).alloc (by simp) _).alloc (by simp; omega) _) hb10)
  have Fo := Lib.hid (Fo.out.via (by first | exact Below.refl _ _ | exact (Below.refl _ _).alloc (Nat.le_refl _) _ | exact ((Below.refl _ _).alloc (Nat.le_refl _) _).alloc (by simp) _ | exact (((Below.refl _ _).alloc (Nat.le_refl _) _).alloc (by simp) _).alloc (by simp; omega) _) hb10)
  have Fc := Lib.hid (Fc.out.via (by first | exact Below.refl _ _ | exact (Below.refl _ _).alloc (Nat.le_refl _) _ | exact ((Below.refl _ _).alloc (Nat.le_refl _) _).alloc (by simp) _ | exact (((Below.refl _ _).alloc (Nat.le_refl _) _).alloc (by simp) _).alloc (by simp; omega) _) hb10)
  clear hb10 b9
  obtain ⟨p_0, p_1, p_2, p_3, p_l⟩ := Fp.out
  have p_m := Nat.lt_succ_of_lt p_l
  try simp only [Nat.succ_eq_add_one, Nat.add_lt_add_iff_right] at p_m
  obtain ⟨o_0, o_1, o_2, o_3, o_l⟩ := Fo.out
  have o_m := Nat.lt_succ_of_lt o_l
  try simp only [Nat.succ_eq_add_one, Nat.add_lt_add_iff_right] at o_m
  obtain ⟨c_0, c_1, c_2, c_3, c_l⟩ := Fc.out
  have c_m := Nat.lt_succ_of_lt c_l
  try simp only [Nat.succ_eq_add_one, Nat.add_lt_add_iff_right] at c_m
  cases ba
  · skip
    go_wp2
    go_ret
    exact ⟨rfl, (thenBelow b10 (by first | exact Below.refl _ _ | exact (Below.refl _ _).alloc (Nat.le_refl _) _ | exact ((Below.refl _ _).alloc (Nat.le_refl _) _).alloc (by simp) _ | exact (((Below.refl _ _).alloc (Nat.le_refl _) _).alloc (by simp) _).alloc (by simp; omega) _))⟩
  · skip
    go_wp2
    go_ret
    exact ⟨rfl, (thenBelow b10 (by first | exact Below.refl _ _ | exact (Below.refl _ _).alloc (Nat.le_refl _) _ | exact ((Below.refl _ _).alloc (Nat.le_refl _) _).alloc (by simp) _ | exact (((Below.refl _ _).alloc (Nat.le_refl _) _).alloc (by simp) _).alloc (by simp; omega) _))⟩

set_option maxHeartbeats 4000000 in
set_option maxRecDepth 100000 in
theorem Nested.apart (six s2 : Bool) (rh rl n0 qh ql m0 : Int) (bw : Bool) (x n y m u c c1 h2 : Nat)
    (O1 : Hid (∀ W : World, Calls Try.prog 26 #[.agg #[.bool six, .int .u64 rh, .int .u64 rl], .int .i64 n0] W fun e w' => e = .returned (.agg #[.bool six, .int .u64 (aH x), .int .u64 (aL x), .int .i64 n]) ∧ Below W.heap.size W w'))
    (O2 : Hid (∀ W : World, Calls Try.prog 26 #[.agg #[.bool six, .int .u64 qh, .int .u64 ql], .int .i64 m0] W fun e w' => e = .returned (.agg #[.bool six, .int .u64 (aH y), .int .u64 (aL y), .int .i64 m]) ∧ Below W.heap.size W w'))
    (V1 : Hid (∀ W : World, Calls Try.prog 18 #[.agg #[.bool six, .int .u64 (aH x), .int .u64 (aL x), .int .i64 n], .agg #[.bool six, .int .u64 (aH y), .int .u64 (aL y), .int .i64 m]] W fun e w' => e = .returned (.tuple #[.bool false, .int .i64 0]) ∧ Below W.heap.size W w'))
    (V2 : Hid (∀ W : World, Calls Try.prog 18 #[.agg #[.bool six, .int .u64 (aH y), .int .u64 (aL y), .int .i64 m], .agg #[.bool six, .int .u64 (aH x), .int .u64 (aL x), .int .i64 n]] W fun e w' => e = .returned (.tuple #[.bool false, .int .i64 0]) ∧ Below W.heap.size W w'))
    (C1 : Hid (∀ W : World, Calls Try.prog 24 #[.agg #[.bool six, .int .u64 (aH x), .int .u64 (aL x), .int .i64 n], .agg #[.bool six, .int .u64 (aH y), .int .u64 (aL y), .int .i64 m]] W fun e w' => e = .returned (.tuple #[.agg #[.bool six, .int .u64 (aH u), .int .u64 (aL u), .int .i64 c], .int .i64 0]) ∧ Below W.heap.size W w'))
    (V3 : Hid (∀ W : World, Calls Try.prog 18 #[.agg #[.bool six, .int .u64 (aH u), .int .u64 (aL u), .int .i64 c], .agg #[.bool six, .int .u64 (aH x), .int .u64 (aL x), .int .i64 n]] W fun e w' => e = .returned (.tuple #[.bool true, .int .i64 0]) ∧ Below W.heap.size W w'))
    (V4 : Hid (∀ W : World, Calls Try.prog 18 #[.agg #[.bool six, .int .u64 (aH u), .int .u64 (aL u), .int .i64 c], .agg #[.bool six, .int .u64 (aH y), .int .u64 (aL y), .int .i64 m]] W fun e w' => e = .returned (.tuple #[.bool true, .int .i64 0]) ∧ Below W.heap.size W w'))
    (H1 : Hid (∀ W : World, Calls Try.prog 16 #[.agg #[.bool six, .int .u64 (aH x), .int .u64 (aL x), .int .i64 n], .agg #[.bool six, .int .u64 (aH y), .int .u64 (aL y)]] W fun e w' => e = .returned (.tuple #[.bool false, .int .i64 0]) ∧ Below W.heap.size W w'))
    (H2 : Hid (∀ W : World, Calls Try.prog 16 #[.agg #[.bool six, .int .u64 (aH y), .int .u64 (aL y), .int .i64 m], .agg #[.bool six, .int .u64 (aH x), .int .u64 (aL x)]] W fun e w' => e = .returned (.tuple #[.bool false, .int .i64 0]) ∧ Below W.heap.size W w'))
    (HV : Hid (∀ W : World, Calls Try.prog 22 #[.agg #[.bool six, .int .u64 (aH u), .int .u64 (aL u), .int .i64 c]] W fun e w' => e = .returned (.tuple #[.agg #[.bool six, .int .u64 (aH u), .int .u64 (aL u), .int .i64 c1], .agg #[.bool six, .int .u64 (aH h2), .int .u64 (aL h2), .int .i64 c1], .int .i64 0]) ∧ Below W.heap.size W w'))
    (V5 : Hid (∀ W : World, Calls Try.prog 18 #[.agg #[.bool six, .int .u64 (aH u), .int .u64 (aL u), .int .i64 c1], .agg #[.bool six, .int .u64 (aH x), .int .u64 (aL x), .int .i64 n]] W fun e w' => e = .returned (.tuple #[.bool bw, .int .i64 0]) ∧ Below W.heap.size W w'))
    (V6 : Hid (∀ W : World, Calls Try.prog 18 #[.agg #[.bool six, .int .u64 (aH h2), .int .u64 (aL h2), .int .i64 c1], .agg #[.bool six, .int .u64 (aH y), .int .u64 (aL y), .int .i64 m]] W fun e w' => e = .returned (.tuple #[.bool bw, .int .i64 0]) ∧ Below W.heap.size W w')) (w : World) :
    Calls Try.prog 10 #[.agg #[.bool six, .int .u64 rh, .int .u64 rl], .int .i64 n0, .agg #[.bool s2, .int .u64 qh, .int .u64 ql], .int .i64 m0] w fun e w' => e = .returned (.bool true) ∧ Below w.heap.size w w' := by
  go_enter Try.func10, Try.ntmps10
  go_wp2_with fail
  refine (O1.out _).mono ?_
  rintro e w1 ⟨rfl, hb1⟩
  have b1 := thenBelow (show Below w.heap.size w _ from (by first | exact Below.refl _ _ | exact (Below.refl _ _).alloc (Nat.le_refl _) _ | exact ((Below.refl _ _).alloc (Nat.le_refl _) _).alloc (by simp) _ | exact (((Below.refl _ _).alloc (Nat.le_refl _) _).alloc (by simp) _).alloc (by simp; omega) _)) hb1
  have Gq := (AddrAt.new ((w.alloc (.cells #[.bool six, .int .u64 rh, .int .u64 rl] 41))) six qh ql 41).via (by first | exact Below.refl _ _ | exact (Below.refl _ _).alloc (Nat.le_refl _) _ | exact ((Below.refl _ _).alloc (Nat.le_refl _) _).alloc (by simp) _ | exact (((Below.refl _ _).alloc (Nat.le_refl _) _).alloc (by simp) _).alloc (by simp; omega) _) hb1
  try simp only [World.size_alloc] at Gq
  have Fq := Lib.hid Gq
  clear Gq
  clear hb1
  obtain ⟨q_0, q_1, q_2, q_l⟩ := Fq.out
  have q_m := Nat.lt_succ_of_lt q_l
  try simp only [Nat.succ_eq_add_one, Nat.add_lt_add_iff_right] at q_m
  go_wp2_with fail
  refine (O2.out _).mono ?_
  rintro e w2 ⟨rfl, hb2⟩
  have b2 := thenBelow (thenBelow b1 (by first | exact Below.refl _ _ | exact (Below.refl _ _).alloc (Nat.le_refl _) _ | exact ((Below.refl _ _).alloc (Nat.le_refl _) _).alloc (by simp) _ | exact (((Below.refl _ _).alloc (Nat.le_refl _) _).alloc (by simp) _).alloc (by simp; omega) _)) hb2
  clear q_0 q_1 q_2 q_l q_m
  clear Fq
  have Gp := (PreAt.new (w1) six (aH x) (aL x) n 26).via (by first | exact Below.refl _ _ | exact (Below.refl _ _).alloc (Nat.le_refl _) _ | exact ((Below.refl _ _).alloc (Nat.le_refl _) _).alloc (by simp) _ | exact (((Below.refl _ _).alloc (Nat.le_refl _) _).alloc (by simp) _).alloc (by simp; omega) _) hb2
  try simp only [World.size_alloc] at Gp
  have Fp := Lib.hid Gp
  clear Gp
  clear hb2 b1
  obtain ⟨p_0, p_1, p_2, p_3, p_l⟩ := Fp.out
  have p_m := Nat.lt_succ_of_lt p_l
  try simp only [Nat.succ_eq_add_one, Nat.add_lt_add_iff_right] at p_m
  go_wp2_with fail
  refine (V1.out _).mono ?_
  rintro e w3 ⟨rfl, hb3⟩
  have b3 := thenBelow (thenBelow b2 (by first | exact Below.refl _ _ | exact (Below.refl _ _).alloc (Nat.le_refl _) _ | exact ((Below.refl _ _).alloc (Nat.le_refl _) _).alloc (by simp) _ | exact (((Below.refl _ _).alloc (Nat.le_refl _) _).alloc (by simp) _).alloc (by simp; omega) _)) hb3
  clear p_0 p_1 p_2 p_3 p_l p_m
  have Fp := Lib.hid (Fp.out.via (by first | exact Below.refl _ _ | exact (Below.refl _ _).alloc (Nat.le_refl _) _ | exact ((Below.refl _ _).alloc (Nat.le_refl _) _).alloc (by simp) _ | exact (((Below.refl _ _).alloc (Nat.le_refl _) _).alloc (by simp) _).alloc (by simp; omega) _) hb3)
  have Go := (PreAt.new (w2) six (aH y) (aL y) m 26).via (by first | exact Below.refl _ _ | exact (Below.refl _ _).alloc (Nat.le_refl _) _ | exact ((Below.refl _ _).alloc (Nat.le_refl _) _).alloc (by simp) _ | exact (((Below.refl _ _).alloc (Nat.le_refl _) _).alloc (by simp) _).alloc (by simp; omega) _) hb3
  try simp only [World.size_alloc] at Go
  have Fo := Lib.hid Go
  clear Go
  clear hb3 b2
  obtain ⟨p_0, p_1, p_2, p_3, p_l⟩ := Fp.out
  have p_m := Nat.lt_succ_of_lt p_l
  try simp only [Nat.succ_eq_add_one, Nat.add_lt_add_iff_right] at p_m
  obtain ⟨o_0, o_1, o_2, o_3, o_l⟩ := Fo.out
  have o_m := Nat.lt_succ_of_lt o_l
  try simp only [Nat.succ_eq_add_one, Nat.add_lt_add_iff_right] at o_m
  go_wp2_with fail
  refine (V2.out _).mono ?_
  rintro e w4 ⟨rfl, hb4⟩
  have b4 := thenBelow (thenBelow b3 (by first | exact Below.refl _ _ | exact (Below.refl _ _).alloc (Nat.le_refl _) _ | exact ((Below.refl _ _).alloc (Nat.le_refl _) _).alloc (by simp) _ | exact (((Below.refl _ _).alloc (Nat.le_refl _) _).alloc (by simp) _).alloc (by simp; omega) _)) hb4
  clear p_0 p_1 p_2 p_3 p_l p_m o_0 o_1 o_2 o_3 o_l o_m
  have Fp := Lib.hid (Fp.out.via (by first | exact Below.refl _ _ | exact (Below.refl _ _).alloc (Nat.le_refl _) _ | exact ((Below.refl _ _).alloc (Nat.le_refl _) _).alloc (by simp) _ | exact (((Below.refl _ _).alloc (Nat.le_refl _) _).alloc (by simp) _).alloc (by simp; omega) _) hb4)
  have Fo := Lib.hid (Fo.out.via (by first | exact Below.refl _ _ | exact (Below.refl _ _).alloc (Nat.le_refl _) _ | exact ((Below.refl _ _).alloc (Nat.le_refl _) _).alloc (by simp) _ | exact (((Below.refl _ _).alloc (Nat.le_refl _) _).alloc (by simp) _).alloc (by simp; omega) _) hb4)
  clear hb4 b3
  obtain ⟨p_0, p_1, p_2, p_3, p_l⟩ := Fp.out
  have p_m := Nat.lt_succ_of_lt p_l
  try simp only [Nat.succ_eq_add_one, Nat.add_lt_add_iff_right] at p_m
  obtain ⟨o_0, o_1, o_2, o_3, o_l⟩ := Fo.out
  have o_m := Nat.lt_succ_of_lt o_l
  try simp only [Nat.succ_eq_add_one, Nat.add_lt_add_iff_right] at o_m
  go_wp2_with fail
  refine (C1.out _).mono ?_
  rintro e w5 ⟨rfl, hb5⟩
  have b5 := thenBelow (thenBelow b4 (by first | exact Below.refl _ _ | exact (Below.refl _ _).alloc (Nat.le_refl _) _ | exact ((Below.refl _ _).alloc (Nat.le_refl _) _).alloc (by simp) _ | exact (((Below.refl _ _).alloc (Nat.le_refl _) _).alloc (by simp) _).alloc (by simp; omega) _)) hb5
  clear p_0 p_1 p_2 p_3 p_l p_m o_0 o_1 o_2 o_3 o_l o_m
  have Fp := Lib.hid (Fp.out.via (by first | exact Below.refl _ _ | exact (Below.refl _ _).alloc (Nat.le_refl _) _ | exact ((Below.refl _ _).alloc (Nat.le_refl _) _).alloc (by simp) _ | exact (((Below.refl _ _).alloc (Nat.le_refl _) _).alloc (by simp) _).alloc (by simp; omega) _) hb5)
  have Fo := Lib.hid (Fo.out.via (by first | exact Below.refl _ _ | exact (Below.refl _ _).alloc (Nat.le_refl _) _ | exact ((Below.refl _ _).alloc (Nat.le_refl _) _).alloc (by simp) _ | exact (((Below.refl _ _).alloc (Nat.le_refl _) _).alloc (by simp) _).alloc (by simp; omega) _) hb5)
  clear hb5 b4
  obtain ⟨p_0, p_1, p_2, p_3, p_l⟩ := Fp.out
  have p_m := Nat.lt_succ_of_lt p_l
  try simp only [Nat.succ_eq_add_one, Nat.add_lt_add_iff_right] at p_m
  go_wp2_with fail
  refine (V3.out _).mono ?_
  rintro e w6 ⟨rfl, hb6⟩
  have b6 := thenBelow (thenBelow b5 (by first | exact Below.refl _ _ | exact (Below.refl _ _).alloc (Nat.le_refl _) _ | exact ((Below.refl _ _).alloc (Nat.le_refl _) _).alloc (by simp) _ | exact (((Below.refl _ _).alloc (Nat.le_refl _) _).alloc (by simp) _).alloc (by simp; omega) _)) hb6
  clear p_0 p_1 p_2 p_3 p_l p_m
  have Fp := Lib.hid (Fp.out.via (by first | exact Below.refl _ _ | exact (Below.refl _ _).alloc (Nat.le_refl _) _ | exact ((Below.refl _ _).alloc (Nat.le_refl _) _).alloc (by simp) _ | exact (((Below.refl _ _).alloc (Nat.le_refl _) _).alloc (by simp) _).alloc (by simp; omega) _) hb6)
  have Fo := Lib.hid (Fo.out.via (by first | exact Below.refl _ _ | exact (Below.refl _ _).alloc (Nat.le_refl _) _ | exact ((Below.refl _ _).alloc (Nat.le_refl _) _).alloc (by simp) _ | exact (((Below.refl _ _).alloc (Nat.le_refl _) _).alloc (by simp) _).alloc (by simp; omega) _) hb6)
  have Gc := (PreAt.new (w5) six (aH u) (aL u) c 26).via (by first | exact Below.refl _ _ | exact (Below.refl _ _).alloc (Nat.le_refl _) _ | exact ((Below.refl _ _).alloc (Nat.le_refl _) _).alloc (by simp) _ | exact (((Below.refl _ _).alloc (Nat.le_refl _) _).alloc (by simp) _).alloc (by simp; omega) _) hb6
  try simp only [World.size_alloc] at Gc
  have Fc := Lib.hid Gc
  clear Gc
  clear hb6 b5
  obtain ⟨c_0, c_1, c_2, c_3, c_l⟩ := Fc.out
  have c_m := Nat.lt_succ_of_lt c_l
  try simp only [Nat.succ_eq_add_one, Nat.add_lt_add_iff_right] at c_m
  obtain ⟨o_0, o_1, o_2, o_3, o_l⟩ := Fo.out
  have o_m := Nat.lt_succ_of_lt o_l
  try simp only [Nat.succ_eq_add_one, Nat.add_lt_add_iff_right] at o_m
  go_wp2_with fail
  refine (V4.out _).mono ?_
  rintro e w7 ⟨rfl, hb7⟩
  have b7 := thenBelow (thenBelow b6 (by first | exact Below.refl _ _ | exact (Below.refl _ _).alloc (Nat.le_refl _) _ | exact ((Below.refl _ _).alloc (Nat.le_refl _) _).alloc (by simp) _ | exact (((Below.refl _ _).alloc (Nat.le_refl _) _).alloc (by simp) _).alloc (by simp; omega) _)) hb7
  clear c_0 c_1 c_2 c_3 c_l c_m o_0 o_1 o_2 o_3 o_l o_m
  have Fp := Lib.hid (Fp.out.via (by first | exact Below.refl _ _ | exact (Below.refl _ _).alloc (Nat.le_refl _) _ | exact ((Below.refl _ _).alloc (Nat.le_refl _) _).alloc (by simp) _ | exact (((Below.refl _ _).alloc (Nat.le_refl _) _).alloc (by simp) _).alloc (by simp; omega) _) hb7)
  have Fo := Lib.hid (Fo.out.via (by first | exact Below.refl _ _ | exact (Below.refl _ _).alloc (Nat.le_refl _) _ | exact ((Below.refl _ _).alloc (Nat.le_refl _) _).alloc (by simp) _ | exact (((Below.refl _ _).alloc (Nat.le_refl _) _).alloc (by simp) _).alloc (by simp; omega) _) hb7)
  have Fc := Lib.hid (Fc.out.via (by first | exact Below.refl _ _ | exact (Below.refl _ _).alloc (Nat.le_refl _) _ | exact ((Below.refl _ _).alloc (Nat.le_refl _) _).alloc (by simp) _ | exact (((Below.refl _ _).alloc (Nat.le_refl _) _).alloc (by simp) _).alloc (by simp; omega) _) hb7)
  clear hb7 b6
  obtain ⟨p_0, p_1, p_2, p_3, p_l⟩ := Fp.out
  have p_m := Nat.lt_succ_of_lt p_l
  try simp only [Nat.succ_eq_add_one, Nat.add_lt_add_iff_right] at p_m
  obtain ⟨o_0, o_1, o_2, o_3, o_l⟩ := Fo.out
  have o_m := Nat.lt_succ_of_lt o_l
  try simp only [Nat.succ_eq_add_one, Nat.add_lt_add_iff_right] at o_m
  go_wp2_with fail
  refine (H1.out _).mono ?_
  rintro e w8 ⟨rfl, hb8⟩
  have b8 := thenBelow (thenBelow b7 (by first | exact Below.refl _ _ | exact (Below.refl _ _).alloc (Nat.le_refl _) _ | exact ((Below.refl _ _).alloc (Nat.le_refl _) _).alloc (by simp) _ | exact (((Below.refl _ _).alloc (Nat.le_refl _) _).alloc (by simp) _).alloc (by simp; omega) _)) hb8
  clear p_0 p_1 p_2 p_3 p_l p_m o_0 o_1 o_2 o_3 o_l o_m
  have Fp := Lib.hid (Fp.out.via (by first | exact Below.refl _ _ | exact (Below.refl _ _).alloc (Nat.le_refl _) _ | exact ((Below.refl _ _).alloc (Nat.le_refl _) _).alloc (by simp) _ | exact (((Below.refl _ _).alloc (Nat.le_refl _) _).alloc (by simp) _).alloc (by simp; omega) _) hb8)
  have Fo := Lib.hid (Fo.out.via (by first | exact Below.refl _ _ | exact (Below.refl _ _).alloc (Nat.le_refl _) _ | exact ((Below.refl _ _).alloc (Nat.le_refl _) _).alloc (by simp) _ | exact (((Below.refl _ _).alloc (Nat.le_refl _) _).alloc (by simp) _).alloc (by simp; omega) _) hb8)
  have Fc := Lib.hid (Fc.out.via (by first | exact Below.refl _ _ | exact (Below.refl _ _).alloc (Nat.le_refl _) _ | exact ((Below.refl _ _).alloc (Nat.le_refl _) _).alloc (by simp) _ | exact (((Below.refl _ _).alloc (Nat.le_refl _) _).alloc (by simp) _).alloc (by simp; omega) _) hb8)
  clear hb8 b7
  obtain ⟨p_0, p_1, p_2, p_3, p_l⟩ := Fp.out
  have p_m := Nat.lt_succ_of_lt p_l
  try simp only [Nat.succ_eq_add_one, Nat.add_lt_add_iff_right] at p_m
  obtain ⟨o_0, o_1, o_2, o_3, o_l⟩ := Fo.out
  have o_m := Nat.lt_succ_of_lt o_l
  try simp only [Nat.succ_eq_add_one, Nat.add_lt_add_iff_right] at o_m
  go_wp2_with fail
  refine (H2.out _).mono ?_
  rintro e w9 ⟨rfl, hb9⟩
  have b9 := thenBelow (thenBelow b8 (by first | exact Below.refl _ _ | exact (Below.refl _ _).alloc (Nat.le_refl _) _ | exact ((Below.refl _ _).alloc (Nat.le_refl _) _).alloc (by simp) _ | exact (((Below.refl _ _).alloc (Nat.le_refl _) _).alloc (by simp) _).alloc (by simp; omega) _)) hb9
  clear p_0 p_1 p_2 p_3 p_l p_m o_0 o_1 o_2 o_3 o_l o_m
  have Fp := Lib.hid (Fp.out.via (by first | exact Below.refl _ _ | exact (Below.refl _ _).alloc (Nat.le_refl _) _ | exact ((Below.refl _ _).alloc (Nat.le_refl _) _).alloc (by simp) _ | exact (((Below.refl _ _).alloc (Nat.le_refl _) _).alloc (by simp) _).alloc (by simp; omega) _) hb9)
  have Fo := Lib.hid (Fo.out.via (by first | exact Below.refl _ _ | exact (Below.refl _ _).alloc (Nat.le_refl _) _ | exact ((Below.refl _ _).alloc (Nat.le_refl _) _).alloc (by simp) _ | exact (((Below.refl _ _).alloc (Nat.le_refl _) _).alloc (by simp) _).alloc (by simp; omega) _) hb9)
  have Fc := Lib.hid (Fc.out.via (by first | exact Below.refl _ _ | exact (Below.refl _ _).alloc (Nat.le_refl _) _ | exact ((Below.refl _ _).alloc (Nat.le_refl _) _).alloc (by simp) _ | exact (((Below.refl _ _).alloc (Nat.le_refl _) _).alloc (by simp) _).alloc (by simp; omega) _) hb9)
  clear hb9 b8
  go_wp2_with fail
  refine (preSure_calls _).mono ?_
  rintro e w10 ⟨rfl, hb10⟩
  have b10 := thenBelow (thenBelow b9 (by first | exact Below.refl _ _ | exact (Below.refl _ _).alloc (Nat.le_refl _) _ | exact ((Below.refl _ _).alloc (Nat.le_refl _) _).alloc (by simp) _ | exact (((Below.refl _ _).alloc (Nat.le_refl _) _).alloc (by simp) _).alloc (by simp; omega) _)) hb10
  have Fp := Lib.hid (Fp.out.via (by first | exact Below.refl _ _ | exact (Below.refl _ _).alloc (Nat.le_refl _) _ | exact ((Below.refl _ _).alloc (Nat.le_refl _) _).alloc (by simp) _ | exact (((Below.refl _ _).alloc (Nat.le_refl _) _).alloc (by simp) _).alloc (by simp; omega) _) hb10)
  have Fo := Lib.hid (Fo.out.via (by first | exact Below.refl _ _ | exact (Below.refl _ _).alloc (Nat.le_refl _) _ | exact ((Below.refl _ _).alloc (Nat.le_refl _) _).alloc (by simp) _ | exact (((Below.refl _ _).alloc (Nat.le_refl _) _).alloc (by simp) _).alloc (by simp; omega) _) hb10)
  have Fc := Lib.hid (Fc.out.via (by first | exact Below.refl _ _ | exact (Below.refl _ _).alloc (Nat.le_refl _) _ | exact ((Below.refl _ _).alloc (Nat.le_refl _) _).alloc (by simp) _ | exact (((Below.refl _ _).alloc (Nat.le_refl _) _).alloc (by simp) _).alloc (by simp; omega) _) hb10)
  clear hb10 b9
  obtain ⟨p_0, p_1, p_2, p_3, p_l⟩ := Fp.out
  have p_m := Nat.lt_succ_of_lt p_l
  try simp only [Nat.succ_eq_add_one, Nat.add_lt_add_iff_right] at p_m
  obtain ⟨o_0, o_1, o_2, o_3, o_l⟩ := Fo.out
  have o_m := Nat.lt_succ_of_lt o_l
  try simp only [Nat.succ_eq_add_one, Nat.add_lt_add_iff_right] at o_m
  obtain ⟨c_0, c_1, c_2, c_3, c_l⟩ := Fc.out
  have c_m := Nat.lt_succ_of_lt c_l
  try simp only [Nat.succ_eq_add_one, Nat.add_lt_add_iff_right] at c_m
  go_wp2_with fail
  refine (HV.out _).mono ?_
  rintro e w11 ⟨rfl, hb11⟩
  have b11 := thenBelow (thenBelow b10 (by first | exact Below.refl _ _ | exact (Below.refl _ _).alloc (Nat.le_refl _) _ | exact ((Below.refl _ _).alloc (Nat.le_refl _) _).alloc (by simp) _ | exact (((Below.refl _ _).alloc (Nat.le_refl _) _).alloc (by simp) _).alloc (by simp; omega) _)) hb11
  clear p_0 p_1 p_2 p_3 p_l p_m o_0 o_1 o_2 o_3 o_l o_m c_0 c_1 c_2 c_3 c_l c_m
  have Fp := Lib.hid (Fp.out.via (by first | exact Below.refl _ _ | exact (Below.refl _ _).alloc (Nat.le_refl _) _ | exact ((Below.refl _ _).alloc (Nat.le_refl _) _).alloc (by simp) _ | exact (((Below.refl _ _).alloc (Nat.le_refl _) _).alloc (by simp) _).alloc (by simp; omega) _) hb11)
  have Fo := Lib.hid (Fo.out.via (by first | exact Below.refl _ _ | exact (Below.refl _ _).alloc (Nat.le_refl _) _ | exact ((Below.refl _ _).alloc (Nat.le_refl _) _).alloc (by simp) _ | exact (((Below.refl _ _).alloc (Nat.le_refl _) _).alloc (by simp) _).alloc (by simp; omega) _) hb11)
  have Fc := Lib.hid (Fc.out.via (by first | exact Below.refl _ _ | exact (Below.refl _ _).alloc (Nat.le_refl _) _ | exact ((Below.refl _ _).alloc (Nat.le_refl _) _).alloc (by simp) _ | exact (((Below.refl _ _).alloc (Nat.le_refl _) _).alloc (by simp) _).alloc (by simp; omega) _) hb11)
  clear hb11 b10
  obtain ⟨p_0, p_1, p_2, p_3, p_l⟩ := Fp.out
  have p_m := Nat.lt_succ_of_lt p_l
  try simp only [Nat.succ_eq_add_one, Nat.add_lt_add_iff_right] at p_m
  go_wp2_with fail
  refine (V5.out _).mono ?_
  rintro e w12 ⟨rfl, hb12⟩
  have b12 := thenBelow (thenBelow b11 (by first | exact Below.refl _ _ | exact (Below.refl _ _).alloc (Nat.le_refl _) _ | exact ((Below.refl _ _).alloc (Nat.le_refl _) _).alloc (by simp) _ | exact (((Below.refl _ _).alloc (Nat.le_refl _) _).alloc (by simp) _).alloc (by simp; omega) _)) hb12
  clear p_0 p_1 p_2 p_3 p_l p_m
  have Fp := Lib.hid (Fp.out.via (by first | exact Below.refl _ _ | exact (Below.refl _ _).alloc (Nat.le_refl _) _ | exact ((Below.refl _ _).alloc (Nat.le_refl _) _).alloc (by simp) _ | exact (((Below.refl _ _).alloc (Nat.le_refl _) _).alloc (by simp) _).alloc (by simp; omega) _) hb12)
  have Fo := Lib.hid (Fo.out.via (by first | exact Below.refl _ _ | exact (Below.refl _ _).alloc (Nat.le_refl _) _ | exact ((Below.refl _ _).alloc (Nat.le_refl _) _).alloc (by simp) _ | exact (((Below.refl _ _).alloc (Nat.le_refl _) _).alloc (by simp) _).alloc (by simp; omega) _) hb12)
  have Fc := Lib.hid (Fc.out.via (by first | exact Below.refl _ _ | exact (Below.refl _ _).alloc (Nat.le_refl _) _ | exact ((Below.refl _ _).alloc (Nat.le_refl _) _).alloc (by simp) _ | exact (((Below.refl _ _).alloc (Nat.le_refl _) _).alloc (by simp) _).alloc (by simp; omega) _) hb12)
  have Gs := (PreAt.new (w11) six (aH u) (aL u) c1 26).via (by first | exact Below.refl _ _ | exact (Below.refl _ _).alloc (Nat.le_refl _) _ | exact ((Below.refl _ _).alloc (Nat.le_refl _) _).alloc (by simp) _ | exact (((Below.refl _ _).alloc (Nat.le_refl _) _).alloc (by simp) _).alloc (by simp; omega) _) hb12
  try simp only [World.size_alloc] at Gs
  have Fs := Lib.hid Gs
  clear Gs
  have Gt := (PreAt.new ((w11.alloc (.cells #[.bool six, .int .u64 (aH u), .int .u64 (aL u), .int .i64 c1] 26))) six (aH h2) (aL h2) c1 26).via (by first | exact Below.refl _ _ | exact (Below.refl _ _).alloc (Nat.le_refl _) _ | exact ((Below.refl _ _).alloc (Nat.le_refl _) _).alloc (by simp) _ | exact (((Below.refl _ _).alloc (Nat.le_refl _) _).alloc (by simp) _).alloc (by simp; omega) _) hb12
  try simp only [World.size_alloc] at Gt
  have Ft := Lib.hid Gt
  clear Gt
  clear hb12 b11
  obtain ⟨t_0, t_1, t_2, t_3, t_l⟩ := Ft.out
  have t_m := Nat.lt_succ_of_lt t_l
  try simp only [Nat.succ_eq_add_one, Nat.add_lt_add_iff_right] at t_m
  obtain ⟨o_0, o_1, o_2, o_3, o_l⟩ := Fo.out
  have o_m := Nat.lt_succ_of_lt o_l
  try simp only [Nat.succ_eq_add_one, Nat.add_lt_add_iff_right] at o_m
  go_wp2_with fail
  refine (V6.out _).mono ?_
  rintro e w13 ⟨rfl, hb13⟩
  have b13 := thenBelow (thenBelow b12 (by first | exact Below.refl _ _ | exact (Below.refl _ _).alloc (Nat.le_refl _) _ | exact ((Below.refl _ _).alloc (Nat.le_refl _) _).alloc (by simp) _ | exact (((Below.refl _ _).alloc (Nat.le_refl _) _).alloc (by simp) _).alloc (by simp; omega) _)) hb13
  clear t_0 t_1 t_2 t_3 t_l t_m o_0 o_1 o_2 o_3 o_l o_m
  have Fp := Lib.hid (Fp.out.via (by first | exact Below.refl _ _ | exact (Below.refl _ _).alloc (Nat.le_refl _) _ | exact ((Below.refl _ _).alloc (Nat.le_refl _) _).alloc (by simp) _ | exact (((Below.refl _ _).alloc (Nat.le_refl _) _).alloc (by simp) _).alloc (by simp; omega) _) hb13)
  have Fo := Lib.hid (Fo.out.via (by first | exact Below.refl _ _ | exact (Below.refl _ _).alloc (Nat.le_refl _) _ | exact ((Below.refl _ _).alloc (Nat.le_refl _) _).alloc (by simp) _ | exact (((Below.refl _ _).alloc (Nat.le_refl _) _).alloc (by simp) _).alloc (by simp; omega) _) hb13)
  have Fc := Lib.hid (Fc.out.via (by first | exact Below.refl _ _ | exact (Below.refl _ _).alloc (Nat.le_refl _) _ | exact ((Below.refl _ _).alloc (Nat.le_refl _) _).alloc (by simp) _ | exact (((Below.refl _ _).alloc (Nat.le_refl _) _).alloc (by simp) _).alloc (by simp; omega) _) hb13)
  have Fs := Lib.hid (Fs.out.via (by first | exact Below.refl _ _ | exact (Below.refl _ _).alloc (Nat.le_refl _) _ | exact ((Below.refl _ _).alloc (Nat.le_refl _) _).alloc (by simp) _ | exact (((Below.refl _ _).alloc (Nat.le_refl _) _).alloc (by simp) _).alloc (by simp; omega) _) hb13)
  have Ft := Lib.hid (Ft.out.via (by first | exact Below.refl _ _ | exact (Below.refl _ _).alloc (Nat.le_refl _) _ | exact ((Below.refl _ _).alloc (Nat.le_refl _) _).alloc (by simp) _ | exact (((Below.refl _ _).alloc (Nat.le_refl _) _).alloc (by simp) _).alloc (by simp; omega) _) hb13)
  clear hb13 b12
  go_wp2
  go_ret
  exact ⟨by simp, (thenBelow b13 (by first | exact Below.refl _ _ | exact (Below.refl _ _).alloc (Nat.le_refl _) _ | exact ((Below.refl _ _).alloc (Nat.le_refl _) _).alloc (by simp) _ | exact (((Below.refl _ _).alloc (Nat.le_refl _) _).alloc (by simp) _).alloc (by simp; omega) _))⟩

theorem Nested.walk (s0 : Bool) (h0 l0 a1 : Int) (s2 : Bool) (h2 l2 a3 : Int)
    (h00 : 0 ≤ h0) (h01 : h0 ≤ 18446744073709551615) (l00 : 0 ≤ l0) (l01 : l0 ≤ 18446744073709551615) (a10 : -9223372036854775808 ≤ a1) (a11 : a1 ≤ 9223372036854775807)
    (h20 : 0 ≤ h2) (h21 : h2 ≤ 18446744073709551615) (l20 : 0 ≤ l2) (l21 : l2 ≤ 18446744073709551615) (a30 : -9223372036854775808 ≤ a3) (a31 : a3 ≤ 9223372036854775807) (w : World) :
    Calls Try.prog 10 #[.agg #[.bool s0, .int .u64 h0, .int .u64 l0], .int .i64 a1, .agg #[.bool s2, .int .u64 h2, .int .u64 l2], .int .i64 a3] w fun e w' => e = .returned (.bool true) ∧ Below w.heap.size w w' := by
  have px := preR_pv s0 h0 l0 a1 h00 h01 l00 l01
  have py := preR_pv s0 h2 l2 a3 h20 h21 l20 l21
  have o1 := fun W : World => preOf_calls s0 h0 l0 a1 h00 h01 l00 l01 a10 a11 _ _ rfl rfl W
  have o2 := fun W : World => preOf_calls s0 h2 l2 a3 h20 h21 l20 l21 a30 a31 _ _ rfl rfl W
  generalize preR s0 h0 l0 a1 = x at *
  generalize preR s0 h2 l2 a3 = y at *
  generalize lenR s0 a1 = n at *
  generalize lenR s0 a3 = m at *
  have pc := com_pv s0 x n y m px.1
  have cc := com_cov px py
  have v3 := fun W : World => covers_pv s0 _ _ x n true pc px cc.1 W
  have v4 := fun W : World => covers_pv s0 _ _ y m true pc py cc.2 W
  have c1 := fun W : World => common_pv s0 x n y m _ _ px py rfl rfl W
  rcases nested_ways px py with ⟨e1, e2, e3, e4, e5, e6, e7, e8⟩ | ⟨e1, e2, e3, e5, e6, e7⟩ | ⟨e1, e2, e5, e6, e8⟩ | ⟨e1, e2, e3, e4, e5, e6⟩
  · subst e3 e4
    rw [e5, e6] at c1 v3 v4
    exact Nested.same s0 s2 h0 l0 a1 h2 l2 a3 x n (Lib.hid o1) (Lib.hid o2) (Lib.hid (covers_pv s0 x n x n _ px py e1)) (Lib.hid (covers_pv s0 x n x n _ py px e2)) (Lib.hid c1) (Lib.hid v3) (Lib.hid v4) (Lib.hid (has_pv s0 x n x _ px py.1 e7)) (Lib.hid (has_pv s0 x n x _ py px.1 e8)) w
  · rw [e5, e6] at c1 v3 v4
    exact Nested.first s0 s2 h0 l0 a1 h2 l2 a3 _ x n y m e3 (Lib.hid o1) (Lib.hid o2) (Lib.hid (covers_pv s0 x n y m _ px py e1)) (Lib.hid (covers_pv s0 y m x n _ py px e2)) (Lib.hid c1) (Lib.hid v3) (Lib.hid v4) (Lib.hid (has_pv s0 x n y _ px py.1 e7)) (Lib.hid (has_pv s0 y m x _ py px.1 rfl)) w
  · rw [e5, e6] at c1 v3 v4
    exact Nested.second s0 s2 h0 l0 a1 h2 l2 a3 _ x n y m (Lib.hid o1) (Lib.hid o2) (Lib.hid (covers_pv s0 x n y m _ px py e1)) (Lib.hid (covers_pv s0 y m x n _ py px e2)) (Lib.hid c1) (Lib.hid v3) (Lib.hid v4) (Lib.hid (has_pv s0 x n y _ px py.1 rfl)) (Lib.hid (has_pv s0 y m x _ py px.1 e8)) w
  · have hc : comN s0 x n y m < wideN s0 := by have := px.2.1; omega
    exact Nested.apart s0 s2 h0 l0 a1 h2 l2 a3 _ x n y m _ _ (comN s0 x n y m + 1) _ (Lib.hid o1) (Lib.hid o2) (Lib.hid (covers_pv s0 x n y m _ px py e1)) (Lib.hid (covers_pv s0 y m x n _ py px e2)) (Lib.hid c1) (Lib.hid v3) (Lib.hid v4) (Lib.hid (has_pv s0 x n y _ px py.1 e3)) (Lib.hid (has_pv s0 y m x _ py px.1 e4))
      (Lib.hid (halves_pv s0 _ _ _ pc hc rfl)) (Lib.hid (covers_pv s0 _ _ x n _ (low_pv pc hc) px rfl)) (Lib.hid (covers_pv s0 _ _ y m _ (hi_pv pc hc) py (apart_halves px py e5 e6).symm)) w

theorem Nested.own : ownKnob Try.prog.godebug = none := by kernel_rfl
set_option maxRecDepth 100000 in
theorem Nested.lifted (os : Os) (started : os.Started) (H : Type) (enc : TypeId × Value → H) :
    ReturnsInHanded {} Try.checked os 10 .any (Rows.preNestedSpec.pre6 enc Try.prog Try.f10 Rows.preNestedRow.domain false) (Rows.preNestedSpec.post enc Try.prog Try.f10 false true false false) := by
  refine returnsInHanded_of_change (C := Try.checked) Nested.own started (by kernel_rfl) Try.func10
    (ChangeSpec.witness6 (enc := enc) (C := Try.checked) false ⟨#[], #[.agg #[.bool false, .int .u64 0, .int .u64 0], .int .i64 0, .agg #[.bool false, .int .u64 0, .int .u64 0], .int .i64 0], []⟩ 8 (by kernel_rfl) (by kernel_rfl) (by kernel_rfl) (by kernel_rfl)) ?_
  intro W base args ds gs before hval0 hW hcnd _
  have hval : ∀ (j : Nat) t v, Try.f10.params[j]? = some t → args[j]? = some v → Value.okWide Try.prog W .any base t v := hval0
  have hW' := hW
  obtain ⟨p, q, hA0, hV, rfl, hfz, hnd⟩ := hW
  have hA : DataW.TrodAll enc Try.prog W 0 (fun _ => true) true Try.f10.params.toList args.toList ds p := hA0
  rw [Try.params10] at hA hval
  obtain ⟨v0, vs0, d0, ds0, p0, q0, hargs, rfl, rfl, rd0, r0⟩ := trodAll_cons hA
  obtain ⟨v1, vs1, d1, ds1, p1, q1, rfl, rfl, rfl, rd1, r1⟩ := trodAll_cons r0
  obtain ⟨v2, vs2, d2, ds2, p2, q2, rfl, rfl, rfl, rd2, r2⟩ := trodAll_cons r1
  obtain ⟨v3, vs3, d3, ds3, p3, q3, rfl, rfl, rfl, rd3, r3⟩ := trodAll_cons r2
  obtain ⟨rfl, rfl, rfl⟩ := trodAll_nil r3
  obtain rfl : args = #[v0, v1, v2, v3] := by cases args; simp_all
  obtain ⟨rfl, rfl⟩ := trodVars_none hV
  obtain ⟨s0, h0, l0, rfl, rfl, rfl, wa0, wb0⟩ := openRaw (hval 0 41 v0 rfl rfl) rd0
  obtain ⟨a1, rfl, rfl, rfl, wa1⟩ := open_int Try.underlying3 (hval 1 3 v1 rfl rfl) rd1
  obtain ⟨s2, h2, l2, rfl, rfl, rfl, wa2, wb2⟩ := openRaw (hval 2 41 v2 rfl rfl) rd2
  obtain ⟨a3, rfl, rfl, rfl, wa3⟩ := open_int Try.underlying3 (hval 3 3 v3 rfl rfl) rd3
  clear hA0 hval0
  simp only [List.append_nil] at hW'
  refine (Nested.walk s0 h0 l0 a1 s2 h2 l2 a3 (u64_of_wf wa0).1 (u64_of_wf wa0).2 (u64_of_wf wb0).1 (u64_of_wf wb0).2 (i64_of_wf wa1).1 (i64_of_wf wa1).2 (u64_of_wf wa2).1 (u64_of_wf wa2).2 (u64_of_wf wb2).1 (u64_of_wf wb2).2 (i64_of_wf wa3).1 (i64_of_wf wa3).2 W).mono fun e W' ⟨he, hb⟩ => ?_
  subst he
  exact ⟨_, rfl, postBelow (pa := []) (pv := []) hW' hb (fun _ _ _ => trodAll_cons_mk (shut_bool Try.underlying4 _) trodAll_mk0) (fun sp _ => trodAll_cons_mk (shutRaw wa0 wb0) (trodAll_cons_mk (shut_int Try.underlying3 wa1) (trodAll_cons_mk (shutRaw wa2 wb2) (trodAll_cons_mk (shut_int Try.underlying3 wa3) trodAll_mk0)))) (fun _ _ => rfl) rfl⟩

theorem Nested.holds : Rows.PreNestedSaid :=
  OpenClaim.holds_of_wide 10 Try.f10 rfl rfl rfl rfl rfl rfl rfl ⟨rfl, rfl, rfl, rfl, rfl⟩ rfl rfl rfl rfl rfl (by kernel_rfl) Try.func10 (by kernel_rfl)
    (of_decide_eq_true (by kernel_rfl)) (by unfold Func.isWrapper; first | (rw [if_pos (by decide +kernel)]; kernel_rfl) | (rw [if_neg (by decide +kernel)]; exact ⟨rfl, rfl⟩))
    (fun os started H enc _ => Nested.lifted os started H enc)
#print axioms Nested.holds
end Go.Proofs.Ythlkofbdfjpfpaa
