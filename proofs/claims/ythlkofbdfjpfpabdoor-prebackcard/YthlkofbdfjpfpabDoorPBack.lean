/-
  PROVED: whipcordkeep.PreBack returns true for all arguments, and they read afterwards as they read before.
-/
import Derived.Test.YthlkofbdfjpfpabDoorLaid7
import Derived.Test.YthlkofbdfjpfpabDoorPParse
import Derived.Test.YthlkofbdfjpfpabDoorPreE
import Derived.Test.YthlkofbdfjpfpabDoorPreK2
import Derived.Test.YthlkofbdfjpfpabDoorKeep1
import Derived.Test.YthlkofbdfjpfpabDoorShapesRaw
namespace Go.Proofs.YthlkofbdfjpfpabDoor
open Go.ChangeShapes Go.WideShapes Go.ChangeAt Go.RowKit Go.Joins
set_option linter.unusedVariables false
set_option linter.unusedSimpArgs false

set_option maxHeartbeats 4000000 in
set_option maxRecDepth 100000 in
theorem PBack.core (six sb sv ub vb : Bool) (rh rl n0 bh bl vh vl je ke ue ve : Int) (x n T : Nat) (S : ByteArray)
    (O1 : Hid (∀ W : World, Calls Tryd.prog 13 #[.agg #[.bool six, .int .u64 rh, .int .u64 rl], .int .i64 n0] W fun e w' => e = .returned (.agg #[.bool six, .int .u64 (aH x), .int .u64 (aL x), .int .i64 n]) ∧ Below W.heap.size W w'))
    (TX : Hid (∀ W : World, Tabs W → Calls Tryd.prog 9 #[.agg #[.bool six, .int .u64 (aH x), .int .u64 (aL x), .int .i64 n]] W fun e w' => e = .returned (.tuple #[.string S, .int .i64 0]) ∧ Below W.heap.size W w'))
    (PA : Hid (∀ W : World, RTabs W → Calls Tryd.prog 11 #[.string S] W fun e w' => e = .returned (.tuple #[.agg #[.bool six, .int .u64 (aH x), .int .u64 (aL x), .int .i64 n], .int .i64 0]) ∧ Below W.heap.size W w'))
    (SP : Hid (∀ W : World, Calls Tryd.prog 14 #[.agg #[.bool six, .int .u64 (aH x), .int .u64 (aL x), .int .i64 n]] W fun e w' => e = .returned (.tuple #[.agg #[.bool six, .int .u64 (aH x), .int .u64 (aL x)], .agg #[.bool six, .int .u64 (aH T), .int .u64 (aL T)], .int .i64 0]) ∧ Below W.heap.size W w'))
    (H1 : Hid (∀ W : World, Calls Tryd.prog 15 #[.agg #[.bool six, .int .u64 (aH x), .int .u64 (aL x), .int .i64 n], .agg #[.bool six, .int .u64 (aH x), .int .u64 (aL x)]] W fun e w' => e = .returned (.tuple #[.bool true, .int .i64 0]) ∧ Below W.heap.size W w'))
    (H2 : Hid (∀ W : World, Calls Tryd.prog 15 #[.agg #[.bool six, .int .u64 (aH x), .int .u64 (aL x), .int .i64 n], .agg #[.bool six, .int .u64 (aH T), .int .u64 (aL T)]] W fun e w' => e = .returned (.tuple #[.bool true, .int .i64 0]) ∧ Below W.heap.size W w'))
    (AH : Hid (∀ W : World, Calls Tryd.prog 16 #[.agg #[.bool six, .int .u64 (aH T), .int .u64 (aL T)], .agg #[.bool six, .int .u64 (aH x), .int .u64 (aL x)]] W fun e w' => e = .returned (.bool false) ∧ Below W.heap.size W w'))
    (N1 : Hid (∀ W : World, Calls Tryd.prog 18 #[.agg #[.bool six, .int .u64 (aH x), .int .u64 (aL x)], .int .i64 (-1)] W fun e w' => e = .returned (.tuple #[.agg #[.bool sb, .int .u64 bh, .int .u64 bl], .int .i64 je]) ∧ Below W.heap.size W w'))
    (N2 : Hid (∀ W : World, Calls Tryd.prog 18 #[.agg #[.bool six, .int .u64 (aH T), .int .u64 (aL T)], .int .i64 1] W fun e w' => e = .returned (.tuple #[.agg #[.bool sv, .int .u64 vh, .int .u64 vl], .int .i64 ke]) ∧ Below W.heap.size W w'))
    (H3 : Hid (∀ W : World, Calls Tryd.prog 15 #[.agg #[.bool six, .int .u64 (aH x), .int .u64 (aL x), .int .i64 n], .agg #[.bool sb, .int .u64 bh, .int .u64 bl]] W fun e w' => e = .returned (.tuple #[.bool ub, .int .i64 ue]) ∧ Below W.heap.size W w'))
    (H4 : Hid (∀ W : World, Calls Tryd.prog 15 #[.agg #[.bool six, .int .u64 (aH x), .int .u64 (aL x), .int .i64 n], .agg #[.bool sv, .int .u64 vh, .int .u64 vl]] W fun e w' => e = .returned (.tuple #[.bool vb, .int .i64 ve]) ∧ Below W.heap.size W w'))
    (HJ : Hid ((je == 0) = false ∨ (je = 0 ∧ ub = false))) (HK : Hid ((ke == 0) = false ∨ (ke = 0 ∧ vb = false))) (w : World) (hr : RTabs w) :
    Calls Tryd.prog 6 #[.agg #[.bool six, .int .u64 rh, .int .u64 rl], .int .i64 n0] w fun e w' => e = .returned (.bool true) ∧ Below w.heap.size w w' := by
  have HRT := Lib.hid hr
  clear hr
  go_enter Tryd.func6, Tryd.ntmps6
  go_wp2_with fail
  refine (O1.out _).mono ?_
  rintro e w1 ⟨rfl, hb1⟩
  have b1 := thenBelow (show Below w.heap.size w _ from (by first | exact Below.refl _ _ | exact (Below.refl _ _).alloc (Nat.le_refl _) _ | exact ((Below.refl _ _).alloc (Nat.le_refl _) _).alloc (by simp) _ | exact (((Below.refl _ _).alloc (Nat.le_refl _) _).alloc (by simp) _).alloc (by simp; omega) _)) hb1
  have HRT := Lib.hid ((HRT.out.keep (by first | exact Below.refl _ _ | exact (Below.refl _ _).alloc (Nat.le_refl _) _ | exact ((Below.refl _ _).alloc (Nat.le_refl _) _).alloc (by simp) _ | exact (((Below.refl _ _).alloc (Nat.le_refl _) _).alloc (by simp) _).alloc (by simp; omega) _)).keep hb1)
  clear hb1
  go_wp2_with fail
  refine (TX.out _ (by first | exact HRT.out.1 | exact HRT.out.1.alloc _ | exact (HRT.out.1.alloc _).alloc _)).mono ?_
  rintro e w2 ⟨rfl, hb2⟩
  have b2 := thenBelow (thenBelow b1 (by first | exact Below.refl _ _ | exact (Below.refl _ _).alloc (Nat.le_refl _) _ | exact ((Below.refl _ _).alloc (Nat.le_refl _) _).alloc (by simp) _ | exact (((Below.refl _ _).alloc (Nat.le_refl _) _).alloc (by simp) _).alloc (by simp; omega) _)) hb2
  have Gp := (PreAt.new (w1) six (aH x) (aL x) n 30).via (by first | exact Below.refl _ _ | exact (Below.refl _ _).alloc (Nat.le_refl _) _ | exact ((Below.refl _ _).alloc (Nat.le_refl _) _).alloc (by simp) _ | exact (((Below.refl _ _).alloc (Nat.le_refl _) _).alloc (by simp) _).alloc (by simp; omega) _) hb2
  try simp only [World.size_alloc] at Gp
  have Fp := Lib.hid Gp
  clear Gp
  have HRT := Lib.hid ((HRT.out.keep (by first | exact Below.refl _ _ | exact (Below.refl _ _).alloc (Nat.le_refl _) _ | exact ((Below.refl _ _).alloc (Nat.le_refl _) _).alloc (by simp) _ | exact (((Below.refl _ _).alloc (Nat.le_refl _) _).alloc (by simp) _).alloc (by simp; omega) _)).keep hb2)
  clear hb2 b1
  go_wp2_with fail
  refine (PA.out _ (by first | exact HRT.out | exact HRT.out.alloc _ | exact (HRT.out.alloc _).alloc _)).mono ?_
  rintro e w3 ⟨rfl, hb3⟩
  have b3 := thenBelow (thenBelow b2 (by first | exact Below.refl _ _ | exact (Below.refl _ _).alloc (Nat.le_refl _) _ | exact ((Below.refl _ _).alloc (Nat.le_refl _) _).alloc (by simp) _ | exact (((Below.refl _ _).alloc (Nat.le_refl _) _).alloc (by simp) _).alloc (by simp; omega) _)) hb3
  have Fp := Lib.hid (Fp.out.via (by first | exact Below.refl _ _ | exact (Below.refl _ _).alloc (Nat.le_refl _) _ | exact ((Below.refl _ _).alloc (Nat.le_refl _) _).alloc (by simp) _ | exact (((Below.refl _ _).alloc (Nat.le_refl _) _).alloc (by simp) _).alloc (by simp; omega) _) hb3)
  have HRT := Lib.hid ((HRT.out.keep (by first | exact Below.refl _ _ | exact (Below.refl _ _).alloc (Nat.le_refl _) _ | exact ((Below.refl _ _).alloc (Nat.le_refl _) _).alloc (by simp) _ | exact (((Below.refl _ _).alloc (Nat.le_refl _) _).alloc (by simp) _).alloc (by simp; omega) _)).keep hb3)
  clear hb3 b2
  obtain ⟨p_0, p_1, p_2, p_3, p_l⟩ := Fp.out
  have p_m := Nat.lt_succ_of_lt p_l
  try simp only [Nat.succ_eq_add_one, Nat.add_lt_add_iff_right] at p_m
  go_wp2_with fail
  refine (SP.out _).mono ?_
  rintro e w4 ⟨rfl, hb4⟩
  have b4 := thenBelow (thenBelow b3 (by first | exact Below.refl _ _ | exact (Below.refl _ _).alloc (Nat.le_refl _) _ | exact ((Below.refl _ _).alloc (Nat.le_refl _) _).alloc (by simp) _ | exact (((Below.refl _ _).alloc (Nat.le_refl _) _).alloc (by simp) _).alloc (by simp; omega) _)) hb4
  clear p_0 p_1 p_2 p_3 p_l p_m
  have Fp := Lib.hid (Fp.out.via (by first | exact Below.refl _ _ | exact (Below.refl _ _).alloc (Nat.le_refl _) _ | exact ((Below.refl _ _).alloc (Nat.le_refl _) _).alloc (by simp) _ | exact (((Below.refl _ _).alloc (Nat.le_refl _) _).alloc (by simp) _).alloc (by simp; omega) _) hb4)
  have Gq := (PreAt.new (w3) six (aH x) (aL x) n 30).via (by first | exact Below.refl _ _ | exact (Below.refl _ _).alloc (Nat.le_refl _) _ | exact ((Below.refl _ _).alloc (Nat.le_refl _) _).alloc (by simp) _ | exact (((Below.refl _ _).alloc (Nat.le_refl _) _).alloc (by simp) _).alloc (by simp; omega) _) hb4
  try simp only [World.size_alloc] at Gq
  have Fq := Lib.hid Gq
  clear Gq
  clear hb4 b3
  clear HRT
  obtain ⟨p_0, p_1, p_2, p_3, p_l⟩ := Fp.out
  have p_m := Nat.lt_succ_of_lt p_l
  try simp only [Nat.succ_eq_add_one, Nat.add_lt_add_iff_right] at p_m
  go_wp2_with fail
  refine (H1.out _).mono ?_
  rintro e w5 ⟨rfl, hb5⟩
  have b5 := thenBelow (thenBelow b4 (by first | exact Below.refl _ _ | exact (Below.refl _ _).alloc (Nat.le_refl _) _ | exact ((Below.refl _ _).alloc (Nat.le_refl _) _).alloc (by simp) _ | exact (((Below.refl _ _).alloc (Nat.le_refl _) _).alloc (by simp) _).alloc (by simp; omega) _)) hb5
  clear p_0 p_1 p_2 p_3 p_l p_m
  have Fp := Lib.hid (Fp.out.via (by first | exact Below.refl _ _ | exact (Below.refl _ _).alloc (Nat.le_refl _) _ | exact ((Below.refl _ _).alloc (Nat.le_refl _) _).alloc (by simp) _ | exact (((Below.refl _ _).alloc (Nat.le_refl _) _).alloc (by simp) _).alloc (by simp; omega) _) hb5)
  have Fq := Lib.hid (Fq.out.via (by first | exact Below.refl _ _ | exact (Below.refl _ _).alloc (Nat.le_refl _) _ | exact ((Below.refl _ _).alloc (Nat.le_refl _) _).alloc (by simp) _ | exact (((Below.refl _ _).alloc (Nat.le_refl _) _).alloc (by simp) _).alloc (by simp; omega) _) hb5)
  have Ga := (AddrAt.new (w4) six (aH x) (aL x) 24).via (by first | exact Below.refl _ _ | exact (Below.refl _ _).alloc (Nat.le_refl _) _ | exact ((Below.refl _ _).alloc (Nat.le_refl _) _).alloc (by simp) _ | exact (((Below.refl _ _).alloc (Nat.le_refl _) _).alloc (by simp) _).alloc (by simp; omega) _) hb5
  try simp only [World.size_alloc] at Ga
  have Fa := Lib.hid Ga
  clear Ga
  have Gb := (AddrAt.new ((w4.alloc (.cells #[.bool six, .int .u64 (aH x), .int .u64 (aL x)] 24))) six (aH T) (aL T) 24).via (by first | exact Below.refl _ _ | exact (Below.refl _ _).alloc (Nat.le_refl _) _ | exact ((Below.refl _ _).alloc (Nat.le_refl _) _).alloc (by simp) _ | exact (((Below.refl _ _).alloc (Nat.le_refl _) _).alloc (by simp) _).alloc (by simp; omega) _) hb5
  try simp only [World.size_alloc] at Gb
  have Fb := Lib.hid Gb
  clear Gb
  clear hb5 b4
  obtain ⟨p_0, p_1, p_2, p_3, p_l⟩ := Fp.out
  have p_m := Nat.lt_succ_of_lt p_l
  try simp only [Nat.succ_eq_add_one, Nat.add_lt_add_iff_right] at p_m
  obtain ⟨b_0, b_1, b_2, b_l⟩ := Fb.out
  have b_m := Nat.lt_succ_of_lt b_l
  try simp only [Nat.succ_eq_add_one, Nat.add_lt_add_iff_right] at b_m
  go_wp2_with fail
  refine (H2.out _).mono ?_
  rintro e w6 ⟨rfl, hb6⟩
  have b6 := thenBelow (thenBelow b5 (by first | exact Below.refl _ _ | exact (Below.refl _ _).alloc (Nat.le_refl _) _ | exact ((Below.refl _ _).alloc (Nat.le_refl _) _).alloc (by simp) _ | exact (((Below.refl _ _).alloc (Nat.le_refl _) _).alloc (by simp) _).alloc (by simp; omega) _)) hb6
  clear p_0 p_1 p_2 p_3 p_l p_m b_0 b_1 b_2 b_l b_m
  have Fp := Lib.hid (Fp.out.via (by first | exact Below.refl _ _ | exact (Below.refl _ _).alloc (Nat.le_refl _) _ | exact ((Below.refl _ _).alloc (Nat.le_refl _) _).alloc (by simp) _ | exact (((Below.refl _ _).alloc (Nat.le_refl _) _).alloc (by simp) _).alloc (by simp; omega) _) hb6)
  have Fq := Lib.hid (Fq.out.via (by first | exact Below.refl _ _ | exact (Below.refl _ _).alloc (Nat.le_refl _) _ | exact ((Below.refl _ _).alloc (Nat.le_refl _) _).alloc (by simp) _ | exact (((Below.refl _ _).alloc (Nat.le_refl _) _).alloc (by simp) _).alloc (by simp; omega) _) hb6)
  have Fa := Lib.hid (Fa.out.via (by first | exact Below.refl _ _ | exact (Below.refl _ _).alloc (Nat.le_refl _) _ | exact ((Below.refl _ _).alloc (Nat.le_refl _) _).alloc (by simp) _ | exact (((Below.refl _ _).alloc (Nat.le_refl _) _).alloc (by simp) _).alloc (by simp; omega) _) hb6)
  have Fb := Lib.hid (Fb.out.via (by first | exact Below.refl _ _ | exact (Below.refl _ _).alloc (Nat.le_refl _) _ | exact ((Below.refl _ _).alloc (Nat.le_refl _) _).alloc (by simp) _ | exact (((Below.refl _ _).alloc (Nat.le_refl _) _).alloc (by simp) _).alloc (by simp; omega) _) hb6)
  clear hb6 b5
  obtain ⟨p_0, p_1, p_2, p_3, p_l⟩ := Fp.out
  have p_m := Nat.lt_succ_of_lt p_l
  try simp only [Nat.succ_eq_add_one, Nat.add_lt_add_iff_right] at p_m
  obtain ⟨q_0, q_1, q_2, q_3, q_l⟩ := Fq.out
  have q_m := Nat.lt_succ_of_lt q_l
  try simp only [Nat.succ_eq_add_one, Nat.add_lt_add_iff_right] at q_m
  obtain ⟨a_0, a_1, a_2, a_l⟩ := Fa.out
  have a_m := Nat.lt_succ_of_lt a_l
  try simp only [Nat.succ_eq_add_one, Nat.add_lt_add_iff_right] at a_m
  obtain ⟨b_0, b_1, b_2, b_l⟩ := Fb.out
  have b_m := Nat.lt_succ_of_lt b_l
  try simp only [Nat.succ_eq_add_one, Nat.add_lt_add_iff_right] at b_m
  go_wp2_with fail
  refine (AH.out _).mono ?_
  rintro e w7 ⟨rfl, hb7⟩
  have b7 := thenBelow (thenBelow b6 (by first | exact Below.refl _ _ | exact (Below.refl _ _).alloc (Nat.le_refl _) _ | exact ((Below.refl _ _).alloc (Nat.le_refl _) _).alloc (by simp) _ | exact (((Below.refl _ _).alloc (Nat.le_refl _) _).alloc (by simp) _).alloc (by simp; omega) _)) hb7
  clear p_0 p_1 p_2 p_3 p_l p_m q_0 q_1 q_2 q_3 q_l q_m a_0 a_1 a_2 a_l a_m b_0 b_1 b_2 b_l b_m
  have Fp := Lib.hid (Fp.out.via (by first | exact Below.refl _ _ | exact (Below.refl _ _).alloc (Nat.le_refl _) _ | exact ((Below.refl _ _).alloc (Nat.le_refl _) _).alloc (by simp) _ | exact (((Below.refl _ _).alloc (Nat.le_refl _) _).alloc (by simp) _).alloc (by simp; omega) _) hb7)
  clear Fq
  have Fa := Lib.hid (Fa.out.via (by first | exact Below.refl _ _ | exact (Below.refl _ _).alloc (Nat.le_refl _) _ | exact ((Below.refl _ _).alloc (Nat.le_refl _) _).alloc (by simp) _ | exact (((Below.refl _ _).alloc (Nat.le_refl _) _).alloc (by simp) _).alloc (by simp; omega) _) hb7)
  have Fb := Lib.hid (Fb.out.via (by first | exact Below.refl _ _ | exact (Below.refl _ _).alloc (Nat.le_refl _) _ | exact ((Below.refl _ _).alloc (Nat.le_refl _) _).alloc (by simp) _ | exact (((Below.refl _ _).alloc (Nat.le_refl _) _).alloc (by simp) _).alloc (by simp; omega) _) hb7)
  clear hb7 b6
  go_wp2_with fail
  refine (preSure_calls _).mono ?_
  rintro e w8 ⟨rfl, hb8⟩
  have b8 := thenBelow (thenBelow b7 (by first | exact Below.refl _ _ | exact (Below.refl _ _).alloc (Nat.le_refl _) _ | exact ((Below.refl _ _).alloc (Nat.le_refl _) _).alloc (by simp) _ | exact (((Below.refl _ _).alloc (Nat.le_refl _) _).alloc (by simp) _).alloc (by simp; omega) _)) hb8
  have Fp := Lib.hid (Fp.out.via (by first | exact Below.refl _ _ | exact (Below.refl _ _).alloc (Nat.le_refl _) _ | exact ((Below.refl _ _).alloc (Nat.le_refl _) _).alloc (by simp) _ | exact (((Below.refl _ _).alloc (Nat.le_refl _) _).alloc (by simp) _).alloc (by simp; omega) _) hb8)
  have Fa := Lib.hid (Fa.out.via (by first | exact Below.refl _ _ | exact (Below.refl _ _).alloc (Nat.le_refl _) _ | exact ((Below.refl _ _).alloc (Nat.le_refl _) _).alloc (by simp) _ | exact (((Below.refl _ _).alloc (Nat.le_refl _) _).alloc (by simp) _).alloc (by simp; omega) _) hb8)
  have Fb := Lib.hid (Fb.out.via (by first | exact Below.refl _ _ | exact (Below.refl _ _).alloc (Nat.le_refl _) _ | exact ((Below.refl _ _).alloc (Nat.le_refl _) _).alloc (by simp) _ | exact (((Below.refl _ _).alloc (Nat.le_refl _) _).alloc (by simp) _).alloc (by simp; omega) _) hb8)
  clear hb8 b7
  obtain ⟨a_0, a_1, a_2, a_l⟩ := Fa.out
  have a_m := Nat.lt_succ_of_lt a_l
  try simp only [Nat.succ_eq_add_one, Nat.add_lt_add_iff_right] at a_m
  go_wp2_with fail
  refine (N1.out _).mono ?_
  rintro e w9 ⟨rfl, hb9⟩
  have b9 := thenBelow (thenBelow b8 (by first | exact Below.refl _ _ | exact (Below.refl _ _).alloc (Nat.le_refl _) _ | exact ((Below.refl _ _).alloc (Nat.le_refl _) _).alloc (by simp) _ | exact (((Below.refl _ _).alloc (Nat.le_refl _) _).alloc (by simp) _).alloc (by simp; omega) _)) hb9
  clear a_0 a_1 a_2 a_l a_m
  have Fp := Lib.hid (Fp.out.via (by first | exact Below.refl _ _ | exact (Below.refl _ _).alloc (Nat.le_refl _) _ | exact ((Below.refl _ _).alloc (Nat.le_refl _) _).alloc (by simp) _ | exact (((Below.refl _ _).alloc (Nat.le_refl _) _).alloc (by simp) _).alloc (by simp; omega) _) hb9)
  clear Fa
  have Fb := Lib.hid (Fb.out.via (by first | exact Below.refl _ _ | exact (Below.refl _ _).alloc (Nat.le_refl _) _ | exact ((Below.refl _ _).alloc (Nat.le_refl _) _).alloc (by simp) _ | exact (((Below.refl _ _).alloc (Nat.le_refl _) _).alloc (by simp) _).alloc (by simp; omega) _) hb9)
  clear hb9 b8
  obtain ⟨b_0, b_1, b_2, b_l⟩ := Fb.out
  have b_m := Nat.lt_succ_of_lt b_l
  try simp only [Nat.succ_eq_add_one, Nat.add_lt_add_iff_right] at b_m
  go_wp2_with fail
  refine (N2.out _).mono ?_
  rintro e w10 ⟨rfl, hb10⟩
  have b10 := thenBelow (thenBelow b9 (by first | exact Below.refl _ _ | exact (Below.refl _ _).alloc (Nat.le_refl _) _ | exact ((Below.refl _ _).alloc (Nat.le_refl _) _).alloc (by simp) _ | exact (((Below.refl _ _).alloc (Nat.le_refl _) _).alloc (by simp) _).alloc (by simp; omega) _)) hb10
  clear b_0 b_1 b_2 b_l b_m
  have Fp := Lib.hid (Fp.out.via (by first | exact Below.refl _ _ | exact (Below.refl _ _).alloc (Nat.le_refl _) _ | exact ((Below.refl _ _).alloc (Nat.le_refl _) _).alloc (by simp) _ | exact (((Below.refl _ _).alloc (Nat.le_refl _) _).alloc (by simp) _).alloc (by simp; omega) _) hb10)
  clear Fb
  have Gbe := (AddrAt.new (w9) sb bh bl 24).via (by first | exact Below.refl _ _ | exact (Below.refl _ _).alloc (Nat.le_refl _) _ | exact ((Below.refl _ _).alloc (Nat.le_refl _) _).alloc (by simp) _ | exact (((Below.refl _ _).alloc (Nat.le_refl _) _).alloc (by simp) _).alloc (by simp; omega) _) hb10
  try simp only [World.size_alloc] at Gbe
  have Fbe := Lib.hid Gbe
  clear Gbe
  clear hb10 b9
  obtain ⟨p_0, p_1, p_2, p_3, p_l⟩ := Fp.out
  have p_m := Nat.lt_succ_of_lt p_l
  try simp only [Nat.succ_eq_add_one, Nat.add_lt_add_iff_right] at p_m
  obtain ⟨be_0, be_1, be_2, be_l⟩ := Fbe.out
  have be_m := Nat.lt_succ_of_lt be_l
  try simp only [Nat.succ_eq_add_one, Nat.add_lt_add_iff_right] at be_m
  go_wp2_with fail
  refine (H3.out _).mono ?_
  rintro e w11 ⟨rfl, hb11⟩
  have b11 := thenBelow (thenBelow b10 (by first | exact Below.refl _ _ | exact (Below.refl _ _).alloc (Nat.le_refl _) _ | exact ((Below.refl _ _).alloc (Nat.le_refl _) _).alloc (by simp) _ | exact (((Below.refl _ _).alloc (Nat.le_refl _) _).alloc (by simp) _).alloc (by simp; omega) _)) hb11
  clear p_0 p_1 p_2 p_3 p_l p_m be_0 be_1 be_2 be_l be_m
  have Fp := Lib.hid (Fp.out.via (by first | exact Below.refl _ _ | exact (Below.refl _ _).alloc (Nat.le_refl _) _ | exact ((Below.refl _ _).alloc (Nat.le_refl _) _).alloc (by simp) _ | exact (((Below.refl _ _).alloc (Nat.le_refl _) _).alloc (by simp) _).alloc (by simp; omega) _) hb11)
  clear Fbe
  have Gbi := (AddrAt.new (w10) sv vh vl 24).via (by first | exact Below.refl _ _ | exact (Below.refl _ _).alloc (Nat.le_refl _) _ | exact ((Below.refl _ _).alloc (Nat.le_refl _) _).alloc (by simp) _ | exact (((Below.refl _ _).alloc (Nat.le_refl _) _).alloc (by simp) _).alloc (by simp; omega) _) hb11
  try simp only [World.size_alloc] at Gbi
  have Fbi := Lib.hid Gbi
  clear Gbi
  clear hb11 b10
  obtain ⟨p_0, p_1, p_2, p_3, p_l⟩ := Fp.out
  have p_m := Nat.lt_succ_of_lt p_l
  try simp only [Nat.succ_eq_add_one, Nat.add_lt_add_iff_right] at p_m
  obtain ⟨bi_0, bi_1, bi_2, bi_l⟩ := Fbi.out
  have bi_m := Nat.lt_succ_of_lt bi_l
  try simp only [Nat.succ_eq_add_one, Nat.add_lt_add_iff_right] at bi_m
  go_wp2_with fail
  refine (H4.out _).mono ?_
  rintro e w12 ⟨rfl, hb12⟩
  have b12 := thenBelow (thenBelow b11 (by first | exact Below.refl _ _ | exact (Below.refl _ _).alloc (Nat.le_refl _) _ | exact ((Below.refl _ _).alloc (Nat.le_refl _) _).alloc (by simp) _ | exact (((Below.refl _ _).alloc (Nat.le_refl _) _).alloc (by simp) _).alloc (by simp; omega) _)) hb12
  clear p_0 p_1 p_2 p_3 p_l p_m bi_0 bi_1 bi_2 bi_l bi_m
  clear Fp
  clear Fbi
  clear hb12 b11
  rcases HJ.out with hj | ⟨rfl, rfl⟩
  · have hj1 : ¬ je = 0 := (by simpa using hj); have hj2 : (je != 0) = true := (by simpa using hj1); have hj3 : decide (je = 0) = false := (by simpa using hj1)
    rcases HK.out with hk | ⟨rfl, rfl⟩
    · have hk1 : ¬ ke = 0 := (by simpa using hk); have hk2 : (ke != 0) = true := (by simpa using hk1); have hk3 : decide (ke = 0) = false := (by simpa using hk1)
      go_wp2
      go_ret
      exact ⟨rfl, b12⟩
    · skip
      go_wp2
      go_ret
      exact ⟨rfl, b12⟩
  · rcases HK.out with hk | ⟨rfl, rfl⟩
    · have hk1 : ¬ ke = 0 := (by simpa using hk); have hk2 : (ke != 0) = true := (by simpa using hk1); have hk3 : decide (ke = 0) = false := (by simpa using hk1)
      go_wp2
      go_ret
      exact ⟨rfl, b12⟩
    · skip
      go_wp2
      go_ret
      exact ⟨rfl, b12⟩

theorem ahead_b (six : Bool) (T x : Nat) (h : x ≤ T) (W : World) :
    Calls Tryd.prog 16 #[.agg #[.bool six, .int .u64 (aH T), .int .u64 (aL T)], .agg #[.bool six, .int .u64 (aH x), .int .u64 (aL x)]] W fun e w' => e = .returned (.bool false) ∧ Below W.heap.size W w' := by
  refine (ahead_no six six (aH T) (aL T) (aH x) (aL x) (by unfold aH aL; omega) W).mono ?_
  rintro e w' ⟨rfl, rfl⟩
  exact ⟨rfl, by go_grown⟩
theorem PBack.walk (s0 : Bool) (h0 l0 a1 : Int)
    (h00 : 0 ≤ h0) (h01 : h0 ≤ 18446744073709551615) (l00 : 0 ≤ l0) (l01 : l0 ≤ 18446744073709551615) (a10 : -9223372036854775808 ≤ a1) (a11 : a1 ≤ 9223372036854775807) (w : World) (hr : Laid7.Tabs w) :
    Calls Tryd.prog 6 #[.agg #[.bool s0, .int .u64 h0, .int .u64 l0], .int .i64 a1] w fun e w' => e = .returned (.bool true) ∧ Below w.heap.size w w' := by
  obtain ⟨px, hn, hl, hc⟩ := preR_ok s0 h0 l0 a1 h00 h01 l00 l01
  have o1 := fun W : World => preOf_calls s0 h0 l0 a1 h00 h01 l00 l01 a10 a11 _ _ rfl rfl W
  generalize preR s0 h0 l0 a1 = x at *
  generalize lenR s0 a1 = n at *
  have hW := wideN_le s0
  have hx' := lt128 px
  have hk : wideN s0 - n ≤ wideN s0 := by omega
  have hT : topN x (wideN s0 - n) < 2 ^ wideN s0 := topN_lt _ _ _ px hk
  have hTl := topN_low x (wideN s0 - n)
  rw [hl] at hTl
  have hp := two_pow_pos' (wideN s0 - n)
  have hh : ∀ a, a < 2 ^ wideN s0 → ∀ b, decide (lowN a (wideN s0 - n) = x) = b → ∀ W : World, Calls Tryd.prog 15 #[.agg #[.bool s0, .int .u64 (aH x), .int .u64 (aL x), .int .i64 n], .agg #[.bool s0, .int .u64 (aH a), .int .u64 (aL a)]] W fun e w' => e = .returned (.tuple #[.bool b, .int .i64 0]) ∧ Below W.heap.size W w' := fun a ha b hb W =>
    has_ok s0 x a n _ b hx' (lt128 ha) hc hn ha rfl hb W
  have h1 := hh x px true (decide_eq_true hl)
  have h2 := hh _ hT true (decide_eq_true (by rw [lowN_top _ _ _ (Nat.le_refl _)]; exact hl))
  have hz : ∃ (b : Bool) (e0 : Int), ∀ W : World, Calls Tryd.prog 15 #[.agg #[.bool s0, .int .u64 (aH x), .int .u64 (aL x), .int .i64 n], .agg #[.bool false, .int .u64 0, .int .u64 0]] W fun e w' => e = .returned (.tuple #[.bool b, .int .i64 e0]) ∧ Below W.heap.size W w' := by
    cases s0
    · exact ⟨_, 0, fun W => hh 0 (by decide) _ rfl W⟩
    · exact ⟨false, 6, fun W => has_fam true false x 0 n rfl hx' (by decide) hc (by decide) W⟩
  obtain ⟨zb, ze, hz⟩ := hz
  have nx1 : ∃ (sb ub : Bool) (bh bl je ue : Int), (∀ W : World, Calls Tryd.prog 18 #[.agg #[.bool s0, .int .u64 (aH x), .int .u64 (aL x)], .int .i64 (-1)] W fun e w' => e = .returned (.tuple #[.agg #[.bool sb, .int .u64 bh, .int .u64 bl], .int .i64 je]) ∧ Below W.heap.size W w')
      ∧ (∀ W : World, Calls Tryd.prog 15 #[.agg #[.bool s0, .int .u64 (aH x), .int .u64 (aL x), .int .i64 n], .agg #[.bool sb, .int .u64 bh, .int .u64 bl]] W fun e w' => e = .returned (.tuple #[.bool ub, .int .i64 ue]) ∧ Below W.heap.size W w')
      ∧ ((je == 0) = false ∨ (je = 0 ∧ ub = false)) := by
    by_cases h : x = 0
    · exact ⟨_, _, _, _, _, _, fun W => next_num_none s0 x (-1) px (by omega) W, hz, .inl rfl⟩
    · refine ⟨_, false, _, _, _, _, fun W => next_num s0 x (x - 1) (-1) px (by omega) (by omega) (by omega) (by omega) W, hh (x - 1) (by omega) false (decide_eq_false fun e => ?_), .inr ⟨rfl, rfl⟩⟩
      have := lowN_le (x - 1) (wideN s0 - n)
      omega
  have nx2 : ∃ (sb ub : Bool) (bh bl je ue : Int), (∀ W : World, Calls Tryd.prog 18 #[.agg #[.bool s0, .int .u64 (aH (topN x (wideN s0 - n))), .int .u64 (aL (topN x (wideN s0 - n)))], .int .i64 1] W fun e w' => e = .returned (.tuple #[.agg #[.bool sb, .int .u64 bh, .int .u64 bl], .int .i64 je]) ∧ Below W.heap.size W w')
      ∧ (∀ W : World, Calls Tryd.prog 15 #[.agg #[.bool s0, .int .u64 (aH x), .int .u64 (aL x), .int .i64 n], .agg #[.bool sb, .int .u64 bh, .int .u64 bl]] W fun e w' => e = .returned (.tuple #[.bool ub, .int .i64 ue]) ∧ Below W.heap.size W w')
      ∧ ((je == 0) = false ∨ (je = 0 ∧ ub = false)) := by
    by_cases h : topN x (wideN s0 - n) + 1 < 2 ^ wideN s0
    · refine ⟨_, false, _, _, _, _, fun W => next_num s0 _ (topN x (wideN s0 - n) + 1) 1 hT h (by omega) (by omega) (by omega) W, hh _ h false (decide_eq_false fun e => ?_), .inr ⟨rfl, rfl⟩⟩
      have hx2 : x = x / 2 ^ (wideN s0 - n) * 2 ^ (wideN s0 - n) := hl.symm
      have e2 : topN x (wideN s0 - n) + 1 = (x / 2 ^ (wideN s0 - n) + 1) * 2 ^ (wideN s0 - n) := by rw [Nat.add_mul, ← hx2]; omega
      rw [e2] at e
      unfold lowN at e
      rw [Nat.mul_div_cancel _ hp, Nat.add_mul, ← hx2] at e
      omega
    · exact ⟨_, _, _, _, _, _, fun W => next_num_none s0 _ 1 hT (by omega) W, hz, .inl rfl⟩
  obtain ⟨sb, ub, bh, bl, je, ue, n1, u1, j1⟩ := nx1
  obtain ⟨sv, vb, vh, vl, ke, ve, n2, u2, j2⟩ := nx2
  exact PBack.core s0 sb sv ub vb h0 l0 a1 bh bl vh vl je ke ue ve x n _ _ (Lib.hid o1) (Lib.hid (fun W h => pText_ok s0 x n px hn hc W h)) (Lib.hid (fun W h => parse_pre s0 x n px hn hc W h))
    (Lib.hid (fun W => span_ok s0 x n hx' hn hc W)) (Lib.hid h1) (Lib.hid h2) (Lib.hid (fun W => ahead_b s0 _ x (le_topN x _) W)) (Lib.hid n1) (Lib.hid n2) (Lib.hid u1) (Lib.hid u2) (Lib.hid j1) (Lib.hid j2) w hr

theorem PBack.own : ownKnob Tryd.prog.godebug = none := by kernel_rfl
set_option maxRecDepth 100000 in
theorem PBack.lifted (os : Os) (started : os.Started) (H : Type) (enc : TypeId × Value → H) :
    ReturnsInHanded {} Tryd.checked os 6 .any (fun w args => (Rows.preBackSpec.pre enc Tryd.prog Tryd.f6 [] false w args ∧ laidMetH Tryd.prog Rows.preBackRow.laid w) ∧ sizedMet enc Tryd.prog Tryd.f6 (OpenSpec.ofChange Rows.preBackSpec) false w args) (Rows.preBackSpec.post enc Tryd.prog Tryd.f6 false true false false) := by
  refine handed_and_shaped (C := Tryd.checked) (X := fun w _ => laidMetH Tryd.prog Rows.preBackRow.laid w) (fun _ _ _ hh h => h.of_heap hh) PBack.own started (by kernel_rfl) Tryd.func6
    (ChangeSpec.witness_at (enc := enc) (C := Tryd.checked) (os := os) (X := fun w _ => laidMetH Tryd.prog Rows.preBackRow.laid w) false (Laid7.world os) #[.agg #[.bool false, .int .u64 0, .int .u64 0], .int .i64 0] 8 rfl (by kernel_rfl) (by kernel_rfl) (by kernel_rfl) (by kernel_rfl) (by kernel_rfl) (Laid7.met os _)) ?_
  intro W base args ds gs before hval0 hW hcnd _ hL hS
  have hT : Laid7.Tabs W := Laid7.of hL hS
  have hval : ∀ (j : Nat) t v, Tryd.f6.params[j]? = some t → args[j]? = some v → Value.okWide Tryd.prog W .any base t v := hval0
  have hW' := hW
  obtain ⟨p, q, hA0, hV, rfl, hfz, hnd⟩ := hW
  have hA : DataW.TrodAll enc Tryd.prog W 0 (fun _ => true) true Tryd.f6.params.toList args.toList ds p := hA0
  rw [Tryd.params6] at hA hval
  obtain ⟨v0, vs0, d0, ds0, p0, q0, hargs, rfl, rfl, rd0, r0⟩ := trodAll_cons hA
  obtain ⟨v1, vs1, d1, ds1, p1, q1, rfl, rfl, rfl, rd1, r1⟩ := trodAll_cons r0
  obtain ⟨rfl, rfl, rfl⟩ := trodAll_nil r1
  obtain rfl : args = #[v0, v1] := by cases args; simp_all
  obtain ⟨rfl, rfl⟩ := trodVars_none hV
  obtain ⟨s0, h0, l0, rfl, rfl, rfl, wa0, wb0⟩ := openRaw (hval 0 36 v0 rfl rfl) rd0
  obtain ⟨a1, rfl, rfl, rfl, wa1⟩ := open_int Tryd.underlying3 (hval 1 3 v1 rfl rfl) rd1
  clear hA0 hval0
  simp only [List.append_nil] at hW'
  refine (PBack.walk s0 h0 l0 a1 (u64_of_wf wa0).1 (u64_of_wf wa0).2 (u64_of_wf wb0).1 (u64_of_wf wb0).2 (i64_of_wf wa1).1 (i64_of_wf wa1).2 W hT).mono fun e W' ⟨he, hb⟩ => ?_
  subst he
  exact ⟨_, rfl, postBelow (pa := []) (pv := []) hW' hb (fun _ _ _ => trodAll_cons_mk (shut_bool Tryd.underlying4 _) trodAll_mk0) (fun sp _ => trodAll_cons_mk (shutRaw wa0 wb0) (trodAll_cons_mk (shut_int Tryd.underlying3 wa1) trodAll_mk0)) (fun _ _ => rfl) rfl⟩

theorem PBack.holds : Rows.PreBackSaid :=
  OpenClaim.holds_of_wide 6 Tryd.f6 rfl rfl rfl rfl rfl rfl rfl ⟨rfl, rfl, rfl, rfl, rfl⟩ rfl rfl rfl rfl rfl (by kernel_rfl) Tryd.func6 (by kernel_rfl)
    (of_decide_eq_true (by kernel_rfl)) (by unfold Func.isWrapper; first | (rw [if_pos (by decide +kernel)]; kernel_rfl) | (rw [if_neg (by decide +kernel)]; exact ⟨rfl, rfl⟩))
    (fun os started H enc _ => PBack.lifted os started H enc)
#print axioms PBack.holds
theorem PBack.card : Rows.PreBackCardSaid :=
  Claim7.holds_tied_plain_at .later [] Rows.preBackCard.laidKinds true Rows.preBackCard.stood.harness true
    PBack.holds (fun _ h => by cases h) (by kernel_rfl) (fun _ h => by cases h) preBack_row_tie rfl ⟨rfl, rfl⟩ (by kernel_rfl) rfl
    (fun f fn hf hfn => by
      obtain rfl : f = 6 := Option.some.inj ((show Tryd.prog.funcNamed "whipcord/whipcordkeep.PreBack" = some 6 by kernel_rfl).symm.trans hf) |>.symm
      obtain rfl : fn = Tryd.f6 := (Option.some.inj (Tryd.func6.symm.trans hfn)).symm
      exact ⟨by kernel_rfl, fun j t ht => by
        rw [Tryd.params6] at ht
        match j, ht with
        | 0, ht => obtain rfl := Option.some.inj ht; exact (show Tryd.prog.wantsStandIn 36 = false by kernel_rfl)
        | 1, ht => obtain rfl := Option.some.inj ht; exact (show Tryd.prog.wantsStandIn 3 = false by kernel_rfl)
        | j + 2, ht => simp at ht⟩)
    (by kernel_rfl)
#print axioms PBack.card
end Go.Proofs.YthlkofbdfjpfpabDoor
