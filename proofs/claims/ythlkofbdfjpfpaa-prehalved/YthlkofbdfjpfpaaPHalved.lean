/-
  PROVED: whipcordkeep.PreHalved returns true for all arguments, and they read afterwards as they read before. No condition.
-/
import Derived.Test.YthlkofbdfjpfpaaRows
import Derived.Test.YthlkofbdfjpfpaaPreN
import Derived.Test.YthlkofbdfjpfpaaShapesRaw
namespace Go.Proofs.Ythlkofbdfjpfpaa
open Go.ChangeShapes Go.WideShapes Go.ChangeAt Go.RowKit Go.Joins
set_option linter.unusedVariables false
set_option linter.unusedSimpArgs false

set_option maxHeartbeats 4000000 in
set_option maxRecDepth 100000 in
theorem Halved.core (six s2 bw bx by' : Bool) (rh rl n0 qh ql : Int) (x n n1 h2 a l2 t2 : Nat)
    (O1 : Hid (∀ W : World, Calls Try.prog 26 #[.agg #[.bool six, .int .u64 rh, .int .u64 rl], .int .i64 n0] W fun e w' => e = .returned (.agg #[.bool six, .int .u64 (aH x), .int .u64 (aL x), .int .i64 n]) ∧ Below W.heap.size W w'))
    (HV : Hid (∀ W : World, Calls Try.prog 22 #[.agg #[.bool six, .int .u64 (aH x), .int .u64 (aL x), .int .i64 n]] W fun e w' => e = .returned (.tuple #[.agg #[.bool six, .int .u64 (aH x), .int .u64 (aL x), .int .i64 n1], .agg #[.bool six, .int .u64 (aH h2), .int .u64 (aL h2), .int .i64 n1], .int .i64 0]) ∧ Below W.heap.size W w'))
    (OA : Hid (∀ W : World, Calls Try.prog 29 #[.agg #[.bool six, .int .u64 qh, .int .u64 ql]] W fun e w' => e = .returned (.agg #[.bool six, .int .u64 (aH a), .int .u64 (aL a)]) ∧ Below W.heap.size W w'))
    (H1 : Hid (∀ W : World, Calls Try.prog 16 #[.agg #[.bool six, .int .u64 (aH x), .int .u64 (aL x), .int .i64 n], .agg #[.bool six, .int .u64 (aH a), .int .u64 (aL a)]] W fun e w' => e = .returned (.tuple #[.bool bw, .int .i64 0]) ∧ Below W.heap.size W w'))
    (H2 : Hid (∀ W : World, Calls Try.prog 16 #[.agg #[.bool six, .int .u64 (aH x), .int .u64 (aL x), .int .i64 n1], .agg #[.bool six, .int .u64 (aH a), .int .u64 (aL a)]] W fun e w' => e = .returned (.tuple #[.bool bx, .int .i64 0]) ∧ Below W.heap.size W w'))
    (H3 : Hid (∀ W : World, Calls Try.prog 16 #[.agg #[.bool six, .int .u64 (aH h2), .int .u64 (aL h2), .int .i64 n1], .agg #[.bool six, .int .u64 (aH a), .int .u64 (aL a)]] W fun e w' => e = .returned (.tuple #[.bool by', .int .i64 0]) ∧ Below W.heap.size W w'))
    (S1 : Hid (∀ W : World, Calls Try.prog 20 #[.agg #[.bool six, .int .u64 (aH x), .int .u64 (aL x), .int .i64 n1]] W fun e w' => e = .returned (.tuple #[.agg #[.bool six, .int .u64 (aH x), .int .u64 (aL x)], .agg #[.bool six, .int .u64 (aH l2), .int .u64 (aL l2)], .int .i64 0]) ∧ Below W.heap.size W w'))
    (S2 : Hid (∀ W : World, Calls Try.prog 20 #[.agg #[.bool six, .int .u64 (aH h2), .int .u64 (aL h2), .int .i64 n1]] W fun e w' => e = .returned (.tuple #[.agg #[.bool six, .int .u64 (aH h2), .int .u64 (aL h2)], .agg #[.bool six, .int .u64 (aH t2), .int .u64 (aL t2)], .int .i64 0]) ∧ Below W.heap.size W w'))
    (NX : Hid (∀ W : World, Calls Try.prog 30 #[.agg #[.bool six, .int .u64 (aH l2), .int .u64 (aL l2)], .int .i64 1] W fun e w' => e = .returned (.tuple #[.agg #[.bool six, .int .u64 (aH h2), .int .u64 (aL h2)], .int .i64 0]) ∧ Below W.heap.size W w'))
    (CM : Hid (∀ W : World, Calls Try.prog 24 #[.agg #[.bool six, .int .u64 (aH x), .int .u64 (aL x), .int .i64 n1], .agg #[.bool six, .int .u64 (aH h2), .int .u64 (aL h2), .int .i64 n1]] W fun e w' => e = .returned (.tuple #[.agg #[.bool six, .int .u64 (aH x), .int .u64 (aL x), .int .i64 n], .int .i64 0]) ∧ Below W.heap.size W w'))
    (HB : Hid ((bw = true ∧ bx = true ∧ by' = false) ∨ (bw = true ∧ bx = false ∧ by' = true) ∨ (bw = false ∧ bx = false ∧ by' = false))) (w : World) :
    Calls Try.prog 9 #[.agg #[.bool six, .int .u64 rh, .int .u64 rl], .int .i64 n0, .agg #[.bool s2, .int .u64 qh, .int .u64 ql]] w fun e w' => e = .returned (.bool true) ∧ Below w.heap.size w w' := by
  go_enter Try.func9, Try.ntmps9
  go_wp2_with fail
  refine (O1.out _).mono ?_
  rintro e w1 ⟨rfl, hb1⟩
  have b1 := thenBelow (show Below w.heap.size w _ from (by first | exact Below.refl _ _ | exact (Below.refl _ _).alloc (Nat.le_refl _) _ | exact ((Below.refl _ _).alloc (Nat.le_refl _) _).alloc (by simp) _ | exact (((Below.refl _ _).alloc (Nat.le_refl _) _).alloc (by simp) _).alloc (by simp; omega) _)) hb1
  have Gr := (AddrAt.new (w) six rh rl 41).via (by first | exact Below.refl _ _ | exact (Below.refl _ _).alloc (Nat.le_refl _) _ | exact ((Below.refl _ _).alloc (Nat.le_refl _) _).alloc (by simp) _ | exact (((Below.refl _ _).alloc (Nat.le_refl _) _).alloc (by simp) _).alloc (by simp; omega) _) hb1
  try simp only [World.size_alloc] at Gr
  have Fr := Lib.hid Gr
  clear Gr
  have Gq := (AddrV.new ((w.alloc (.cells #[.bool six, .int .u64 rh, .int .u64 rl] 41))) s2 qh ql 41).via (by first | exact Below.refl _ _ | exact (Below.refl _ _).alloc (Nat.le_refl _) _ | exact ((Below.refl _ _).alloc (Nat.le_refl _) _).alloc (by simp) _ | exact (((Below.refl _ _).alloc (Nat.le_refl _) _).alloc (by simp) _).alloc (by simp; omega) _) hb1
  try simp only [World.size_alloc] at Gq
  have Fq := Lib.hid Gq
  clear Gq
  have z1 : w.heap.size + 1 < w1.heap.size := by have := hb1.size; simp at this; omega
  clear hb1
  go_wp2_with fail
  refine (HV.out _).mono ?_
  rintro e w2 ⟨rfl, hb2⟩
  have b2 := thenBelow (thenBelow b1 (by first | exact Below.refl _ _ | exact (Below.refl _ _).alloc (Nat.le_refl _) _ | exact ((Below.refl _ _).alloc (Nat.le_refl _) _).alloc (by simp) _ | exact (((Below.refl _ _).alloc (Nat.le_refl _) _).alloc (by simp) _).alloc (by simp; omega) _)) hb2
  have Fr := Lib.hid (Fr.out.via (by first | exact Below.refl _ _ | exact (Below.refl _ _).alloc (Nat.le_refl _) _ | exact ((Below.refl _ _).alloc (Nat.le_refl _) _).alloc (by simp) _ | exact (((Below.refl _ _).alloc (Nat.le_refl _) _).alloc (by simp) _).alloc (by simp; omega) _) hb2)
  have Fq := Lib.hid (Fq.out.via (by first | exact Below.refl _ _ | exact (Below.refl _ _).alloc (Nat.le_refl _) _ | exact ((Below.refl _ _).alloc (Nat.le_refl _) _).alloc (by simp) _ | exact (((Below.refl _ _).alloc (Nat.le_refl _) _).alloc (by simp) _).alloc (by simp; omega) _) hb2)
  have Gp := (PreV.new (w1) six (aH x) (aL x) n 26).via (by first | exact Below.refl _ _ | exact (Below.refl _ _).alloc (Nat.le_refl _) _ | exact ((Below.refl _ _).alloc (Nat.le_refl _) _).alloc (by simp) _ | exact (((Below.refl _ _).alloc (Nat.le_refl _) _).alloc (by simp) _).alloc (by simp; omega) _) hb2
  try simp only [World.size_alloc] at Gp
  have Fp := Lib.hid Gp
  clear Gp
  clear hb2 b1
  obtain ⟨r_0, r_1, r_2, r_l⟩ := Fr.out
  have r_m := Nat.lt_succ_of_lt r_l
  try simp only [Nat.succ_eq_add_one, Nat.add_lt_add_iff_right] at r_m
  obtain ⟨q_0, q_1, q_2, q_l⟩ := Fq.out.1
  have q_m := Nat.lt_succ_of_lt q_l
  try simp only [Nat.succ_eq_add_one, Nat.add_lt_add_iff_right] at q_m
  have qf := Fq.out.2 0
  go_wp2_with fail
  refine (OA.out _).mono ?_
  rintro e w3 ⟨rfl, hb3⟩
  have hs2 := b2.size
  have b3 := thenBelow (((b2.setCell (p := ⟨w.heap.size + 1, 0, none⟩) (by simp) (.bool six)).alloc (by simp; omega) _).alloc (by simp; omega) _) hb3
  have Gp := (((Fp.out.far (p := ⟨w.heap.size + 1, 0, none⟩) (by show w1.heap.size ≠ w.heap.size + 1; omega) (.bool six)).alloc _).alloc _).keep hb3
  have Glo := (PreAt.new (w2.setCell ⟨w.heap.size + 1, 0, none⟩ (.bool six)) six (aH x) (aL x) n1 26).via (by exact (Below.refl _ _).alloc (Nat.le_refl _) _) hb3
  have Ghi := (PreAt.new ((w2.setCell ⟨w.heap.size + 1, 0, none⟩ (.bool six)).alloc (.cells #[.bool six, .int .u64 (aH x), .int .u64 (aL x), .int .i64 n1] 26)) six (aH h2) (aL h2) n1 26).via (by exact Below.refl _ _) hb3
  simp only [World.size_alloc, World.size_setCell] at Glo Ghi
  clear r_0 r_1 r_2 r_l r_m q_0 q_1 q_2 q_l q_m qf Fr Fq Fp hb3 b2 hs2
  have Fp := Lib.hid Gp.1
  have Flo := Lib.hid Glo
  have Fhi := Lib.hid Ghi
  clear Gp Glo Ghi
  obtain ⟨p_0, p_1, p_2, p_3, p_l⟩ := Fp.out
  have p_m := Nat.lt_succ_of_lt p_l
  try simp only [Nat.succ_eq_add_one, Nat.add_lt_add_iff_right] at p_m
  go_wp2_with fail
  refine (H1.out _).mono ?_
  rintro e w4 ⟨rfl, hb4⟩
  have b4 := thenBelow (thenBelow b3 (by first | exact Below.refl _ _ | exact (Below.refl _ _).alloc (Nat.le_refl _) _ | exact ((Below.refl _ _).alloc (Nat.le_refl _) _).alloc (by simp) _ | exact (((Below.refl _ _).alloc (Nat.le_refl _) _).alloc (by simp) _).alloc (by simp; omega) _)) hb4
  clear p_0 p_1 p_2 p_3 p_l p_m
  have Fp := Lib.hid (Fp.out.via (by first | exact Below.refl _ _ | exact (Below.refl _ _).alloc (Nat.le_refl _) _ | exact ((Below.refl _ _).alloc (Nat.le_refl _) _).alloc (by simp) _ | exact (((Below.refl _ _).alloc (Nat.le_refl _) _).alloc (by simp) _).alloc (by simp; omega) _) hb4)
  have Flo := Lib.hid (Flo.out.via (by first | exact Below.refl _ _ | exact (Below.refl _ _).alloc (Nat.le_refl _) _ | exact ((Below.refl _ _).alloc (Nat.le_refl _) _).alloc (by simp) _ | exact (((Below.refl _ _).alloc (Nat.le_refl _) _).alloc (by simp) _).alloc (by simp; omega) _) hb4)
  have Fhi := Lib.hid (Fhi.out.via (by first | exact Below.refl _ _ | exact (Below.refl _ _).alloc (Nat.le_refl _) _ | exact ((Below.refl _ _).alloc (Nat.le_refl _) _).alloc (by simp) _ | exact (((Below.refl _ _).alloc (Nat.le_refl _) _).alloc (by simp) _).alloc (by simp; omega) _) hb4)
  have Ga := (AddrAt.new (w3) six (aH a) (aL a) 24).via (by first | exact Below.refl _ _ | exact (Below.refl _ _).alloc (Nat.le_refl _) _ | exact ((Below.refl _ _).alloc (Nat.le_refl _) _).alloc (by simp) _ | exact (((Below.refl _ _).alloc (Nat.le_refl _) _).alloc (by simp) _).alloc (by simp; omega) _) hb4
  try simp only [World.size_alloc] at Ga
  have Fa := Lib.hid Ga
  clear Ga
  clear hb4 b3
  obtain ⟨lo_0, lo_1, lo_2, lo_3, lo_l⟩ := Flo.out
  have lo_m := Nat.lt_succ_of_lt lo_l
  try simp only [Nat.succ_eq_add_one, Nat.add_lt_add_iff_right] at lo_m
  obtain ⟨a_0, a_1, a_2, a_l⟩ := Fa.out
  have a_m := Nat.lt_succ_of_lt a_l
  try simp only [Nat.succ_eq_add_one, Nat.add_lt_add_iff_right] at a_m
  go_wp2_with fail
  refine (H2.out _).mono ?_
  rintro e w5 ⟨rfl, hb5⟩
  have b5 := thenBelow (thenBelow b4 (by first | exact Below.refl _ _ | exact (Below.refl _ _).alloc (Nat.le_refl _) _ | exact ((Below.refl _ _).alloc (Nat.le_refl _) _).alloc (by simp) _ | exact (((Below.refl _ _).alloc (Nat.le_refl _) _).alloc (by simp) _).alloc (by simp; omega) _)) hb5
  clear lo_0 lo_1 lo_2 lo_3 lo_l lo_m a_0 a_1 a_2 a_l a_m
  have Fp := Lib.hid (Fp.out.via (by first | exact Below.refl _ _ | exact (Below.refl _ _).alloc (Nat.le_refl _) _ | exact ((Below.refl _ _).alloc (Nat.le_refl _) _).alloc (by simp) _ | exact (((Below.refl _ _).alloc (Nat.le_refl _) _).alloc (by simp) _).alloc (by simp; omega) _) hb5)
  have Flo := Lib.hid (Flo.out.via (by first | exact Below.refl _ _ | exact (Below.refl _ _).alloc (Nat.le_refl _) _ | exact ((Below.refl _ _).alloc (Nat.le_refl _) _).alloc (by simp) _ | exact (((Below.refl _ _).alloc (Nat.le_refl _) _).alloc (by simp) _).alloc (by simp; omega) _) hb5)
  have Fhi := Lib.hid (Fhi.out.via (by first | exact Below.refl _ _ | exact (Below.refl _ _).alloc (Nat.le_refl _) _ | exact ((Below.refl _ _).alloc (Nat.le_refl _) _).alloc (by simp) _ | exact (((Below.refl _ _).alloc (Nat.le_refl _) _).alloc (by simp) _).alloc (by simp; omega) _) hb5)
  have Fa := Lib.hid (Fa.out.via (by first | exact Below.refl _ _ | exact (Below.refl _ _).alloc (Nat.le_refl _) _ | exact ((Below.refl _ _).alloc (Nat.le_refl _) _).alloc (by simp) _ | exact (((Below.refl _ _).alloc (Nat.le_refl _) _).alloc (by simp) _).alloc (by simp; omega) _) hb5)
  clear hb5 b4
  obtain ⟨hi_0, hi_1, hi_2, hi_3, hi_l⟩ := Fhi.out
  have hi_m := Nat.lt_succ_of_lt hi_l
  try simp only [Nat.succ_eq_add_one, Nat.add_lt_add_iff_right] at hi_m
  obtain ⟨a_0, a_1, a_2, a_l⟩ := Fa.out
  have a_m := Nat.lt_succ_of_lt a_l
  try simp only [Nat.succ_eq_add_one, Nat.add_lt_add_iff_right] at a_m
  go_wp2_with fail
  refine (H3.out _).mono ?_
  rintro e w6 ⟨rfl, hb6⟩
  have b6 := thenBelow (thenBelow b5 (by first | exact Below.refl _ _ | exact (Below.refl _ _).alloc (Nat.le_refl _) _ | exact ((Below.refl _ _).alloc (Nat.le_refl _) _).alloc (by simp) _ | exact (((Below.refl _ _).alloc (Nat.le_refl _) _).alloc (by simp) _).alloc (by simp; omega) _)) hb6
  clear hi_0 hi_1 hi_2 hi_3 hi_l hi_m a_0 a_1 a_2 a_l a_m
  have Fp := Lib.hid (Fp.out.via (by first | exact Below.refl _ _ | exact (Below.refl _ _).alloc (Nat.le_refl _) _ | exact ((Below.refl _ _).alloc (Nat.le_refl _) _).alloc (by simp) _ | exact (((Below.refl _ _).alloc (Nat.le_refl _) _).alloc (by simp) _).alloc (by simp; omega) _) hb6)
  have Flo := Lib.hid (Flo.out.via (by first | exact Below.refl _ _ | exact (Below.refl _ _).alloc (Nat.le_refl _) _ | exact ((Below.refl _ _).alloc (Nat.le_refl _) _).alloc (by simp) _ | exact (((Below.refl _ _).alloc (Nat.le_refl _) _).alloc (by simp) _).alloc (by simp; omega) _) hb6)
  have Fhi := Lib.hid (Fhi.out.via (by first | exact Below.refl _ _ | exact (Below.refl _ _).alloc (Nat.le_refl _) _ | exact ((Below.refl _ _).alloc (Nat.le_refl _) _).alloc (by simp) _ | exact (((Below.refl _ _).alloc (Nat.le_refl _) _).alloc (by simp) _).alloc (by simp; omega) _) hb6)
  clear Fa
  clear hb6 b5
  obtain ⟨lo_0, lo_1, lo_2, lo_3, lo_l⟩ := Flo.out
  have lo_m := Nat.lt_succ_of_lt lo_l
  try simp only [Nat.succ_eq_add_one, Nat.add_lt_add_iff_right] at lo_m
  go_wp2_with fail
  refine (S1.out _).mono ?_
  rintro e w7 ⟨rfl, hb7⟩
  have b7 := thenBelow (thenBelow b6 (by first | exact Below.refl _ _ | exact (Below.refl _ _).alloc (Nat.le_refl _) _ | exact ((Below.refl _ _).alloc (Nat.le_refl _) _).alloc (by simp) _ | exact (((Below.refl _ _).alloc (Nat.le_refl _) _).alloc (by simp) _).alloc (by simp; omega) _)) hb7
  clear lo_0 lo_1 lo_2 lo_3 lo_l lo_m
  have Fp := Lib.hid (Fp.out.via (by first | exact Below.refl _ _ | exact (Below.refl _ _).alloc (Nat.le_refl _) _ | exact ((Below.refl _ _).alloc (Nat.le_refl _) _).alloc (by simp) _ | exact (((Below.refl _ _).alloc (Nat.le_refl _) _).alloc (by simp) _).alloc (by simp; omega) _) hb7)
  have Flo := Lib.hid (Flo.out.via (by first | exact Below.refl _ _ | exact (Below.refl _ _).alloc (Nat.le_refl _) _ | exact ((Below.refl _ _).alloc (Nat.le_refl _) _).alloc (by simp) _ | exact (((Below.refl _ _).alloc (Nat.le_refl _) _).alloc (by simp) _).alloc (by simp; omega) _) hb7)
  have Fhi := Lib.hid (Fhi.out.via (by first | exact Below.refl _ _ | exact (Below.refl _ _).alloc (Nat.le_refl _) _ | exact ((Below.refl _ _).alloc (Nat.le_refl _) _).alloc (by simp) _ | exact (((Below.refl _ _).alloc (Nat.le_refl _) _).alloc (by simp) _).alloc (by simp; omega) _) hb7)
  clear hb7 b6
  obtain ⟨hi_0, hi_1, hi_2, hi_3, hi_l⟩ := Fhi.out
  have hi_m := Nat.lt_succ_of_lt hi_l
  try simp only [Nat.succ_eq_add_one, Nat.add_lt_add_iff_right] at hi_m
  go_wp2_with fail
  refine (S2.out _).mono ?_
  rintro e w8 ⟨rfl, hb8⟩
  have b8 := thenBelow (thenBelow b7 (by first | exact Below.refl _ _ | exact (Below.refl _ _).alloc (Nat.le_refl _) _ | exact ((Below.refl _ _).alloc (Nat.le_refl _) _).alloc (by simp) _ | exact (((Below.refl _ _).alloc (Nat.le_refl _) _).alloc (by simp) _).alloc (by simp; omega) _)) hb8
  clear hi_0 hi_1 hi_2 hi_3 hi_l hi_m
  have Fp := Lib.hid (Fp.out.via (by first | exact Below.refl _ _ | exact (Below.refl _ _).alloc (Nat.le_refl _) _ | exact ((Below.refl _ _).alloc (Nat.le_refl _) _).alloc (by simp) _ | exact (((Below.refl _ _).alloc (Nat.le_refl _) _).alloc (by simp) _).alloc (by simp; omega) _) hb8)
  have Flo := Lib.hid (Flo.out.via (by first | exact Below.refl _ _ | exact (Below.refl _ _).alloc (Nat.le_refl _) _ | exact ((Below.refl _ _).alloc (Nat.le_refl _) _).alloc (by simp) _ | exact (((Below.refl _ _).alloc (Nat.le_refl _) _).alloc (by simp) _).alloc (by simp; omega) _) hb8)
  have Fhi := Lib.hid (Fhi.out.via (by first | exact Below.refl _ _ | exact (Below.refl _ _).alloc (Nat.le_refl _) _ | exact ((Below.refl _ _).alloc (Nat.le_refl _) _).alloc (by simp) _ | exact (((Below.refl _ _).alloc (Nat.le_refl _) _).alloc (by simp) _).alloc (by simp; omega) _) hb8)
  have Glast := (AddrAt.new ((w7.alloc (.cells #[.bool six, .int .u64 (aH x), .int .u64 (aL x)] 24))) six (aH l2) (aL l2) 24).via (by first | exact Below.refl _ _ | exact (Below.refl _ _).alloc (Nat.le_refl _) _ | exact ((Below.refl _ _).alloc (Nat.le_refl _) _).alloc (by simp) _ | exact (((Below.refl _ _).alloc (Nat.le_refl _) _).alloc (by simp) _).alloc (by simp; omega) _) hb8
  try simp only [World.size_alloc] at Glast
  have Flast := Lib.hid Glast
  clear Glast
  clear hb8 b7
  obtain ⟨last_0, last_1, last_2, last_l⟩ := Flast.out
  have last_m := Nat.lt_succ_of_lt last_l
  try simp only [Nat.succ_eq_add_one, Nat.add_lt_add_iff_right] at last_m
  go_wp2_with fail
  refine (NX.out _).mono ?_
  rintro e w9 ⟨rfl, hb9⟩
  have b9 := thenBelow (thenBelow b8 (by first | exact Below.refl _ _ | exact (Below.refl _ _).alloc (Nat.le_refl _) _ | exact ((Below.refl _ _).alloc (Nat.le_refl _) _).alloc (by simp) _ | exact (((Below.refl _ _).alloc (Nat.le_refl _) _).alloc (by simp) _).alloc (by simp; omega) _)) hb9
  clear last_0 last_1 last_2 last_l last_m
  have Fp := Lib.hid (Fp.out.via (by first | exact Below.refl _ _ | exact (Below.refl _ _).alloc (Nat.le_refl _) _ | exact ((Below.refl _ _).alloc (Nat.le_refl _) _).alloc (by simp) _ | exact (((Below.refl _ _).alloc (Nat.le_refl _) _).alloc (by simp) _).alloc (by simp; omega) _) hb9)
  have Flo := Lib.hid (Flo.out.via (by first | exact Below.refl _ _ | exact (Below.refl _ _).alloc (Nat.le_refl _) _ | exact ((Below.refl _ _).alloc (Nat.le_refl _) _).alloc (by simp) _ | exact (((Below.refl _ _).alloc (Nat.le_refl _) _).alloc (by simp) _).alloc (by simp; omega) _) hb9)
  have Fhi := Lib.hid (Fhi.out.via (by first | exact Below.refl _ _ | exact (Below.refl _ _).alloc (Nat.le_refl _) _ | exact ((Below.refl _ _).alloc (Nat.le_refl _) _).alloc (by simp) _ | exact (((Below.refl _ _).alloc (Nat.le_refl _) _).alloc (by simp) _).alloc (by simp; omega) _) hb9)
  clear Flast
  have Gfirst := (AddrAt.new (w8) six (aH h2) (aL h2) 24).via (by first | exact Below.refl _ _ | exact (Below.refl _ _).alloc (Nat.le_refl _) _ | exact ((Below.refl _ _).alloc (Nat.le_refl _) _).alloc (by simp) _ | exact (((Below.refl _ _).alloc (Nat.le_refl _) _).alloc (by simp) _).alloc (by simp; omega) _) hb9
  try simp only [World.size_alloc] at Gfirst
  have Ffirst := Lib.hid Gfirst
  clear Gfirst
  clear hb9 b8
  obtain ⟨lo_0, lo_1, lo_2, lo_3, lo_l⟩ := Flo.out
  have lo_m := Nat.lt_succ_of_lt lo_l
  try simp only [Nat.succ_eq_add_one, Nat.add_lt_add_iff_right] at lo_m
  obtain ⟨hi_0, hi_1, hi_2, hi_3, hi_l⟩ := Fhi.out
  have hi_m := Nat.lt_succ_of_lt hi_l
  try simp only [Nat.succ_eq_add_one, Nat.add_lt_add_iff_right] at hi_m
  go_wp2_with fail
  refine (CM.out _).mono ?_
  rintro e w10 ⟨rfl, hb10⟩
  have b10 := thenBelow (thenBelow b9 (by first | exact Below.refl _ _ | exact (Below.refl _ _).alloc (Nat.le_refl _) _ | exact ((Below.refl _ _).alloc (Nat.le_refl _) _).alloc (by simp) _ | exact (((Below.refl _ _).alloc (Nat.le_refl _) _).alloc (by simp) _).alloc (by simp; omega) _)) hb10
  clear lo_0 lo_1 lo_2 lo_3 lo_l lo_m hi_0 hi_1 hi_2 hi_3 hi_l hi_m
  have Fp := Lib.hid (Fp.out.via (by first | exact Below.refl _ _ | exact (Below.refl _ _).alloc (Nat.le_refl _) _ | exact ((Below.refl _ _).alloc (Nat.le_refl _) _).alloc (by simp) _ | exact (((Below.refl _ _).alloc (Nat.le_refl _) _).alloc (by simp) _).alloc (by simp; omega) _) hb10)
  clear Flo
  clear Fhi
  have Ffirst := Lib.hid (Ffirst.out.via (by first | exact Below.refl _ _ | exact (Below.refl _ _).alloc (Nat.le_refl _) _ | exact ((Below.refl _ _).alloc (Nat.le_refl _) _).alloc (by simp) _ | exact (((Below.refl _ _).alloc (Nat.le_refl _) _).alloc (by simp) _).alloc (by simp; omega) _) hb10)
  have Gnext := (AddrAt.new (w9) six (aH h2) (aL h2) 24).via (by first | exact Below.refl _ _ | exact (Below.refl _ _).alloc (Nat.le_refl _) _ | exact ((Below.refl _ _).alloc (Nat.le_refl _) _).alloc (by simp) _ | exact (((Below.refl _ _).alloc (Nat.le_refl _) _).alloc (by simp) _).alloc (by simp; omega) _) hb10
  try simp only [World.size_alloc] at Gnext
  have Fnext := Lib.hid Gnext
  clear Gnext
  clear hb10 b9
  go_wp2_with fail
  refine (preSure_calls _).mono ?_
  rintro e w11 ⟨rfl, hb11⟩
  have b11 := thenBelow (thenBelow b10 (by first | exact Below.refl _ _ | exact (Below.refl _ _).alloc (Nat.le_refl _) _ | exact ((Below.refl _ _).alloc (Nat.le_refl _) _).alloc (by simp) _ | exact (((Below.refl _ _).alloc (Nat.le_refl _) _).alloc (by simp) _).alloc (by simp; omega) _)) hb11
  have Fp := Lib.hid (Fp.out.via (by first | exact Below.refl _ _ | exact (Below.refl _ _).alloc (Nat.le_refl _) _ | exact ((Below.refl _ _).alloc (Nat.le_refl _) _).alloc (by simp) _ | exact (((Below.refl _ _).alloc (Nat.le_refl _) _).alloc (by simp) _).alloc (by simp; omega) _) hb11)
  have Ffirst := Lib.hid (Ffirst.out.via (by first | exact Below.refl _ _ | exact (Below.refl _ _).alloc (Nat.le_refl _) _ | exact ((Below.refl _ _).alloc (Nat.le_refl _) _).alloc (by simp) _ | exact (((Below.refl _ _).alloc (Nat.le_refl _) _).alloc (by simp) _).alloc (by simp; omega) _) hb11)
  have Fnext := Lib.hid (Fnext.out.via (by first | exact Below.refl _ _ | exact (Below.refl _ _).alloc (Nat.le_refl _) _ | exact ((Below.refl _ _).alloc (Nat.le_refl _) _).alloc (by simp) _ | exact (((Below.refl _ _).alloc (Nat.le_refl _) _).alloc (by simp) _).alloc (by simp; omega) _) hb11)
  have Gboth := (PreAt.new (w10) six (aH x) (aL x) n 26).via (by first | exact Below.refl _ _ | exact (Below.refl _ _).alloc (Nat.le_refl _) _ | exact ((Below.refl _ _).alloc (Nat.le_refl _) _).alloc (by simp) _ | exact (((Below.refl _ _).alloc (Nat.le_refl _) _).alloc (by simp) _).alloc (by simp; omega) _) hb11
  try simp only [World.size_alloc] at Gboth
  have Fboth := Lib.hid Gboth
  clear Gboth
  clear hb11 b10
  obtain ⟨next_0, next_1, next_2, next_l⟩ := Fnext.out
  have next_m := Nat.lt_succ_of_lt next_l
  try simp only [Nat.succ_eq_add_one, Nat.add_lt_add_iff_right] at next_m
  obtain ⟨first_0, first_1, first_2, first_l⟩ := Ffirst.out
  have first_m := Nat.lt_succ_of_lt first_l
  try simp only [Nat.succ_eq_add_one, Nat.add_lt_add_iff_right] at first_m
  obtain ⟨both_0, both_1, both_2, both_3, both_l⟩ := Fboth.out
  have both_m := Nat.lt_succ_of_lt both_l
  try simp only [Nat.succ_eq_add_one, Nat.add_lt_add_iff_right] at both_m
  obtain ⟨p_0, p_1, p_2, p_3, p_l⟩ := Fp.out
  have p_m := Nat.lt_succ_of_lt p_l
  try simp only [Nat.succ_eq_add_one, Nat.add_lt_add_iff_right] at p_m
  rcases HB.out with ⟨rfl, rfl, rfl⟩ | ⟨rfl, rfl, rfl⟩ | ⟨rfl, rfl, rfl⟩
  all_goals
    go_wp2
    go_ret
    exact ⟨rfl, (thenBelow b11 (by first | exact Below.refl _ _ | exact (Below.refl _ _).alloc (Nat.le_refl _) _ | exact ((Below.refl _ _).alloc (Nat.le_refl _) _).alloc (by simp) _ | exact (((Below.refl _ _).alloc (Nat.le_refl _) _).alloc (by simp) _).alloc (by simp; omega) _))⟩

set_option maxHeartbeats 1000000 in
set_option maxRecDepth 100000 in
theorem Halved.none_ (six s2 : Bool) (rh rl n0 qh ql : Int) (x : Nat) (N : Int) (hN : ((wideN six : Nat) : Int) = N)
    (O1 : Hid (∀ W : World, Calls Try.prog 26 #[.agg #[.bool six, .int .u64 rh, .int .u64 rl], .int .i64 n0] W fun e w' => e = .returned (.agg #[.bool six, .int .u64 (aH x), .int .u64 (aL x), .int .i64 N]) ∧ Below W.heap.size W w'))
    (HV : Hid (∀ W : World, Calls Try.prog 22 #[.agg #[.bool six, .int .u64 (aH x), .int .u64 (aL x), .int .i64 N]] W fun e w' => e = .returned (.tuple #[.agg #[.bool false, .int .u64 0, .int .u64 0, .int .i64 0], .agg #[.bool false, .int .u64 0, .int .u64 0, .int .i64 0], .int .i64 7]) ∧ Below W.heap.size W w'))
    (w : World) :
    Calls Try.prog 9 #[.agg #[.bool six, .int .u64 rh, .int .u64 rl], .int .i64 n0, .agg #[.bool s2, .int .u64 qh, .int .u64 ql]] w fun e w' => e = .returned (.bool true) ∧ Below w.heap.size w w' := by
  have HN := Lib.hid hN
  clear hN
  go_enter Try.func9, Try.ntmps9
  go_wp2_with fail
  refine (O1.out _).mono ?_
  rintro e w1 ⟨rfl, hb1⟩
  have b1 := thenBelow (show Below w.heap.size w _ from (by first | exact Below.refl _ _ | exact (Below.refl _ _).alloc (Nat.le_refl _) _ | exact ((Below.refl _ _).alloc (Nat.le_refl _) _).alloc (by simp) _ | exact (((Below.refl _ _).alloc (Nat.le_refl _) _).alloc (by simp) _).alloc (by simp; omega) _)) hb1
  clear hb1
  go_wp2_with fail
  refine (HV.out _).mono ?_
  rintro e w2 ⟨rfl, hb2⟩
  have b2 := thenBelow (thenBelow b1 (by first | exact Below.refl _ _ | exact (Below.refl _ _).alloc (Nat.le_refl _) _ | exact ((Below.refl _ _).alloc (Nat.le_refl _) _).alloc (by simp) _ | exact (((Below.refl _ _).alloc (Nat.le_refl _) _).alloc (by simp) _).alloc (by simp; omega) _)) hb2
  have Gp := (PreAt.new (w1) six (aH x) (aL x) N 26).via (by first | exact Below.refl _ _ | exact (Below.refl _ _).alloc (Nat.le_refl _) _ | exact ((Below.refl _ _).alloc (Nat.le_refl _) _).alloc (by simp) _ | exact (((Below.refl _ _).alloc (Nat.le_refl _) _).alloc (by simp) _).alloc (by simp; omega) _) hb2
  try simp only [World.size_alloc] at Gp
  have Fp := Lib.hid Gp
  clear Gp
  clear hb2 b1
  obtain ⟨p_0, p_1, p_2, p_3, p_l⟩ := Fp.out
  have p_m := Nat.lt_succ_of_lt p_l
  try simp only [Nat.succ_eq_add_one, Nat.add_lt_add_iff_right] at p_m
  go_wp2_with fail
  go_region_held3 (fun w' => w'.cell? ⟨w1.heap.size, 0, none⟩ = some (.bool six) ∧ w'.cell? ⟨w1.heap.size, 3, none⟩ = some (.int .i64 N)) (first | (simp (disch := first | assumption | (simp; done) | (simp; omega)) [go_sem, World.cell?_alloc_past, p_0, p_3]; done) | exact ⟨P4.1, P4.2.2.2.1⟩)
    (first
      | (go_at_call 27; refine (wide_calls six _).mono ?_; rintro e w' ⟨rfl, rfl⟩; rw [HN.out])
      | (go_at_call 28; refine (preSure_calls _).mono ?_; rintro e w4 ⟨rfl, hb4⟩; have P4 := ((Fp.out.alloc _).alloc _).keep ((Below.refl _ _).drew.trans (hb4.mono (Nat.le_refl _))); have b4 := thenBelow (((b2.alloc (by have := b2.size; omega) _).alloc (by have := b2.size; simp; omega) _).drew) hb4; clear hb4))
  go_wp2
  go_ret
  exact ⟨rfl, b4⟩

theorem Halved.walk (s0 : Bool) (h0 l0 a1 : Int) (s2 : Bool) (h2 l2 : Int)
    (h00 : 0 ≤ h0) (h01 : h0 ≤ 18446744073709551615) (l00 : 0 ≤ l0) (l01 : l0 ≤ 18446744073709551615) (a10 : -9223372036854775808 ≤ a1) (a11 : a1 ≤ 9223372036854775807)
    (h20 : 0 ≤ h2) (h21 : h2 ≤ 18446744073709551615) (l20 : 0 ≤ l2) (l21 : l2 ≤ 18446744073709551615) (w : World) :
    Calls Try.prog 9 #[.agg #[.bool s0, .int .u64 h0, .int .u64 l0], .int .i64 a1, .agg #[.bool s2, .int .u64 h2, .int .u64 l2]] w fun e w' => e = .returned (.bool true) ∧ Below w.heap.size w w' := by
  have px := preR_pv s0 h0 l0 a1 h00 h01 l00 l01
  have o1 := fun W : World => preOf_calls s0 h0 l0 a1 h00 h01 l00 l01 a10 a11 _ _ rfl rfl W
  have pa := numR_lt s0 h2 l2 h20 h21 l20 l21
  have oa := fun W : World => addrOfNum_calls s0 h2 l2 h20 h21 l20 l21 _ rfl W
  generalize preR s0 h0 l0 a1 = x at *
  generalize numR s0 h2 l2 = a at *
  generalize lenR s0 a1 = n at *
  by_cases hn : n < wideN s0
  · have pl := low_pv px hn
    have ph := hi_pv px hn
    have nx := hi_next px hn
    exact Halved.core s0 s2 _ _ _ h0 l0 a1 h2 l2 x n (n + 1) (hiX s0 x n) a (topN x (wideN s0 - (n + 1))) _ (Lib.hid o1) (Lib.hid (halves_pv s0 x n _ px hn rfl)) (Lib.hid oa)
      (Lib.hid (has_pv s0 x n a _ px pa rfl)) (Lib.hid (has_pv s0 x (n + 1) a _ pl pa rfl)) (Lib.hid (has_pv s0 _ (n + 1) a _ ph pa rfl))
      (Lib.hid (span_pv s0 x (n + 1) _ pl rfl)) (Lib.hid (span_pv s0 _ (n + 1) _ ph rfl))
      (Lib.hid (next_num s0 _ _ 1 (topN_lt _ _ _ px.1 (by omega)) ph.1 (by omega) (by omega) (by omega)))
      (Lib.hid (common_pv s0 x (n + 1) _ (n + 1) _ _ pl ph (half_comX px hn) (half_com px hn)))
      (Lib.hid (half_has px hn a)) w
  · have e : n = wideN s0 := by have := px.2.1; omega
    exact Halved.none_ s0 s2 h0 l0 a1 h2 l2 x n (by rw [e]) (Lib.hid o1) (Lib.hid (halves_none s0 x n (by rw [e]) px.lt px.chk)) w

theorem Halved.own : ownKnob Try.prog.godebug = none := by kernel_rfl
set_option maxRecDepth 100000 in
theorem Halved.lifted (os : Os) (started : os.Started) (H : Type) (enc : TypeId × Value → H) :
    ReturnsInHanded {} Try.checked os 9 .any (Rows.preHalvedSpec.pre6 enc Try.prog Try.f9 Rows.preHalvedRow.domain false) (Rows.preHalvedSpec.post enc Try.prog Try.f9 false true false false) := by
  refine returnsInHanded_of_change (C := Try.checked) Halved.own started (by kernel_rfl) Try.func9
    (ChangeSpec.witness6 (enc := enc) (C := Try.checked) false ⟨#[], #[.agg #[.bool false, .int .u64 0, .int .u64 0], .int .i64 0, .agg #[.bool false, .int .u64 0, .int .u64 0]], []⟩ 8 (by kernel_rfl) (by kernel_rfl) (by kernel_rfl) (by kernel_rfl)) ?_
  intro W base args ds gs before hval0 hW hcnd _
  have hval : ∀ (j : Nat) t v, Try.f9.params[j]? = some t → args[j]? = some v → Value.okWide Try.prog W .any base t v := hval0
  have hW' := hW
  obtain ⟨p, q, hA0, hV, rfl, hfz, hnd⟩ := hW
  have hA : DataW.TrodAll enc Try.prog W 0 (fun _ => true) true Try.f9.params.toList args.toList ds p := hA0
  rw [Try.params9] at hA hval
  obtain ⟨v0, vs0, d0, ds0, p0, q0, hargs, rfl, rfl, rd0, r0⟩ := trodAll_cons hA
  obtain ⟨v1, vs1, d1, ds1, p1, q1, rfl, rfl, rfl, rd1, r1⟩ := trodAll_cons r0
  obtain ⟨v2, vs2, d2, ds2, p2, q2, rfl, rfl, rfl, rd2, r2⟩ := trodAll_cons r1
  obtain ⟨rfl, rfl, rfl⟩ := trodAll_nil r2
  obtain rfl : args = #[v0, v1, v2] := by cases args; simp_all
  obtain ⟨rfl, rfl⟩ := trodVars_none hV
  obtain ⟨s0, h0, l0, rfl, rfl, rfl, wa0, wb0⟩ := openRaw (hval 0 41 v0 rfl rfl) rd0
  obtain ⟨a1, rfl, rfl, rfl, wa1⟩ := open_int Try.underlying3 (hval 1 3 v1 rfl rfl) rd1
  obtain ⟨s2, h2, l2, rfl, rfl, rfl, wa2, wb2⟩ := openRaw (hval 2 41 v2 rfl rfl) rd2
  clear hA0 hval0
  simp only [List.append_nil] at hW'
  refine (Halved.walk s0 h0 l0 a1 s2 h2 l2 (u64_of_wf wa0).1 (u64_of_wf wa0).2 (u64_of_wf wb0).1 (u64_of_wf wb0).2 (i64_of_wf wa1).1 (i64_of_wf wa1).2 (u64_of_wf wa2).1 (u64_of_wf wa2).2 (u64_of_wf wb2).1 (u64_of_wf wb2).2 W).mono fun e W' ⟨he, hb⟩ => ?_
  subst he
  exact ⟨_, rfl, postBelow (pa := []) (pv := []) hW' hb (fun _ _ _ => trodAll_cons_mk (shut_bool Try.underlying4 _) trodAll_mk0) (fun sp _ => trodAll_cons_mk (shutRaw wa0 wb0) (trodAll_cons_mk (shut_int Try.underlying3 wa1) (trodAll_cons_mk (shutRaw wa2 wb2) trodAll_mk0))) (fun _ _ => rfl) rfl⟩

theorem Halved.holds : Rows.PreHalvedSaid :=
  OpenClaim.holds_of_wide 9 Try.f9 rfl rfl rfl rfl rfl rfl rfl ⟨rfl, rfl, rfl, rfl, rfl⟩ rfl rfl rfl rfl rfl (by kernel_rfl) Try.func9 (by kernel_rfl)
    (of_decide_eq_true (by kernel_rfl)) (by unfold Func.isWrapper; first | (rw [if_pos (by decide +kernel)]; kernel_rfl) | (rw [if_neg (by decide +kernel)]; exact ⟨rfl, rfl⟩))
    (fun os started H enc _ => Halved.lifted os started H enc)
#print axioms Halved.holds
end Go.Proofs.Ythlkofbdfjpfpaa
