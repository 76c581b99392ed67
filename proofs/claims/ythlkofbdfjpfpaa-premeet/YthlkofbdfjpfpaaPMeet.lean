/-
  PROVED: whipcordkeep.PreMeet returns true for all arguments, and they read afterwards as they read before. No condition.
-/
import Derived.Test.YthlkofbdfjpfpaaRows
import Derived.Test.YthlkofbdfjpfpaaPreM
import Derived.Test.YthlkofbdfjpfpaaShapesRaw
namespace Go.Proofs.Ythlkofbdfjpfpaa
open Go.ChangeShapes Go.WideShapes Go.ChangeAt Go.RowKit Go.Joins
set_option linter.unusedVariables false
set_option linter.unusedSimpArgs false

set_option maxHeartbeats 4000000 in
set_option maxRecDepth 100000 in
theorem Meet.core (six s2 s3 : Bool) (rh rl n0 qh ql m0 sh sl k0 : Int) (x n y m z k u c1 v c2 t c3 : Nat) (L1 : c1 ≤ n) (L2 : c1 ≤ m)
    (O1 : Hid (∀ W : World, Calls Try.prog 26 #[.agg #[.bool six, .int .u64 rh, .int .u64 rl], .int .i64 n0] W fun e w' => e = .returned (.agg #[.bool six, .int .u64 (aH x), .int .u64 (aL x), .int .i64 n]) ∧ Below W.heap.size W w'))
    (O2 : Hid (∀ W : World, Calls Try.prog 26 #[.agg #[.bool six, .int .u64 qh, .int .u64 ql], .int .i64 m0] W fun e w' => e = .returned (.agg #[.bool six, .int .u64 (aH y), .int .u64 (aL y), .int .i64 m]) ∧ Below W.heap.size W w'))
    (O3 : Hid (∀ W : World, Calls Try.prog 26 #[.agg #[.bool six, .int .u64 sh, .int .u64 sl], .int .i64 k0] W fun e w' => e = .returned (.agg #[.bool six, .int .u64 (aH z), .int .u64 (aL z), .int .i64 k]) ∧ Below W.heap.size W w'))
    (C1 : Hid (∀ W : World, Calls Try.prog 24 #[.agg #[.bool six, .int .u64 (aH x), .int .u64 (aL x), .int .i64 n], .agg #[.bool six, .int .u64 (aH y), .int .u64 (aL y), .int .i64 m]] W fun e w' => e = .returned (.tuple #[.agg #[.bool six, .int .u64 (aH u), .int .u64 (aL u), .int .i64 c1], .int .i64 0]) ∧ Below W.heap.size W w'))
    (C2 : Hid (∀ W : World, Calls Try.prog 24 #[.agg #[.bool six, .int .u64 (aH y), .int .u64 (aL y), .int .i64 m], .agg #[.bool six, .int .u64 (aH z), .int .u64 (aL z), .int .i64 k]] W fun e w' => e = .returned (.tuple #[.agg #[.bool six, .int .u64 (aH v), .int .u64 (aL v), .int .i64 c2], .int .i64 0]) ∧ Below W.heap.size W w'))
    (C3 : Hid (∀ W : World, Calls Try.prog 24 #[.agg #[.bool six, .int .u64 (aH u), .int .u64 (aL u), .int .i64 c1], .agg #[.bool six, .int .u64 (aH z), .int .u64 (aL z), .int .i64 k]] W fun e w' => e = .returned (.tuple #[.agg #[.bool six, .int .u64 (aH t), .int .u64 (aL t), .int .i64 c3], .int .i64 0]) ∧ Below W.heap.size W w'))
    (C4 : Hid (∀ W : World, Calls Try.prog 24 #[.agg #[.bool six, .int .u64 (aH x), .int .u64 (aL x), .int .i64 n], .agg #[.bool six, .int .u64 (aH v), .int .u64 (aL v), .int .i64 c2]] W fun e w' => e = .returned (.tuple #[.agg #[.bool six, .int .u64 (aH t), .int .u64 (aL t), .int .i64 c3], .int .i64 0]) ∧ Below W.heap.size W w'))
    (C5 : Hid (∀ W : World, Calls Try.prog 24 #[.agg #[.bool six, .int .u64 (aH y), .int .u64 (aL y), .int .i64 m], .agg #[.bool six, .int .u64 (aH x), .int .u64 (aL x), .int .i64 n]] W fun e w' => e = .returned (.tuple #[.agg #[.bool six, .int .u64 (aH u), .int .u64 (aL u), .int .i64 c1], .int .i64 0]) ∧ Below W.heap.size W w'))
    (C6 : Hid (∀ W : World, Calls Try.prog 24 #[.agg #[.bool six, .int .u64 (aH x), .int .u64 (aL x), .int .i64 n], .agg #[.bool six, .int .u64 (aH x), .int .u64 (aL x), .int .i64 n]] W fun e w' => e = .returned (.tuple #[.agg #[.bool six, .int .u64 (aH x), .int .u64 (aL x), .int .i64 n], .int .i64 0]) ∧ Below W.heap.size W w')) (w : World) :
    Calls Try.prog 13 #[.agg #[.bool six, .int .u64 rh, .int .u64 rl], .int .i64 n0, .agg #[.bool s2, .int .u64 qh, .int .u64 ql], .int .i64 m0, .agg #[.bool s3, .int .u64 sh, .int .u64 sl], .int .i64 k0] w fun e w' => e = .returned (.bool true) ∧ Below w.heap.size w w' := by
  go_enter Try.func13, Try.ntmps13
  go_wp2_with fail
  refine (O1.out _).mono ?_
  rintro e w1 ⟨rfl, hb1⟩
  have b1 := thenBelow (show Below w.heap.size w _ from (by first | exact Below.refl _ _ | exact (Below.refl _ _).alloc (Nat.le_refl _) _ | exact ((Below.refl _ _).alloc (Nat.le_refl _) _).alloc (by simp) _ | exact (((Below.refl _ _).alloc (Nat.le_refl _) _).alloc (by simp) _).alloc (by simp; omega) _)) hb1
  have Gq := (AddrAt.new ((w.alloc (.cells #[.bool six, .int .u64 rh, .int .u64 rl] 41))) six qh ql 41).via (by first | exact Below.refl _ _ | exact (Below.refl _ _).alloc (Nat.le_refl _) _ | exact ((Below.refl _ _).alloc (Nat.le_refl _) _).alloc (by simp) _ | exact (((Below.refl _ _).alloc (Nat.le_refl _) _).alloc (by simp) _).alloc (by simp; omega) _) hb1
  try simp only [World.size_alloc] at Gq
  have Fq := Lib.hid Gq
  clear Gq
  have Gs := (AddrAt.new (((w.alloc (.cells #[.bool six, .int .u64 rh, .int .u64 rl] 41)).alloc (.cells #[.bool six, .int .u64 qh, .int .u64 ql] 41))) six sh sl 41).via (by first | exact Below.refl _ _ | exact (Below.refl _ _).alloc (Nat.le_refl _) _ | exact ((Below.refl _ _).alloc (Nat.le_refl _) _).alloc (by simp) _ | exact (((Below.refl _ _).alloc (Nat.le_refl _) _).alloc (by simp) _).alloc (by simp; omega) _) hb1
  try simp only [World.size_alloc] at Gs
  have Fs := Lib.hid Gs
  clear Gs
  clear hb1
  obtain ⟨q_0, q_1, q_2, q_l⟩ := Fq.out
  go_wp2_with fail
  refine (O2.out _).mono ?_
  rintro e w2 ⟨rfl, hb2⟩
  have b2 := thenBelow (thenBelow b1 (by first | exact Below.refl _ _ | exact (Below.refl _ _).alloc (Nat.le_refl _) _ | exact ((Below.refl _ _).alloc (Nat.le_refl _) _).alloc (by simp) _ | exact (((Below.refl _ _).alloc (Nat.le_refl _) _).alloc (by simp) _).alloc (by simp; omega) _)) hb2
  clear q_0 q_1 q_2 q_l
  clear Fq
  have Fs := Lib.hid (Fs.out.via (by first | exact Below.refl _ _ | exact (Below.refl _ _).alloc (Nat.le_refl _) _ | exact ((Below.refl _ _).alloc (Nat.le_refl _) _).alloc (by simp) _ | exact (((Below.refl _ _).alloc (Nat.le_refl _) _).alloc (by simp) _).alloc (by simp; omega) _) hb2)
  have Ga := (PreAt.new (w1) six (aH x) (aL x) n 26).via (by first | exact Below.refl _ _ | exact (Below.refl _ _).alloc (Nat.le_refl _) _ | exact ((Below.refl _ _).alloc (Nat.le_refl _) _).alloc (by simp) _ | exact (((Below.refl _ _).alloc (Nat.le_refl _) _).alloc (by simp) _).alloc (by simp; omega) _) hb2
  try simp only [World.size_alloc] at Ga
  have Fa := Lib.hid Ga
  clear Ga
  clear hb2 b1
  obtain ⟨s_0, s_1, s_2, s_l⟩ := Fs.out
  go_wp2_with fail
  refine (O3.out _).mono ?_
  rintro e w3 ⟨rfl, hb3⟩
  have b3 := thenBelow (thenBelow b2 (by first | exact Below.refl _ _ | exact (Below.refl _ _).alloc (Nat.le_refl _) _ | exact ((Below.refl _ _).alloc (Nat.le_refl _) _).alloc (by simp) _ | exact (((Below.refl _ _).alloc (Nat.le_refl _) _).alloc (by simp) _).alloc (by simp; omega) _)) hb3
  clear s_0 s_1 s_2 s_l
  clear Fs
  have Fa := Lib.hid (Fa.out.via (by first | exact Below.refl _ _ | exact (Below.refl _ _).alloc (Nat.le_refl _) _ | exact ((Below.refl _ _).alloc (Nat.le_refl _) _).alloc (by simp) _ | exact (((Below.refl _ _).alloc (Nat.le_refl _) _).alloc (by simp) _).alloc (by simp; omega) _) hb3)
  have Gb := (PreAt.new (w2) six (aH y) (aL y) m 26).via (by first | exact Below.refl _ _ | exact (Below.refl _ _).alloc (Nat.le_refl _) _ | exact ((Below.refl _ _).alloc (Nat.le_refl _) _).alloc (by simp) _ | exact (((Below.refl _ _).alloc (Nat.le_refl _) _).alloc (by simp) _).alloc (by simp; omega) _) hb3
  try simp only [World.size_alloc] at Gb
  have Fb := Lib.hid Gb
  clear Gb
  clear hb3 b2
  obtain ⟨a_0, a_1, a_2, a_3, a_l⟩ := Fa.out
  obtain ⟨b_0, b_1, b_2, b_3, b_l⟩ := Fb.out
  go_wp2_with fail
  refine (C1.out _).mono ?_
  rintro e w4 ⟨rfl, hb4⟩
  have b4 := thenBelow (thenBelow b3 (by first | exact Below.refl _ _ | exact (Below.refl _ _).alloc (Nat.le_refl _) _ | exact ((Below.refl _ _).alloc (Nat.le_refl _) _).alloc (by simp) _ | exact (((Below.refl _ _).alloc (Nat.le_refl _) _).alloc (by simp) _).alloc (by simp; omega) _)) hb4
  clear a_0 a_1 a_2 a_3 a_l b_0 b_1 b_2 b_3 b_l
  have Fa := Lib.hid (Fa.out.via (by first | exact Below.refl _ _ | exact (Below.refl _ _).alloc (Nat.le_refl _) _ | exact ((Below.refl _ _).alloc (Nat.le_refl _) _).alloc (by simp) _ | exact (((Below.refl _ _).alloc (Nat.le_refl _) _).alloc (by simp) _).alloc (by simp; omega) _) hb4)
  have Fb := Lib.hid (Fb.out.via (by first | exact Below.refl _ _ | exact (Below.refl _ _).alloc (Nat.le_refl _) _ | exact ((Below.refl _ _).alloc (Nat.le_refl _) _).alloc (by simp) _ | exact (((Below.refl _ _).alloc (Nat.le_refl _) _).alloc (by simp) _).alloc (by simp; omega) _) hb4)
  have Gc := (PreAt.new (w3) six (aH z) (aL z) k 26).via (by first | exact Below.refl _ _ | exact (Below.refl _ _).alloc (Nat.le_refl _) _ | exact ((Below.refl _ _).alloc (Nat.le_refl _) _).alloc (by simp) _ | exact (((Below.refl _ _).alloc (Nat.le_refl _) _).alloc (by simp) _).alloc (by simp; omega) _) hb4
  try simp only [World.size_alloc] at Gc
  have Fc := Lib.hid Gc
  clear Gc
  clear hb4 b3
  obtain ⟨b_0, b_1, b_2, b_3, b_l⟩ := Fb.out
  obtain ⟨c_0, c_1, c_2, c_3, c_l⟩ := Fc.out
  go_wp2_with fail
  refine (C2.out _).mono ?_
  rintro e w5 ⟨rfl, hb5⟩
  have b5 := thenBelow (thenBelow b4 (by first | exact Below.refl _ _ | exact (Below.refl _ _).alloc (Nat.le_refl _) _ | exact ((Below.refl _ _).alloc (Nat.le_refl _) _).alloc (by simp) _ | exact (((Below.refl _ _).alloc (Nat.le_refl _) _).alloc (by simp) _).alloc (by simp; omega) _)) hb5
  clear b_0 b_1 b_2 b_3 b_l c_0 c_1 c_2 c_3 c_l
  have Fa := Lib.hid (Fa.out.via (by first | exact Below.refl _ _ | exact (Below.refl _ _).alloc (Nat.le_refl _) _ | exact ((Below.refl _ _).alloc (Nat.le_refl _) _).alloc (by simp) _ | exact (((Below.refl _ _).alloc (Nat.le_refl _) _).alloc (by simp) _).alloc (by simp; omega) _) hb5)
  have Fb := Lib.hid (Fb.out.via (by first | exact Below.refl _ _ | exact (Below.refl _ _).alloc (Nat.le_refl _) _ | exact ((Below.refl _ _).alloc (Nat.le_refl _) _).alloc (by simp) _ | exact (((Below.refl _ _).alloc (Nat.le_refl _) _).alloc (by simp) _).alloc (by simp; omega) _) hb5)
  have Fc := Lib.hid (Fc.out.via (by first | exact Below.refl _ _ | exact (Below.refl _ _).alloc (Nat.le_refl _) _ | exact ((Below.refl _ _).alloc (Nat.le_refl _) _).alloc (by simp) _ | exact (((Below.refl _ _).alloc (Nat.le_refl _) _).alloc (by simp) _).alloc (by simp; omega) _) hb5)
  have Gab := (PreAt.new (w4) six (aH u) (aL u) c1 26).via (by first | exact Below.refl _ _ | exact (Below.refl _ _).alloc (Nat.le_refl _) _ | exact ((Below.refl _ _).alloc (Nat.le_refl _) _).alloc (by simp) _ | exact (((Below.refl _ _).alloc (Nat.le_refl _) _).alloc (by simp) _).alloc (by simp; omega) _) hb5
  try simp only [World.size_alloc] at Gab
  have Fab := Lib.hid Gab
  clear Gab
  clear hb5 b4
  obtain ⟨ab_0, ab_1, ab_2, ab_3, ab_l⟩ := Fab.out
  obtain ⟨c_0, c_1, c_2, c_3, c_l⟩ := Fc.out
  go_wp2_with fail
  refine (C3.out _).mono ?_
  rintro e w6 ⟨rfl, hb6⟩
  have b6 := thenBelow (thenBelow b5 (by first | exact Below.refl _ _ | exact (Below.refl _ _).alloc (Nat.le_refl _) _ | exact ((Below.refl _ _).alloc (Nat.le_refl _) _).alloc (by simp) _ | exact (((Below.refl _ _).alloc (Nat.le_refl _) _).alloc (by simp) _).alloc (by simp; omega) _)) hb6
  clear ab_0 ab_1 ab_2 ab_3 ab_l c_0 c_1 c_2 c_3 c_l
  have Fa := Lib.hid (Fa.out.via (by first | exact Below.refl _ _ | exact (Below.refl _ _).alloc (Nat.le_refl _) _ | exact ((Below.refl _ _).alloc (Nat.le_refl _) _).alloc (by simp) _ | exact (((Below.refl _ _).alloc (Nat.le_refl _) _).alloc (by simp) _).alloc (by simp; omega) _) hb6)
  have Fb := Lib.hid (Fb.out.via (by first | exact Below.refl _ _ | exact (Below.refl _ _).alloc (Nat.le_refl _) _ | exact ((Below.refl _ _).alloc (Nat.le_refl _) _).alloc (by simp) _ | exact (((Below.refl _ _).alloc (Nat.le_refl _) _).alloc (by simp) _).alloc (by simp; omega) _) hb6)
  clear Fc
  have Fab := Lib.hid (Fab.out.via (by first | exact Below.refl _ _ | exact (Below.refl _ _).alloc (Nat.le_refl _) _ | exact ((Below.refl _ _).alloc (Nat.le_refl _) _).alloc (by simp) _ | exact (((Below.refl _ _).alloc (Nat.le_refl _) _).alloc (by simp) _).alloc (by simp; omega) _) hb6)
  have Gbc := (PreAt.new (w5) six (aH v) (aL v) c2 26).via (by first | exact Below.refl _ _ | exact (Below.refl _ _).alloc (Nat.le_refl _) _ | exact ((Below.refl _ _).alloc (Nat.le_refl _) _).alloc (by simp) _ | exact (((Below.refl _ _).alloc (Nat.le_refl _) _).alloc (by simp) _).alloc (by simp; omega) _) hb6
  try simp only [World.size_alloc] at Gbc
  have Fbc := Lib.hid Gbc
  clear Gbc
  clear hb6 b5
  obtain ⟨a_0, a_1, a_2, a_3, a_l⟩ := Fa.out
  obtain ⟨bc_0, bc_1, bc_2, bc_3, bc_l⟩ := Fbc.out
  go_wp2_with fail
  refine (C4.out _).mono ?_
  rintro e w7 ⟨rfl, hb7⟩
  have b7 := thenBelow (thenBelow b6 (by first | exact Below.refl _ _ | exact (Below.refl _ _).alloc (Nat.le_refl _) _ | exact ((Below.refl _ _).alloc (Nat.le_refl _) _).alloc (by simp) _ | exact (((Below.refl _ _).alloc (Nat.le_refl _) _).alloc (by simp) _).alloc (by simp; omega) _)) hb7
  clear a_0 a_1 a_2 a_3 a_l bc_0 bc_1 bc_2 bc_3 bc_l
  have Fa := Lib.hid (Fa.out.via (by first | exact Below.refl _ _ | exact (Below.refl _ _).alloc (Nat.le_refl _) _ | exact ((Below.refl _ _).alloc (Nat.le_refl _) _).alloc (by simp) _ | exact (((Below.refl _ _).alloc (Nat.le_refl _) _).alloc (by simp) _).alloc (by simp; omega) _) hb7)
  have Fb := Lib.hid (Fb.out.via (by first | exact Below.refl _ _ | exact (Below.refl _ _).alloc (Nat.le_refl _) _ | exact ((Below.refl _ _).alloc (Nat.le_refl _) _).alloc (by simp) _ | exact (((Below.refl _ _).alloc (Nat.le_refl _) _).alloc (by simp) _).alloc (by simp; omega) _) hb7)
  have Fab := Lib.hid (Fab.out.via (by first | exact Below.refl _ _ | exact (Below.refl _ _).alloc (Nat.le_refl _) _ | exact ((Below.refl _ _).alloc (Nat.le_refl _) _).alloc (by simp) _ | exact (((Below.refl _ _).alloc (Nat.le_refl _) _).alloc (by simp) _).alloc (by simp; omega) _) hb7)
  clear Fbc
  have Gx := (PreAt.new (w6) six (aH t) (aL t) c3 26).via (by first | exact Below.refl _ _ | exact (Below.refl _ _).alloc (Nat.le_refl _) _ | exact ((Below.refl _ _).alloc (Nat.le_refl _) _).alloc (by simp) _ | exact (((Below.refl _ _).alloc (Nat.le_refl _) _).alloc (by simp) _).alloc (by simp; omega) _) hb7
  try simp only [World.size_alloc] at Gx
  have Fx := Lib.hid Gx
  clear Gx
  clear hb7 b6
  obtain ⟨b_0, b_1, b_2, b_3, b_l⟩ := Fb.out
  obtain ⟨a_0, a_1, a_2, a_3, a_l⟩ := Fa.out
  go_wp2_with fail
  refine (C5.out _).mono ?_
  rintro e w8 ⟨rfl, hb8⟩
  have b8 := thenBelow (thenBelow b7 (by first | exact Below.refl _ _ | exact (Below.refl _ _).alloc (Nat.le_refl _) _ | exact ((Below.refl _ _).alloc (Nat.le_refl _) _).alloc (by simp) _ | exact (((Below.refl _ _).alloc (Nat.le_refl _) _).alloc (by simp) _).alloc (by simp; omega) _)) hb8
  clear b_0 b_1 b_2 b_3 b_l a_0 a_1 a_2 a_3 a_l
  have Fa := Lib.hid (Fa.out.via (by first | exact Below.refl _ _ | exact (Below.refl _ _).alloc (Nat.le_refl _) _ | exact ((Below.refl _ _).alloc (Nat.le_refl _) _).alloc (by simp) _ | exact (((Below.refl _ _).alloc (Nat.le_refl _) _).alloc (by simp) _).alloc (by simp; omega) _) hb8)
  have Fb := Lib.hid (Fb.out.via (by first | exact Below.refl _ _ | exact (Below.refl _ _).alloc (Nat.le_refl _) _ | exact ((Below.refl _ _).alloc (Nat.le_refl _) _).alloc (by simp) _ | exact (((Below.refl _ _).alloc (Nat.le_refl _) _).alloc (by simp) _).alloc (by simp; omega) _) hb8)
  have Fab := Lib.hid (Fab.out.via (by first | exact Below.refl _ _ | exact (Below.refl _ _).alloc (Nat.le_refl _) _ | exact ((Below.refl _ _).alloc (Nat.le_refl _) _).alloc (by simp) _ | exact (((Below.refl _ _).alloc (Nat.le_refl _) _).alloc (by simp) _).alloc (by simp; omega) _) hb8)
  have Fx := Lib.hid (Fx.out.via (by first | exact Below.refl _ _ | exact (Below.refl _ _).alloc (Nat.le_refl _) _ | exact ((Below.refl _ _).alloc (Nat.le_refl _) _).alloc (by simp) _ | exact (((Below.refl _ _).alloc (Nat.le_refl _) _).alloc (by simp) _).alloc (by simp; omega) _) hb8)
  have Gy := (PreAt.new (w7) six (aH t) (aL t) c3 26).via (by first | exact Below.refl _ _ | exact (Below.refl _ _).alloc (Nat.le_refl _) _ | exact ((Below.refl _ _).alloc (Nat.le_refl _) _).alloc (by simp) _ | exact (((Below.refl _ _).alloc (Nat.le_refl _) _).alloc (by simp) _).alloc (by simp; omega) _) hb8
  try simp only [World.size_alloc] at Gy
  have Fy := Lib.hid Gy
  clear Gy
  clear hb8 b7
  obtain ⟨a_0, a_1, a_2, a_3, a_l⟩ := Fa.out
  go_wp2_with fail
  refine (C6.out _).mono ?_
  rintro e w9 ⟨rfl, hb9⟩
  have b9 := thenBelow (thenBelow b8 (by first | exact Below.refl _ _ | exact (Below.refl _ _).alloc (Nat.le_refl _) _ | exact ((Below.refl _ _).alloc (Nat.le_refl _) _).alloc (by simp) _ | exact (((Below.refl _ _).alloc (Nat.le_refl _) _).alloc (by simp) _).alloc (by simp; omega) _)) hb9
  clear a_0 a_1 a_2 a_3 a_l
  have Fa := Lib.hid (Fa.out.via (by first | exact Below.refl _ _ | exact (Below.refl _ _).alloc (Nat.le_refl _) _ | exact ((Below.refl _ _).alloc (Nat.le_refl _) _).alloc (by simp) _ | exact (((Below.refl _ _).alloc (Nat.le_refl _) _).alloc (by simp) _).alloc (by simp; omega) _) hb9)
  have Fb := Lib.hid (Fb.out.via (by first | exact Below.refl _ _ | exact (Below.refl _ _).alloc (Nat.le_refl _) _ | exact ((Below.refl _ _).alloc (Nat.le_refl _) _).alloc (by simp) _ | exact (((Below.refl _ _).alloc (Nat.le_refl _) _).alloc (by simp) _).alloc (by simp; omega) _) hb9)
  have Fab := Lib.hid (Fab.out.via (by first | exact Below.refl _ _ | exact (Below.refl _ _).alloc (Nat.le_refl _) _ | exact ((Below.refl _ _).alloc (Nat.le_refl _) _).alloc (by simp) _ | exact (((Below.refl _ _).alloc (Nat.le_refl _) _).alloc (by simp) _).alloc (by simp; omega) _) hb9)
  have Fx := Lib.hid (Fx.out.via (by first | exact Below.refl _ _ | exact (Below.refl _ _).alloc (Nat.le_refl _) _ | exact ((Below.refl _ _).alloc (Nat.le_refl _) _).alloc (by simp) _ | exact (((Below.refl _ _).alloc (Nat.le_refl _) _).alloc (by simp) _).alloc (by simp; omega) _) hb9)
  have Fy := Lib.hid (Fy.out.via (by first | exact Below.refl _ _ | exact (Below.refl _ _).alloc (Nat.le_refl _) _ | exact ((Below.refl _ _).alloc (Nat.le_refl _) _).alloc (by simp) _ | exact (((Below.refl _ _).alloc (Nat.le_refl _) _).alloc (by simp) _).alloc (by simp; omega) _) hb9)
  have Gba := (PreAt.new (w8) six (aH u) (aL u) c1 26).via (by first | exact Below.refl _ _ | exact (Below.refl _ _).alloc (Nat.le_refl _) _ | exact ((Below.refl _ _).alloc (Nat.le_refl _) _).alloc (by simp) _ | exact (((Below.refl _ _).alloc (Nat.le_refl _) _).alloc (by simp) _).alloc (by simp; omega) _) hb9
  try simp only [World.size_alloc] at Gba
  have Fba := Lib.hid Gba
  clear Gba
  clear hb9 b8
  go_wp2_with fail
  refine (preSure_calls _).mono ?_
  rintro e w10 ⟨rfl, hb10⟩
  have b10 := thenBelow (thenBelow b9 (by first | exact Below.refl _ _ | exact (Below.refl _ _).alloc (Nat.le_refl _) _ | exact ((Below.refl _ _).alloc (Nat.le_refl _) _).alloc (by simp) _ | exact (((Below.refl _ _).alloc (Nat.le_refl _) _).alloc (by simp) _).alloc (by simp; omega) _)) hb10
  have Fa := Lib.hid (Fa.out.via (by first | exact Below.refl _ _ | exact (Below.refl _ _).alloc (Nat.le_refl _) _ | exact ((Below.refl _ _).alloc (Nat.le_refl _) _).alloc (by simp) _ | exact (((Below.refl _ _).alloc (Nat.le_refl _) _).alloc (by simp) _).alloc (by simp; omega) _) hb10)
  have Fb := Lib.hid (Fb.out.via (by first | exact Below.refl _ _ | exact (Below.refl _ _).alloc (Nat.le_refl _) _ | exact ((Below.refl _ _).alloc (Nat.le_refl _) _).alloc (by simp) _ | exact (((Below.refl _ _).alloc (Nat.le_refl _) _).alloc (by simp) _).alloc (by simp; omega) _) hb10)
  have Fab := Lib.hid (Fab.out.via (by first | exact Below.refl _ _ | exact (Below.refl _ _).alloc (Nat.le_refl _) _ | exact ((Below.refl _ _).alloc (Nat.le_refl _) _).alloc (by simp) _ | exact (((Below.refl _ _).alloc (Nat.le_refl _) _).alloc (by simp) _).alloc (by simp; omega) _) hb10)
  have Fx := Lib.hid (Fx.out.via (by first | exact Below.refl _ _ | exact (Below.refl _ _).alloc (Nat.le_refl _) _ | exact ((Below.refl _ _).alloc (Nat.le_refl _) _).alloc (by simp) _ | exact (((Below.refl _ _).alloc (Nat.le_refl _) _).alloc (by simp) _).alloc (by simp; omega) _) hb10)
  have Fy := Lib.hid (Fy.out.via (by first | exact Below.refl _ _ | exact (Below.refl _ _).alloc (Nat.le_refl _) _ | exact ((Below.refl _ _).alloc (Nat.le_refl _) _).alloc (by simp) _ | exact (((Below.refl _ _).alloc (Nat.le_refl _) _).alloc (by simp) _).alloc (by simp; omega) _) hb10)
  have Fba := Lib.hid (Fba.out.via (by first | exact Below.refl _ _ | exact (Below.refl _ _).alloc (Nat.le_refl _) _ | exact ((Below.refl _ _).alloc (Nat.le_refl _) _).alloc (by simp) _ | exact (((Below.refl _ _).alloc (Nat.le_refl _) _).alloc (by simp) _).alloc (by simp; omega) _) hb10)
  have Gaa := (PreAt.new (w9) six (aH x) (aL x) n 26).via (by first | exact Below.refl _ _ | exact (Below.refl _ _).alloc (Nat.le_refl _) _ | exact ((Below.refl _ _).alloc (Nat.le_refl _) _).alloc (by simp) _ | exact (((Below.refl _ _).alloc (Nat.le_refl _) _).alloc (by simp) _).alloc (by simp; omega) _) hb10
  try simp only [World.size_alloc] at Gaa
  have Faa := Lib.hid Gaa
  clear Gaa
  clear hb10 b9
  obtain ⟨x_0, x_1, x_2, x_3, x_l⟩ := Fx.out
  obtain ⟨y_0, y_1, y_2, y_3, y_l⟩ := Fy.out
  obtain ⟨ab_0, ab_1, ab_2, ab_3, ab_l⟩ := Fab.out
  obtain ⟨ba_0, ba_1, ba_2, ba_3, ba_l⟩ := Fba.out
  obtain ⟨aa_0, aa_1, aa_2, aa_3, aa_l⟩ := Faa.out
  obtain ⟨a_0, a_1, a_2, a_3, a_l⟩ := Fa.out
  obtain ⟨b_0, b_1, b_2, b_3, b_l⟩ := Fb.out
  go_wp2
  go_ret
  exact ⟨by show Ending.returned (.bool (decide ((c1 : Int) ≤ min (n : Int) (m : Int)))) = _; rw [decide_eq_true (by omega)], (thenBelow b10 (by first | exact Below.refl _ _ | exact (Below.refl _ _).alloc (Nat.le_refl _) _ | exact ((Below.refl _ _).alloc (Nat.le_refl _) _).alloc (by simp) _ | exact (((Below.refl _ _).alloc (Nat.le_refl _) _).alloc (by simp) _).alloc (by simp; omega) _))⟩

theorem Meet.walk (s0 : Bool) (h0 l0 a1 : Int) (s2 : Bool) (h2 l2 a3 : Int) (s4 : Bool) (h4 l4 a5 : Int)
    (h00 : 0 ≤ h0) (h01 : h0 ≤ 18446744073709551615) (l00 : 0 ≤ l0) (l01 : l0 ≤ 18446744073709551615) (a10 : -9223372036854775808 ≤ a1) (a11 : a1 ≤ 9223372036854775807)
    (h20 : 0 ≤ h2) (h21 : h2 ≤ 18446744073709551615) (l20 : 0 ≤ l2) (l21 : l2 ≤ 18446744073709551615) (a30 : -9223372036854775808 ≤ a3) (a31 : a3 ≤ 9223372036854775807)
    (h40 : 0 ≤ h4) (h41 : h4 ≤ 18446744073709551615) (l40 : 0 ≤ l4) (l41 : l4 ≤ 18446744073709551615) (a50 : -9223372036854775808 ≤ a5) (a51 : a5 ≤ 9223372036854775807) (w : World) :
    Calls Try.prog 13 #[.agg #[.bool s0, .int .u64 h0, .int .u64 l0], .int .i64 a1, .agg #[.bool s2, .int .u64 h2, .int .u64 l2], .int .i64 a3, .agg #[.bool s4, .int .u64 h4, .int .u64 l4], .int .i64 a5] w fun e w' => e = .returned (.bool true) ∧ Below w.heap.size w w' := by
  have px := preR_pv s0 h0 l0 a1 h00 h01 l00 l01
  have py := preR_pv s0 h2 l2 a3 h20 h21 l20 l21
  have pz := preR_pv s0 h4 l4 a5 h40 h41 l40 l41
  have o1 := fun W : World => preOf_calls s0 h0 l0 a1 h00 h01 l00 l01 a10 a11 _ _ rfl rfl W
  have o2 := fun W : World => preOf_calls s0 h2 l2 a3 h20 h21 l20 l21 a30 a31 _ _ rfl rfl W
  have o3 := fun W : World => preOf_calls s0 h4 l4 a5 h40 h41 l40 l41 a50 a51 _ _ rfl rfl W
  generalize preR s0 h0 l0 a1 = x at *
  generalize preR s0 h2 l2 a3 = y at *
  generalize preR s0 h4 l4 a5 = z at *
  generalize lenR s0 a1 = n at *
  generalize lenR s0 a3 = m at *
  generalize lenR s0 a5 = k at *
  have cu := com_pv s0 x n y m px.1
  have cv := com_pv s0 y m z k py.1
  exact Meet.core s0 s2 s4 h0 l0 a1 h2 l2 a3 h4 l4 a5 x n y m z k _ _ _ _ _ _ (com_le s0 x n y m).1 (com_le s0 x n y m).2.1
    (Lib.hid o1) (Lib.hid o2) (Lib.hid o3)
    (Lib.hid (common_pv s0 x n y m _ _ px py rfl rfl)) (Lib.hid (common_pv s0 y m z k _ _ py pz rfl rfl))
    (Lib.hid (common_pv s0 _ _ z k _ _ cu pz rfl rfl)) (Lib.hid (common_pv s0 x n _ _ _ _ px cv (comX_assoc s0 x n y m z k px.1 py.1 pz.1).symm (com_assoc s0 x n y m z k px.1 py.1 pz.1).symm))
    (Lib.hid (common_pv s0 y m x n _ _ py px (comX_comm s0 y m x n py.1 px.1) (com_comm s0 y m x n py.1 px.1))) (Lib.hid (common_pv s0 x n x n _ _ px px (comX_self s0 x n px) (com_self s0 x n px))) w

theorem Meet.own : ownKnob Try.prog.godebug = none := by kernel_rfl
set_option maxRecDepth 100000 in
theorem Meet.lifted (os : Os) (started : os.Started) (H : Type) (enc : TypeId × Value → H) :
    ReturnsInHanded {} Try.checked os 13 .any (Rows.preMeetSpec.pre6 enc Try.prog Try.f13 Rows.preMeetRow.domain false) (Rows.preMeetSpec.post enc Try.prog Try.f13 false true false false) := by
  refine returnsInHanded_of_change (C := Try.checked) Meet.own started (by kernel_rfl) Try.func13
    (ChangeSpec.witness6 (enc := enc) (C := Try.checked) false ⟨#[], #[.agg #[.bool false, .int .u64 0, .int .u64 0], .int .i64 0, .agg #[.bool false, .int .u64 0, .int .u64 0], .int .i64 0, .agg #[.bool false, .int .u64 0, .int .u64 0], .int .i64 0], []⟩ 8 (by kernel_rfl) (by kernel_rfl) (by kernel_rfl) (by kernel_rfl)) ?_
  intro W base args ds gs before hval0 hW hcnd _
  have hval : ∀ (j : Nat) t v, Try.f13.params[j]? = some t → args[j]? = some v → Value.okWide Try.prog W .any base t v := hval0
  have hW' := hW
  obtain ⟨p, q, hA0, hV, rfl, hfz, hnd⟩ := hW
  have hA : DataW.TrodAll enc Try.prog W 0 (fun _ => true) true Try.f13.params.toList args.toList ds p := hA0
  rw [Try.params13] at hA hval
  obtain ⟨v0, vs0, d0, ds0, p0, q0, hargs, rfl, rfl, rd0, r0⟩ := trodAll_cons hA
  obtain ⟨v1, vs1, d1, ds1, p1, q1, rfl, rfl, rfl, rd1, r1⟩ := trodAll_cons r0
  obtain ⟨v2, vs2, d2, ds2, p2, q2, rfl, rfl, rfl, rd2, r2⟩ := trodAll_cons r1
  obtain ⟨v3, vs3, d3, ds3, p3, q3, rfl, rfl, rfl, rd3, r3⟩ := trodAll_cons r2
  obtain ⟨v4, vs4, d4, ds4, p4, q4, rfl, rfl, rfl, rd4, r4⟩ := trodAll_cons r3
  obtain ⟨v5, vs5, d5, ds5, p5, q5, rfl, rfl, rfl, rd5, r5⟩ := trodAll_cons r4
  obtain ⟨rfl, rfl, rfl⟩ := trodAll_nil r5
  obtain rfl : args = #[v0, v1, v2, v3, v4, v5] := by cases args; simp_all
  obtain ⟨rfl, rfl⟩ := trodVars_none hV
  obtain ⟨s0, h0, l0, rfl, rfl, rfl, wa0, wb0⟩ := openRaw (hval 0 41 v0 rfl rfl) rd0
  obtain ⟨a1, rfl, rfl, rfl, wa1⟩ := open_int Try.underlying3 (hval 1 3 v1 rfl rfl) rd1
  obtain ⟨s2, h2, l2, rfl, rfl, rfl, wa2, wb2⟩ := openRaw (hval 2 41 v2 rfl rfl) rd2
  obtain ⟨a3, rfl, rfl, rfl, wa3⟩ := open_int Try.underlying3 (hval 3 3 v3 rfl rfl) rd3
  obtain ⟨s4, h4, l4, rfl, rfl, rfl, wa4, wb4⟩ := openRaw (hval 4 41 v4 rfl rfl) rd4
  obtain ⟨a5, rfl, rfl, rfl, wa5⟩ := open_int Try.underlying3 (hval 5 3 v5 rfl rfl) rd5
  clear hA0 hval0
  simp only [List.append_nil] at hW'
  refine (Meet.walk s0 h0 l0 a1 s2 h2 l2 a3 s4 h4 l4 a5 (u64_of_wf wa0).1 (u64_of_wf wa0).2 (u64_of_wf wb0).1 (u64_of_wf wb0).2 (i64_of_wf wa1).1 (i64_of_wf wa1).2 (u64_of_wf wa2).1 (u64_of_wf wa2).2 (u64_of_wf wb2).1 (u64_of_wf wb2).2 (i64_of_wf wa3).1 (i64_of_wf wa3).2 (u64_of_wf wa4).1 (u64_of_wf wa4).2 (u64_of_wf wb4).1 (u64_of_wf wb4).2 (i64_of_wf wa5).1 (i64_of_wf wa5).2 W).mono fun e W' ⟨he, hb⟩ => ?_
  subst he
  exact ⟨_, rfl, postBelow (pa := []) (pv := []) hW' hb (fun _ _ _ => trodAll_cons_mk (shut_bool Try.underlying4 _) trodAll_mk0) (fun sp _ => trodAll_cons_mk (shutRaw wa0 wb0) (trodAll_cons_mk (shut_int Try.underlying3 wa1) (trodAll_cons_mk (shutRaw wa2 wb2) (trodAll_cons_mk (shut_int Try.underlying3 wa3) (trodAll_cons_mk (shutRaw wa4 wb4) (trodAll_cons_mk (shut_int Try.underlying3 wa5) trodAll_mk0)))))) (fun _ _ => rfl) rfl⟩

theorem Meet.holds : Rows.PreMeetSaid :=
  OpenClaim.holds_of_wide 13 Try.f13 rfl rfl rfl rfl rfl rfl rfl ⟨rfl, rfl, rfl, rfl, rfl⟩ rfl rfl rfl rfl rfl (by kernel_rfl) Try.func13 (by kernel_rfl)
    (of_decide_eq_true (by kernel_rfl)) (by unfold Func.isWrapper; first | (rw [if_pos (by decide +kernel)]; kernel_rfl) | (rw [if_neg (by decide +kernel)]; exact ⟨rfl, rfl⟩))
    (fun os started H enc _ => Meet.lifted os started H enc)
#print axioms Meet.holds
end Go.Proofs.Ythlkofbdfjpfpaa
