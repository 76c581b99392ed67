/-
  PROVED: whipcordkeep.PreChain returns true for all arguments, and they read afterwards as they read before. No condition.
-/
import Derived.Test.YthlkofbdfjpfpaaRows
import Derived.Test.YthlkofbdfjpfpaaPreN
import Derived.Test.YthlkofbdfjpfpaaShapesRaw
import Derived.IntWalk
namespace Go.Proofs.Ythlkofbdfjpfpaa
open Go.ChangeShapes Go.WideShapes Go.ChangeAt Go.RowKit Go.Joins
set_option linter.unusedVariables false
set_option linter.unusedSimpArgs false

set_option maxHeartbeats 4000000 in
set_option maxRecDepth 100000 in
theorem Chain.core (six s2 bx by' : Bool) (rh rl n0 m0 qh ql : Int) (x n d j L y a : Nat)
    (e1 : IntKind.i64.wrap (((wideN six : Nat) : Int) - (n : Int)) = (d : Int)) (e2 : IntKind.i64.wrap ((d : Int) + 1) = (d : Int) + 1) (e3 : IntKind.i64.wrap ((n : Int) + (j : Int)) = (L : Int))
    (O1 : Hid (∀ W : World, Calls Try.prog 26 #[.agg #[.bool six, .int .u64 rh, .int .u64 rl], .int .i64 n0] W fun e w' => e = .returned (.agg #[.bool six, .int .u64 (aH x), .int .u64 (aL x), .int .i64 n]) ∧ Below W.heap.size W w'))
    (PK : Hid (∀ W : World, Calls Try.prog 31 #[.int .i64 m0, .int .i64 ((d : Int) + 1)] W fun e w' => e = .returned (.int .i64 j) ∧ W = w'))
    (O2 : Hid (∀ W : World, Calls Try.prog 26 #[.agg #[.bool six, .int .u64 rh, .int .u64 rl], .int .i64 L] W fun e w' => e = .returned (.agg #[.bool six, .int .u64 (aH y), .int .u64 (aL y), .int .i64 L]) ∧ Below W.heap.size W w'))
    (OA : Hid (∀ W : World, Calls Try.prog 29 #[.agg #[.bool six, .int .u64 qh, .int .u64 ql]] W fun e w' => e = .returned (.agg #[.bool six, .int .u64 (aH a), .int .u64 (aL a)]) ∧ Below W.heap.size W w'))
    (V1 : Hid (∀ W : World, Calls Try.prog 18 #[.agg #[.bool six, .int .u64 (aH x), .int .u64 (aL x), .int .i64 n], .agg #[.bool six, .int .u64 (aH y), .int .u64 (aL y), .int .i64 L]] W fun e w' => e = .returned (.tuple #[.bool true, .int .i64 0]) ∧ Below W.heap.size W w'))
    (H1 : Hid (∀ W : World, Calls Try.prog 16 #[.agg #[.bool six, .int .u64 (aH y), .int .u64 (aL y), .int .i64 L], .agg #[.bool six, .int .u64 (aH a), .int .u64 (aL a)]] W fun e w' => e = .returned (.tuple #[.bool bx, .int .i64 0]) ∧ Below W.heap.size W w'))
    (H2 : Hid (∀ W : World, Calls Try.prog 16 #[.agg #[.bool six, .int .u64 (aH x), .int .u64 (aL x), .int .i64 n], .agg #[.bool six, .int .u64 (aH a), .int .u64 (aL a)]] W fun e w' => e = .returned (.tuple #[.bool by', .int .i64 0]) ∧ Below W.heap.size W w'))
    (HB : Hid (bx = false ∨ by' = true)) (w : World) :
    Calls Try.prog 12 #[.agg #[.bool six, .int .u64 rh, .int .u64 rl], .int .i64 n0, .int .i64 m0, .agg #[.bool s2, .int .u64 qh, .int .u64 ql]] w fun e w' => e = .returned (.bool true) ∧ Below w.heap.size w w' := by
  go_enter Try.func12, Try.ntmps12
  go_wp2_with fail
  refine (O1.out _).mono ?_
  rintro e w1 ⟨rfl, hb1⟩
  have b1 := thenBelow (show Below w.heap.size w _ from (by first | exact Below.refl _ _ | exact (Below.refl _ _).alloc (Nat.le_refl _) _ | exact ((Below.refl _ _).alloc (Nat.le_refl _) _).alloc (by simp) _ | exact (((Below.refl _ _).alloc (Nat.le_refl _) _).alloc (by simp) _).alloc (by simp; omega) _)) hb1
  have Gr := (AddrV.new (w) six rh rl 41).via (by first | exact Below.refl _ _ | exact (Below.refl _ _).alloc (Nat.le_refl _) _ | exact ((Below.refl _ _).alloc (Nat.le_refl _) _).alloc (by simp) _ | exact (((Below.refl _ _).alloc (Nat.le_refl _) _).alloc (by simp) _).alloc (by simp; omega) _) hb1
  try simp only [World.size_alloc] at Gr
  have Fr := Lib.hid Gr
  clear Gr
  have Gq := (AddrV.new ((w.alloc (.cells #[.bool six, .int .u64 rh, .int .u64 rl] 41))) s2 qh ql 41).via (by first | exact Below.refl _ _ | exact (Below.refl _ _).alloc (Nat.le_refl _) _ | exact ((Below.refl _ _).alloc (Nat.le_refl _) _).alloc (by simp) _ | exact (((Below.refl _ _).alloc (Nat.le_refl _) _).alloc (by simp) _).alloc (by simp; omega) _) hb1
  try simp only [World.size_alloc] at Gq
  have Fq := Lib.hid Gq
  clear Gq
  have z1 : w.heap.size + 1 < w1.heap.size := by have := hb1.size; simp at this; omega
  clear hb1
  obtain ⟨r_0, r_1, r_2, r_l⟩ := Fr.out.1
  have r_m := Nat.lt_succ_of_lt r_l
  try simp only [Nat.succ_eq_add_one, Nat.add_lt_add_iff_right] at r_m
  have hs1 := b1.size
  have hne1 : ¬ w1.heap.size + 1 = w.heap.size := by clear e1 e2 e3; omega
  go_wp2_with fail
  go_region_held3 (fun w' => (w'.cell? ⟨w.heap.size, 0, none⟩ = some (.bool six) ∧ w'.cell? ⟨w.heap.size, 1, none⟩ = some (.int .u64 rh) ∧ w'.cell? ⟨w.heap.size, 2, none⟩ = some (.int .u64 rl)) ∧ w'.cell? ⟨w1.heap.size, 3, none⟩ = some (.int .i64 n)) (first | (simp (disch := first | assumption | (simp; done) | (simp; omega)) [go_sem, World.cell?_alloc_past, World.cell?_setCell_far, r_0, r_1, r_2]; done) | with_reducible exact ⟨⟨R2.1.1, R2.1.2.1, R2.1.2.2.1⟩, P2.1.2.2.2.1⟩ | with_reducible exact ⟨⟨(R2.alloc _).1.1, (R2.alloc _).1.2.1, (R2.alloc _).1.2.2.1⟩, (P2.alloc _).1.2.2.2.1⟩ | (simp (disch := first | assumption | (simp [hne1]; done)) [go_sem, World.cell?_alloc_past, World.cell?_setCell_far, R2.1.1, R2.1.2.1, R2.1.2.2.1, P2.1.2.2.2.1]; done))
    (first
      | (go_at_call 27; refine (wide_calls six _).mono ?_; rintro e w' ⟨rfl, rfl⟩)
      | (go_at_call 31; refine (PK.out _).mono ?_; rintro e w' ⟨rfl, rfl⟩)
      | (go_at_call 26; refine (O2.out _).mono ?_; rintro e w2 ⟨rfl, hb2⟩; first | (have R2 := ((Fr.out.alloc _).alloc _).drew.keep hb2; have s2a := R2.1.2.2.2; have Q2 := ((Fq.out.alloc _).alloc _).drew.keep hb2; have P2 := ((PreV.new w1 six (aH x) (aL x) n 26).alloc _).drew.keep hb2; have T2 := (PreV.new (w1.alloc (.cells #[.bool six, .int .u64 (aH x), .int .u64 (aL x), .int .i64 n] 26)) false 0 0 0 26).drew.keep hb2; have b2 := thenBelow ((b1.alloc hs1 _).alloc (by rw [World.size_alloc]; exact Nat.le_succ_of_le hs1) _).drew hb2; simp only [World.size_alloc] at T2; have ⟨⟨t0, t1, t2, t3, tl⟩, tf⟩ := T2; have g0 := tf 0; have g1 := tf 1; have g2 := tf 2; have g3 := tf 3; have s2b := P2.1.2.2.2.2; clear hb2) | (have R2 := (Fr.out.alloc _).drew.keep hb2; have s2a := R2.1.2.2.2; have Q2 := (Fq.out.alloc _).drew.keep hb2; have P2 := (PreV.new w1 six (aH x) (aL x) n 26).drew.keep hb2; have b2 := thenBelow (b1.alloc hs1 _).drew hb2; have s2b := P2.1.2.2.2.2; clear hb2)))
  all_goals
    clear e1 e2 e3
    have hs2 := b2.size
    first
      | (have Gy := T2.store six (aH y) (aL y) L
         have hny : w1.heap.size + 1 ≠ w.heap.size + 1 := by omega
         have Gr := ((((R2.far (p := ⟨w1.heap.size + 1, 0, none⟩) (by show w.heap.size ≠ w1.heap.size + 1; omega) (.bool six)).far (p := ⟨w1.heap.size + 1, 1, none⟩) (by show w.heap.size ≠ w1.heap.size + 1; omega) (.int .u64 (aH y))).far (p := ⟨w1.heap.size + 1, 2, none⟩) (by show w.heap.size ≠ w1.heap.size + 1; omega) (.int .u64 (aL y))).far (p := ⟨w1.heap.size + 1, 3, none⟩) (by show w.heap.size ≠ w1.heap.size + 1; omega) (.int .i64 L))
         have Gq := ((((Q2.far (p := ⟨w1.heap.size + 1, 0, none⟩) (by show w.heap.size + 1 ≠ w1.heap.size + 1; omega) (.bool six)).far (p := ⟨w1.heap.size + 1, 1, none⟩) (by show w.heap.size + 1 ≠ w1.heap.size + 1; omega) (.int .u64 (aH y))).far (p := ⟨w1.heap.size + 1, 2, none⟩) (by show w.heap.size + 1 ≠ w1.heap.size + 1; omega) (.int .u64 (aL y))).far (p := ⟨w1.heap.size + 1, 3, none⟩) (by show w.heap.size + 1 ≠ w1.heap.size + 1; omega) (.int .i64 L))
         have Gp := ((((P2.far (p := ⟨w1.heap.size + 1, 0, none⟩) (by show w1.heap.size ≠ w1.heap.size + 1; omega) (.bool six)).far (p := ⟨w1.heap.size + 1, 1, none⟩) (by show w1.heap.size ≠ w1.heap.size + 1; omega) (.int .u64 (aH y))).far (p := ⟨w1.heap.size + 1, 2, none⟩) (by show w1.heap.size ≠ w1.heap.size + 1; omega) (.int .u64 (aL y))).far (p := ⟨w1.heap.size + 1, 3, none⟩) (by show w1.heap.size ≠ w1.heap.size + 1; omega) (.int .i64 L))
         have Gb := ((((b2.setCell (p := ⟨w1.heap.size + 1, 0, none⟩) (by show w.heap.size ≤ w1.heap.size + 1; omega) (.bool six)).setCell (p := ⟨w1.heap.size + 1, 1, none⟩) (by show w.heap.size ≤ w1.heap.size + 1; omega) (.int .u64 (aH y))).setCell (p := ⟨w1.heap.size + 1, 2, none⟩) (by show w.heap.size ≤ w1.heap.size + 1; omega) (.int .u64 (aL y))).setCell (p := ⟨w1.heap.size + 1, 3, none⟩) (by show w.heap.size ≤ w1.heap.size + 1; omega) (.int .i64 L))
         revert Gy Gr Gq Gp Gb
         generalize ((((w2.setCell ⟨w1.heap.size + 1, 0, none⟩ (.bool six)).setCell ⟨w1.heap.size + 1, 1, none⟩ (.int .u64 (aH y))).setCell ⟨w1.heap.size + 1, 2, none⟩ (.int .u64 (aL y))).setCell ⟨w1.heap.size + 1, 3, none⟩ (.int .i64 L)) = Wf
         intro Gy Gr Gq Gp Gb
         clear T2 t0 t1 t2 t3 tl tf g0 g1 g2 g3)
      | (have Gy := PreV.new w2 six (aH y) (aL y) L 26
         have hny : w2.heap.size ≠ w.heap.size + 1 := by omega
         have Gr := R2.alloc (.cells #[.bool six, .int .u64 (aH y), .int .u64 (aL y), .int .i64 L] 26)
         have Gq := Q2.alloc (.cells #[.bool six, .int .u64 (aH y), .int .u64 (aL y), .int .i64 L] 26)
         have Gp := P2.alloc (.cells #[.bool six, .int .u64 (aH y), .int .u64 (aL y), .int .i64 L] 26)
         have Gb := b2.alloc hs2 (.cells #[.bool six, .int .u64 (aH y), .int .u64 (aL y), .int .i64 L] 26)
         revert Gy Gr Gq Gp Gb
         generalize w2.alloc (.cells #[.bool six, .int .u64 (aH y), .int .u64 (aL y), .int .i64 L] 26) = Wf
         intro Gy Gr Gq Gp Gb)
    clear R2 Q2 P2 b2 r_0 r_1 r_2 r_l r_m Fr Fq
    have Hp := Lib.hid Gp
    have Hy := Lib.hid Gy
    have Hq := Lib.hid Gq
    obtain ⟨⟨r_0, r_1, r_2, r_l⟩, _⟩ := Gr
    obtain ⟨⟨q_0, q_1, q_2, q_l⟩, qf⟩ := Gq
    have qf0 := qf 0
    clear Gp Gy qf
    go_wp2_with fail
    refine (OA.out _).mono ?_
    rintro e w3 ⟨rfl, hb3⟩
    have b3 := thenBelow (Gb.setCell (p := ⟨w.heap.size + 1, 0, none⟩) (by simp) (.bool six)) hb3
    have Fp := Lib.hid ((Hp.out.far (p := ⟨w.heap.size + 1, 0, none⟩) (by show w1.heap.size ≠ w.heap.size + 1; omega) (.bool six)).keep hb3).1
    have Fy := Lib.hid ((Hy.out.far (p := ⟨w.heap.size + 1, 0, none⟩) hny (.bool six)).keep hb3).1
    clear Hp Hy Hq r_0 r_1 r_2 r_l q_0 q_1 q_2 q_l qf0 hb3 Gb
    obtain ⟨p_0, p_1, p_2, p_3, p_l⟩ := Fp.out
    have p_m := Nat.lt_succ_of_lt p_l
    try simp only [Nat.succ_eq_add_one, Nat.add_lt_add_iff_right] at p_m
    obtain ⟨y_0, y_1, y_2, y_3, y_l⟩ := Fy.out
    have y_m := Nat.lt_succ_of_lt y_l
    try simp only [Nat.succ_eq_add_one, Nat.add_lt_add_iff_right] at y_m
    go_wp2_with fail
    refine (V1.out _).mono ?_
    rintro e w4 ⟨rfl, hb4⟩
    have b4 := thenBelow (thenBelow b3 (by first | exact Below.refl _ _ | exact (Below.refl _ _).alloc (Nat.le_refl _) _ | exact ((Below.refl _ _).alloc (Nat.le_refl _) _).alloc (by simp) _ | exact (((Below.refl _ _).alloc (Nat.le_refl _) _).alloc (by simp) _).alloc (by simp; omega) _)) hb4
    clear p_0 p_1 p_2 p_3 p_l p_m y_0 y_1 y_2 y_3 y_l y_m
    have Fp := Lib.hid (Fp.out.via (by first | exact Below.refl _ _ | exact (Below.refl _ _).alloc (Nat.le_refl _) _ | exact ((Below.refl _ _).alloc (Nat.le_refl _) _).alloc (by simp) _ | exact (((Below.refl _ _).alloc (Nat.le_refl _) _).alloc (by simp) _).alloc (by simp; omega) _) hb4)
    have Fy := Lib.hid (Fy.out.via (by first | exact Below.refl _ _ | exact (Below.refl _ _).alloc (Nat.le_refl _) _ | exact ((Below.refl _ _).alloc (Nat.le_refl _) _).alloc (by simp) _ | exact (((Below.refl _ _).alloc (Nat.le_refl _) _).alloc (by simp) _).alloc (by simp; omega) _) hb4)
    have Ga := (AddrAt.new (w3) six (aH a) (aL a) 24).via (by first | exact Below.refl _ _ | exact (Below.refl _ _).alloc (Nat.le_refl _) _ | exact ((Below.refl _ _).alloc (Nat.le_refl _) _).alloc (by simp) _ | exact (((Below.refl _ _).alloc (Nat.le_refl _) _).alloc (by simp) _).alloc (by simp; omega) _) hb4
    try simp only [World.size_alloc] at Ga
    have Fa := Lib.hid Ga
    clear Ga
    clear hb4 b3
    obtain ⟨y_0, y_1, y_2, y_3, y_l⟩ := Fy.out
    have y_m := Nat.lt_succ_of_lt y_l
    try simp only [Nat.succ_eq_add_one, Nat.add_lt_add_iff_right] at y_m
    obtain ⟨a_0, a_1, a_2, a_l⟩ := Fa.out
    have a_m := Nat.lt_succ_of_lt a_l
    try simp only [Nat.succ_eq_add_one, Nat.add_lt_add_iff_right] at a_m
    go_wp2_with fail
    refine (H1.out _).mono ?_
    rintro e w5 ⟨rfl, hb5⟩
    have b5 := thenBelow (thenBelow b4 (by first | exact Below.refl _ _ | exact (Below.refl _ _).alloc (Nat.le_refl _) _ | exact ((Below.refl _ _).alloc (Nat.le_refl _) _).alloc (by simp) _ | exact (((Below.refl _ _).alloc (Nat.le_refl _) _).alloc (by simp) _).alloc (by simp; omega) _)) hb5
    clear y_0 y_1 y_2 y_3 y_l y_m a_0 a_1 a_2 a_l a_m
    have Fp := Lib.hid (Fp.out.via (by first | exact Below.refl _ _ | exact (Below.refl _ _).alloc (Nat.le_refl _) _ | exact ((Below.refl _ _).alloc (Nat.le_refl _) _).alloc (by simp) _ | exact (((Below.refl _ _).alloc (Nat.le_refl _) _).alloc (by simp) _).alloc (by simp; omega) _) hb5)
    have Fy := Lib.hid (Fy.out.via (by first | exact Below.refl _ _ | exact (Below.refl _ _).alloc (Nat.le_refl _) _ | exact ((Below.refl _ _).alloc (Nat.le_refl _) _).alloc (by simp) _ | exact (((Below.refl _ _).alloc (Nat.le_refl _) _).alloc (by simp) _).alloc (by simp; omega) _) hb5)
    have Fa := Lib.hid (Fa.out.via (by first | exact Below.refl _ _ | exact (Below.refl _ _).alloc (Nat.le_refl _) _ | exact ((Below.refl _ _).alloc (Nat.le_refl _) _).alloc (by simp) _ | exact (((Below.refl _ _).alloc (Nat.le_refl _) _).alloc (by simp) _).alloc (by simp; omega) _) hb5)
    clear hb5 b4
    obtain ⟨p_0, p_1, p_2, p_3, p_l⟩ := Fp.out
    have p_m := Nat.lt_succ_of_lt p_l
    try simp only [Nat.succ_eq_add_one, Nat.add_lt_add_iff_right] at p_m
    obtain ⟨a_0, a_1, a_2, a_l⟩ := Fa.out
    have a_m := Nat.lt_succ_of_lt a_l
    try simp only [Nat.succ_eq_add_one, Nat.add_lt_add_iff_right] at a_m
    go_wp2_with fail
    refine (H2.out _).mono ?_
    rintro e w6 ⟨rfl, hb6⟩
    have b6 := thenBelow (thenBelow b5 (by first | exact Below.refl _ _ | exact (Below.refl _ _).alloc (Nat.le_refl _) _ | exact ((Below.refl _ _).alloc (Nat.le_refl _) _).alloc (by simp) _ | exact (((Below.refl _ _).alloc (Nat.le_refl _) _).alloc (by simp) _).alloc (by simp; omega) _)) hb6
    clear p_0 p_1 p_2 p_3 p_l p_m a_0 a_1 a_2 a_l a_m
    have Fp := Lib.hid (Fp.out.via (by first | exact Below.refl _ _ | exact (Below.refl _ _).alloc (Nat.le_refl _) _ | exact ((Below.refl _ _).alloc (Nat.le_refl _) _).alloc (by simp) _ | exact (((Below.refl _ _).alloc (Nat.le_refl _) _).alloc (by simp) _).alloc (by simp; omega) _) hb6)
    have Fy := Lib.hid (Fy.out.via (by first | exact Below.refl _ _ | exact (Below.refl _ _).alloc (Nat.le_refl _) _ | exact ((Below.refl _ _).alloc (Nat.le_refl _) _).alloc (by simp) _ | exact (((Below.refl _ _).alloc (Nat.le_refl _) _).alloc (by simp) _).alloc (by simp; omega) _) hb6)
    have Fa := Lib.hid (Fa.out.via (by first | exact Below.refl _ _ | exact (Below.refl _ _).alloc (Nat.le_refl _) _ | exact ((Below.refl _ _).alloc (Nat.le_refl _) _).alloc (by simp) _ | exact (((Below.refl _ _).alloc (Nat.le_refl _) _).alloc (by simp) _).alloc (by simp; omega) _) hb6)
    clear hb6 b5
    go_wp2_with fail
    refine (preSure_calls _).mono ?_
    rintro e w7 ⟨rfl, hb7⟩
    have b7 := thenBelow (thenBelow b6 (by first | exact Below.refl _ _ | exact (Below.refl _ _).alloc (Nat.le_refl _) _ | exact ((Below.refl _ _).alloc (Nat.le_refl _) _).alloc (by simp) _ | exact (((Below.refl _ _).alloc (Nat.le_refl _) _).alloc (by simp) _).alloc (by simp; omega) _)) hb7
    have Fp := Lib.hid (Fp.out.via (by first | exact Below.refl _ _ | exact (Below.refl _ _).alloc (Nat.le_refl _) _ | exact ((Below.refl _ _).alloc (Nat.le_refl _) _).alloc (by simp) _ | exact (((Below.refl _ _).alloc (Nat.le_refl _) _).alloc (by simp) _).alloc (by simp; omega) _) hb7)
    have Fy := Lib.hid (Fy.out.via (by first | exact Below.refl _ _ | exact (Below.refl _ _).alloc (Nat.le_refl _) _ | exact ((Below.refl _ _).alloc (Nat.le_refl _) _).alloc (by simp) _ | exact (((Below.refl _ _).alloc (Nat.le_refl _) _).alloc (by simp) _).alloc (by simp; omega) _) hb7)
    have Fa := Lib.hid (Fa.out.via (by first | exact Below.refl _ _ | exact (Below.refl _ _).alloc (Nat.le_refl _) _ | exact ((Below.refl _ _).alloc (Nat.le_refl _) _).alloc (by simp) _ | exact (((Below.refl _ _).alloc (Nat.le_refl _) _).alloc (by simp) _).alloc (by simp; omega) _) hb7)
    clear hb7 b6
    rcases HB.out with rfl | rfl
    · go_wp2
      go_ret
      exact ⟨rfl, b7⟩
    · cases bx
      · go_wp2
        go_ret
        exact ⟨rfl, b7⟩
      · go_wp2
        go_ret
        exact ⟨rfl, b7⟩

theorem Chain.walk (s0 : Bool) (h0 l0 a1 a2 : Int) (s3 : Bool) (h3 l3 : Int)
    (h00 : 0 ≤ h0) (h01 : h0 ≤ 18446744073709551615) (l00 : 0 ≤ l0) (l01 : l0 ≤ 18446744073709551615) (a10 : -9223372036854775808 ≤ a1) (a11 : a1 ≤ 9223372036854775807) (a20 : -9223372036854775808 ≤ a2) (a21 : a2 ≤ 9223372036854775807)
    (h30 : 0 ≤ h3) (h31 : h3 ≤ 18446744073709551615) (l30 : 0 ≤ l3) (l31 : l3 ≤ 18446744073709551615) (w : World) :
    Calls Try.prog 12 #[.agg #[.bool s0, .int .u64 h0, .int .u64 l0], .int .i64 a1, .int .i64 a2, .agg #[.bool s3, .int .u64 h3, .int .u64 l3]] w fun e w' => e = .returned (.bool true) ∧ Below w.heap.size w w' := by
  have px := preR_pv s0 h0 l0 a1 h00 h01 l00 l01
  have o1 := fun W : World => preOf_calls s0 h0 l0 a1 h00 h01 l00 l01 a10 a11 _ _ rfl rfl W
  have pa := numR_lt s0 h3 l3 h30 h31 l30 l31
  have oa := fun W : World => addrOfNum_calls s0 h3 l3 h30 h31 l30 l31 _ rfl W
  have hW := wideN_le s0
  have hn := px.2.1
  have ex : preR s0 h0 l0 a1 = lowN (numR s0 h0 l0) (wideN s0 - lenR s0 a1) := rfl
  generalize preR s0 h0 l0 a1 = x at *
  generalize numR s0 h3 l3 = a at *
  generalize lenR s0 a1 = n at *
  obtain ⟨d, hd⟩ : ∃ d, wideN s0 - n = d := ⟨_, rfl⟩
  have j0 := Int.emod_nonneg a2 (show ((d : Int) + 1) ≠ 0 by omega)
  have j1 := Int.emod_lt_of_pos a2 (show (0 : Int) < (d : Int) + 1 by omega)
  have pk := fun W : World => picked_calls a2 ((d : Int) + 1) (by omega) (by omega) a20 a21 W
  obtain ⟨j, hj⟩ : ∃ j : Nat, a2 % ((d : Int) + 1) = j := ⟨(a2 % ((d : Int) + 1)).toNat, by omega⟩
  rw [hj] at pk j0 j1
  have hL : lenR s0 ((n + j : Nat) : Int) = n + j := by
    unfold lenR
    rw [Int.emod_eq_of_lt (by omega) (by omega)]; omega
  have o2 := fun W : World => preOf_calls s0 h0 l0 ((n + j : Nat) : Int) h00 h01 l00 l01 (by omega) (by omega) _ _ rfl hL W
  have py := preR_pv s0 h0 l0 ((n + j : Nat) : Int) h00 h01 l00 l01
  have ey : preR s0 h0 l0 ((n + j : Nat) : Int) = lowN (numR s0 h0 l0) (wideN s0 - lenR s0 ((n + j : Nat) : Int)) := rfl
  rw [hL] at py ey
  generalize preR s0 h0 l0 ((n + j : Nat) : Int) = y at *
  have hyx : lowN y (wideN s0 - n) = x := by rw [ey, ex, lowN_lower _ _ _ (by omega)]
  refine Chain.core s0 s3 _ _ h0 l0 a1 a2 h3 l3 x n d j (n + j) y a (by rw [IntKind.wrap_i64]; omega) (by rw [IntKind.wrap_i64]; omega) (by rw [IntKind.wrap_i64]; omega) (Lib.hid o1) (Lib.hid pk) (Lib.hid o2) (Lib.hid oa)
    (Lib.hid (covers_pv s0 x n y (n + j) true px py (by simp [covB, hyx]))) (Lib.hid (has_pv s0 y (n + j) a _ py pa rfl)) (Lib.hid (has_pv s0 x n a _ px pa rfl)) (Lib.hid ?_) w
  cases hb : hasB s0 y (n + j) a
  · exact .inl rfl
  · refine .inr ?_
    simp [hasB] at hb ⊢
    rw [← hyx, ← hb, lowN_lower _ _ _ (by omega)]

theorem Chain.own : ownKnob Try.prog.godebug = none := by kernel_rfl
set_option maxRecDepth 100000 in
theorem Chain.lifted (os : Os) (started : os.Started) (H : Type) (enc : TypeId × Value → H) :
    ReturnsInHanded {} Try.checked os 12 .any (Rows.preChainSpec.pre6 enc Try.prog Try.f12 Rows.preChainRow.domain false) (Rows.preChainSpec.post enc Try.prog Try.f12 false true false false) := by
  refine returnsInHanded_of_change (C := Try.checked) Chain.own started (by kernel_rfl) Try.func12
    (ChangeSpec.witness6 (enc := enc) (C := Try.checked) false ⟨#[], #[.agg #[.bool false, .int .u64 0, .int .u64 0], .int .i64 0, .int .i64 0, .agg #[.bool false, .int .u64 0, .int .u64 0]], []⟩ 8 (by kernel_rfl) (by kernel_rfl) (by kernel_rfl) (by kernel_rfl)) ?_
  intro W base args ds gs before hval0 hW hcnd _
  have hval : ∀ (j : Nat) t v, Try.f12.params[j]? = some t → args[j]? = some v → Value.okWide Try.prog W .any base t v := hval0
  have hW' := hW
  obtain ⟨p, q, hA0, hV, rfl, hfz, hnd⟩ := hW
  have hA : DataW.TrodAll enc Try.prog W 0 (fun _ => true) true Try.f12.params.toList args.toList ds p := hA0
  rw [Try.params12] at hA hval
  obtain ⟨v0, vs0, d0, ds0, p0, q0, hargs, rfl, rfl, rd0, r0⟩ := trodAll_cons hA
  obtain ⟨v1, vs1, d1, ds1, p1, q1, rfl, rfl, rfl, rd1, r1⟩ := trodAll_cons r0
  obtain ⟨v2, vs2, d2, ds2, p2, q2, rfl, rfl, rfl, rd2, r2⟩ := trodAll_cons r1
  obtain ⟨v3, vs3, d3, ds3, p3, q3, rfl, rfl, rfl, rd3, r3⟩ := trodAll_cons r2
  obtain ⟨rfl, rfl, rfl⟩ := trodAll_nil r3
  obtain rfl : args = #[v0, v1, v2, v3] := by cases args; simp_all
  obtain ⟨rfl, rfl⟩ := trodVars_none hV
  obtain ⟨s0, h0, l0, rfl, rfl, rfl, wa0, wb0⟩ := openRaw (hval 0 41 v0 rfl rfl) rd0
  obtain ⟨a1, rfl, rfl, rfl, wa1⟩ := open_int Try.underlying3 (hval 1 3 v1 rfl rfl) rd1
  obtain ⟨a2, rfl, rfl, rfl, wa2⟩ := open_int Try.underlying3 (hval 2 3 v2 rfl rfl) rd2
  obtain ⟨s3, h3, l3, rfl, rfl, rfl, wa3, wb3⟩ := openRaw (hval 3 41 v3 rfl rfl) rd3
  clear hA0 hval0
  simp only [List.append_nil] at hW'
  refine (Chain.walk s0 h0 l0 a1 a2 s3 h3 l3 (u64_of_wf wa0).1 (u64_of_wf wa0).2 (u64_of_wf wb0).1 (u64_of_wf wb0).2 (i64_of_wf wa1).1 (i64_of_wf wa1).2 (i64_of_wf wa2).1 (i64_of_wf wa2).2 (u64_of_wf wa3).1 (u64_of_wf wa3).2 (u64_of_wf wb3).1 (u64_of_wf wb3).2 W).mono fun e W' ⟨he, hb⟩ => ?_
  subst he
  exact ⟨_, rfl, postBelow (pa := []) (pv := []) hW' hb (fun _ _ _ => trodAll_cons_mk (shut_bool Try.underlying4 _) trodAll_mk0) (fun sp _ => trodAll_cons_mk (shutRaw wa0 wb0) (trodAll_cons_mk (shut_int Try.underlying3 wa1) (trodAll_cons_mk (shut_int Try.underlying3 wa2) (trodAll_cons_mk (shutRaw wa3 wb3) trodAll_mk0)))) (fun _ _ => rfl) rfl⟩

theorem Chain.holds : Rows.PreChainSaid :=
  OpenClaim.holds_of_wide 12 Try.f12 rfl rfl rfl rfl rfl rfl rfl ⟨rfl, rfl, rfl, rfl, rfl⟩ rfl rfl rfl rfl rfl (by kernel_rfl) Try.func12 (by kernel_rfl)
    (of_decide_eq_true (by kernel_rfl)) (by unfold Func.isWrapper; first | (rw [if_pos (by decide +kernel)]; kernel_rfl) | (rw [if_neg (by decide +kernel)]; exact ⟨rfl, rfl⟩))
    (fun os started H enc _ => Chain.lifted os started H enc)
#print axioms Chain.holds
end Go.Proofs.Ythlkofbdfjpfpaa
