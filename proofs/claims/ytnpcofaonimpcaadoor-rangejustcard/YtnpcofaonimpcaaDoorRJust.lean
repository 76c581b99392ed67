/-
  whipcordkeep.RangeJust: the prefixes of a range lie side by side, from its first address to its last one.
-/
import Derived.Test.YtnpcofaonimpcaaDoorSAlg
import Derived.Test.YtnpcofaonimpcaaDoorKeepI
namespace Go.Proofs.YtnpcofaonimpcaaDoor
open Go.RowKit
set_option linter.unusedVariables false
set_option linter.unusedSimpArgs false

theorem wideJ (six : Bool) (w : World) :
    Calls Tryd.prog 12 #[.bool six] w fun e w' => e = .returned (.int .i64 (wideN six : Nat)) ∧ w = w' := by
  cases six
  · go_enter Tryd.func12, Tryd.ntmps12
    go_wp2
    go_ret
    exact ⟨rfl, rfl⟩
  · go_enter Tryd.func12, Tryd.ntmps12
    go_wp2
    go_ret
    exact ⟨rfl, rfl⟩
set_option maxHeartbeats 8000000 in
set_option maxRecDepth 100000 in
theorem just_no (six : Bool) (rh rl bi N : Int) (x : Nat) (n0 : 0 ≤ N) (n1 : N < 1048576)
    (AO : Hid (∀ W : World, Calls Tryd.prog 6 #[.agg #[.bool six, .int .u64 rh, .int .u64 rl]] W fun e w' => e = .returned (.agg #[.bool six, .int .u64 (aH x), .int .u64 (aL x)]) ∧ Below W.heap.size W w'))
    (P1 : Hid (∀ W : World, Calls Tryd.prog 8 #[.int .i64 bi, .int .i64 1048576] W fun e w' => e = .returned (.int .i64 N) ∧ W = w'))
    (X1 : Hid (∀ W : World, Calls Tryd.prog 7 #[.agg #[.bool six, .int .u64 (aH x), .int .u64 (aL x)], .int .i64 N] W fun e w' => e = .returned (.tuple #[.agg #[.bool false, .int .u64 0, .int .u64 0], .int .i64 2]) ∧ Below W.heap.size W w'))
    (w : World) (hF : FamAt w) :
    Calls Tryd.prog 3 #[.agg #[.bool six, .int .u64 rh, .int .u64 rl], .int .i64 bi] w fun e w' => e = .returned (.bool true) ∧ Below w.heap.size w w' := by
  have FM := Lib.hid hF
  have CS := Lib.hid (fun (W : World) h => cidrSure_calls W h)
  clear hF
  go_enter Tryd.func3, Tryd.ntmps3
  go_wp2_with fail
  refine (AO.out _).mono ?_
  rintro e w1 ⟨rfl, hb1⟩
  have bZ := thenBelow (thenBelow (show Below w.heap.size w (w.alloc (.cells #[.bool six, .int .u64 rh, .int .u64 rl] 24)) from (Below.refl _ w).alloc (Nat.le_refl _) _) hb1) (show Below w1.heap.size w1 (w1.alloc (.cells #[.bool six, .int .u64 (aH x), .int .u64 (aL x)] 25)) from (Below.refl _ w1).alloc (Nat.le_refl _) _)
  have FM := Lib.hid ((FM.out.keep ((Below.refl _ w).alloc (Nat.le_refl _) (.cells #[.bool six, .int .u64 rh, .int .u64 rl] 24))).keep hb1)
  have FM := Lib.hid (FM.out.keep ((Below.refl _ w1).alloc (Nat.le_refl _) (.cells #[.bool six, .int .u64 (aH x), .int .u64 (aL x)] 25)))
  have GA := AddrAt.new w1 six (aH x) (aL x) 25
  clear hb1
  go_wp2_with fail
  revert bZ FM GA
  obtain ⟨AB, hAB⟩ : ∃ AB, w1.heap.size = AB := ⟨_, rfl⟩
  rw [hAB]
  clear hAB
  generalize w1.alloc (.cells #[.bool six, .int .u64 (aH x), .int .u64 (aL x)] 25) = Z
  intro bZ FM GA
  have Fa := Lib.hid GA
  obtain ⟨a0, a1, a2, al⟩ := addrCells Fa.out
  have hne : ¬ AB = Z.heap.size := by omega
  have hne2 : ¬ Z.heap.size = AB := by omega
  clear GA
  go_region_held3 (fun w' => w'.cell? ⟨AB, 0, none⟩ = some (.bool six) ∧ w'.cell? ⟨AB, 1, none⟩ = some (.int .u64 (aH x)) ∧ w'.cell? ⟨AB, 2, none⟩ = some (.int .u64 (aL x)))
    (first
      | (simp (disch := first | assumption | (simp; done) | (simp; omega)) [go_sem, World.cell?_alloc_past, World.cell?_setCell_far, a0, a1, a2, hne, hne2]; done)
      | (simp (disch := first | assumption | (simp; done) | (simp; omega)) [go_sem, World.cell?_alloc_past, World.cell?_setCell_far, c0, c1, c2, hne, hne2, hne3, hne4]; done)
      | fail)
    (first
      | (go_at_call 8; refine (P1.out _).mono ?_; rintro e w' ⟨rfl, rfl⟩)
      | (go_at_call 7; refine (X1.out _).mono ?_; rintro e w4 ⟨rfl, hb4⟩; first | (have V4 := (AddrV.new Z false 0 0 25).drew.keep hb4; have b4 := thenBelow (((Below.refl _ Z).alloc (Nat.le_refl _) _).drew) hb4; obtain ⟨c0, c1, c2, cl⟩ := addrCells (Fa.out.keep b4); obtain ⟨⟨t0, t1, t2, tl⟩, tf⟩ := V4; have g0 := tf 0; have g1 := tf 1; have g2 := tf 2; have V4 : Hid (AddrV w4 Z.heap.size false 0 0) := Lib.hid ⟨⟨t0, t1, t2, tl⟩, tf⟩; clear tf; have hne3 := hne; have hne4 := hne2) | (have b4 := thenBelow (Below.refl _ Z).drew hb4; obtain ⟨c0, c1, c2, cl⟩ := addrCells (Fa.out.keep b4); have hne3 : ¬ AB = w4.heap.size := (by omega); have hne4 : ¬ w4.heap.size = AB := (by omega)))
      | fail)
  all_goals
    first
      | (have Gm := (V4.out.store false 0 0).1
         have bm := ((b4.setCell (p := ⟨Z.heap.size, 0, none⟩) (Nat.le_refl _) (.bool false)).setCell (p := ⟨Z.heap.size, 1, none⟩) (Nat.le_refl _) (.int .u64 0)).setCell (p := ⟨Z.heap.size, 2, none⟩) (Nat.le_refl _) (.int .u64 0)
         revert Gm bm
         generalize ((w4.setCell ⟨Z.heap.size, 0, none⟩ (.bool false)).setCell ⟨Z.heap.size, 1, none⟩ (.int .u64 0)).setCell ⟨Z.heap.size, 2, none⟩ (.int .u64 0) = V
         intro Gm bm
         generalize Z.heap.size = BB at Gm ⊢
         clear V4 t0 t1 t2 tl g0 g1 g2)
      | (have Gm := AddrAt.new w4 false 0 0 25
         have bm := thenBelow b4 ((Below.refl _ w4).alloc (Nat.le_refl _) (.cells #[.bool false, .int .u64 0, .int .u64 0] 25))
         revert Gm bm
         generalize w4.alloc (.cells #[.bool false, .int .u64 0, .int .u64 0] 25) = V
         intro Gm bm
         generalize w4.heap.size = BB at Gm ⊢)
    have Fb := Lib.hid Gm
    have bV := thenBelow bZ bm
    have Fa := Lib.hid (Fa.out.keep bm)
    have FM := Lib.hid (FM.out.keep bm)
    clear Gm bm b4 hb4 a0 a1 a2 al c0 c1 c2 cl hne hne2 hne3 hne4 bZ
    go_wp2_with fail
    refine (CS.out _ FM.out).mono ?_
    rintro e w5 ⟨rfl, hb5⟩
    have b5 := thenBelow bV hb5
    go_wp2
    go_ret
    exact ⟨rfl, b5⟩
set_option maxHeartbeats 16000000 in
set_option maxRecDepth 100000 in
theorem just_yes (six : Bool) (rh rl bi N : Int) (x y : Nat) (l : List PT) (n0 : 0 ≤ N) (n1 : N < 1048576) (hl0 : 0 < l.length) (hl : l.length ≤ 60) (hx : x < 2 ^ wideN six) (hy : y < 2 ^ wideN six) (hL : Line six x l (y + 1)) (hN : NeatC six l)
    (AO : Hid (∀ W : World, Calls Tryd.prog 6 #[.agg #[.bool six, .int .u64 rh, .int .u64 rl]] W fun e w' => e = .returned (.agg #[.bool six, .int .u64 (aH x), .int .u64 (aL x)]) ∧ Below W.heap.size W w'))
    (P1 : Hid (∀ W : World, Calls Tryd.prog 8 #[.int .i64 bi, .int .i64 1048576] W fun e w' => e = .returned (.int .i64 N) ∧ W = w'))
    (X1 : Hid (∀ W : World, Calls Tryd.prog 7 #[.agg #[.bool six, .int .u64 (aH x), .int .u64 (aL x)], .int .i64 N] W fun e w' => e = .returned (.tuple #[.agg #[.bool six, .int .u64 (aH y), .int .u64 (aL y)], .int .i64 0]) ∧ Below W.heap.size W w'))
    (R1 : Hid (∀ W : World, FamAt W → Calls Tryd.prog 10 #[.agg #[.bool six, .int .u64 (aH x), .int .u64 (aL x)], .agg #[.bool six, .int .u64 (aH y), .int .u64 (aL y)]] W (PresOutE l 0 W)))
    (w : World) (hF : FamAt w) :
    Calls Tryd.prog 3 #[.agg #[.bool six, .int .u64 rh, .int .u64 rl], .int .i64 bi] w fun e w' => e = .returned (.bool true) ∧ Below w.heap.size w w' := by
  have FM := Lib.hid hF
  have CS := Lib.hid (fun (W : World) h => cidrSure_calls W h)
  have PL := Lib.hid (fun (v : Value) (W : World) h => plain_calls six l hN (by omega) v W h)
  have LI := Lib.hid hL
  clear hF hN hL
  go_enter Tryd.func3, Tryd.ntmps3
  go_wp2_with fail
  refine (AO.out _).mono ?_
  rintro e w1 ⟨rfl, hb1⟩
  have bZ := thenBelow (thenBelow (show Below w.heap.size w (w.alloc (.cells #[.bool six, .int .u64 rh, .int .u64 rl] 24)) from (Below.refl _ w).alloc (Nat.le_refl _) _) hb1) (show Below w1.heap.size w1 (w1.alloc (.cells #[.bool six, .int .u64 (aH x), .int .u64 (aL x)] 25)) from (Below.refl _ w1).alloc (Nat.le_refl _) _)
  have FM := Lib.hid ((FM.out.keep ((Below.refl _ w).alloc (Nat.le_refl _) (.cells #[.bool six, .int .u64 rh, .int .u64 rl] 24))).keep hb1)
  have FM := Lib.hid (FM.out.keep ((Below.refl _ w1).alloc (Nat.le_refl _) (.cells #[.bool six, .int .u64 (aH x), .int .u64 (aL x)] 25)))
  have GA := AddrAt.new w1 six (aH x) (aL x) 25
  clear hb1
  go_wp2_with fail
  revert bZ FM GA
  obtain ⟨AB, hAB⟩ : ∃ AB, w1.heap.size = AB := ⟨_, rfl⟩
  rw [hAB]
  clear hAB
  generalize w1.alloc (.cells #[.bool six, .int .u64 (aH x), .int .u64 (aL x)] 25) = Z
  intro bZ FM GA
  have Fa := Lib.hid GA
  obtain ⟨a0, a1, a2, al⟩ := addrCells Fa.out
  have hne : ¬ AB = Z.heap.size := by omega
  have hne2 : ¬ Z.heap.size = AB := by omega
  clear GA
  go_region_held3 (fun w' => w'.cell? ⟨AB, 0, none⟩ = some (.bool six) ∧ w'.cell? ⟨AB, 1, none⟩ = some (.int .u64 (aH x)) ∧ w'.cell? ⟨AB, 2, none⟩ = some (.int .u64 (aL x)))
    (first
      | (simp (disch := first | assumption | (simp; done) | (simp; omega)) [go_sem, World.cell?_alloc_past, World.cell?_setCell_far, a0, a1, a2, hne, hne2]; done)
      | (simp (disch := first | assumption | (simp; done) | (simp; omega)) [go_sem, World.cell?_alloc_past, World.cell?_setCell_far, c0, c1, c2, hne, hne2, hne3, hne4]; done)
      | fail)
    (first
      | (go_at_call 8; refine (P1.out _).mono ?_; rintro e w' ⟨rfl, rfl⟩)
      | (go_at_call 7; refine (X1.out _).mono ?_; rintro e w4 ⟨rfl, hb4⟩; first | (have V4 := (AddrV.new Z false 0 0 25).drew.keep hb4; have b4 := thenBelow (((Below.refl _ Z).alloc (Nat.le_refl _) _).drew) hb4; obtain ⟨c0, c1, c2, cl⟩ := addrCells (Fa.out.keep b4); obtain ⟨⟨t0, t1, t2, tl⟩, tf⟩ := V4; have g0 := tf 0; have g1 := tf 1; have g2 := tf 2; have V4 : Hid (AddrV w4 Z.heap.size false 0 0) := Lib.hid ⟨⟨t0, t1, t2, tl⟩, tf⟩; clear tf; have hne3 := hne; have hne4 := hne2) | (have b4 := thenBelow (Below.refl _ Z).drew hb4; obtain ⟨c0, c1, c2, cl⟩ := addrCells (Fa.out.keep b4); have hne3 : ¬ AB = w4.heap.size := (by omega); have hne4 : ¬ w4.heap.size = AB := (by omega)))
      | fail)
  all_goals
    first
      | (have Gm := (V4.out.store six (aH y) (aL y)).1
         have bm := ((b4.setCell (p := ⟨Z.heap.size, 0, none⟩) (Nat.le_refl _) (.bool six)).setCell (p := ⟨Z.heap.size, 1, none⟩) (Nat.le_refl _) (.int .u64 (aH y))).setCell (p := ⟨Z.heap.size, 2, none⟩) (Nat.le_refl _) (.int .u64 (aL y))
         revert Gm bm
         generalize ((w4.setCell ⟨Z.heap.size, 0, none⟩ (.bool six)).setCell ⟨Z.heap.size, 1, none⟩ (.int .u64 (aH y))).setCell ⟨Z.heap.size, 2, none⟩ (.int .u64 (aL y)) = V
         intro Gm bm
         generalize Z.heap.size = BB at Gm ⊢
         clear V4 t0 t1 t2 tl g0 g1 g2)
      | (have Gm := AddrAt.new w4 six (aH y) (aL y) 25
         have bm := thenBelow b4 ((Below.refl _ w4).alloc (Nat.le_refl _) (.cells #[.bool six, .int .u64 (aH y), .int .u64 (aL y)] 25))
         revert Gm bm
         generalize w4.alloc (.cells #[.bool six, .int .u64 (aH y), .int .u64 (aL y)] 25) = V
         intro Gm bm
         generalize w4.heap.size = BB at Gm ⊢)
    have Fb := Lib.hid Gm
    have bV := thenBelow bZ bm
    have Fa := Lib.hid (Fa.out.keep bm)
    have FM := Lib.hid (FM.out.keep bm)
    clear Gm bm b4 hb4 a0 a1 a2 al c0 c1 c2 cl hne hne2 hne3 hne4 bZ
    obtain ⟨a0, a1, a2, al⟩ := addrCells Fa.out
    obtain ⟨y0, y1, y2, yl⟩ := addrCells Fb.out
    go_wp2_with fail
    refine (R1.out _ FM.out).mono ?_
    rintro e w5 ⟨v1, rfl, o1, hb5⟩
    have b5 := thenBelow bV hb5
    have Fa := Lib.hid (Fa.out.keep hb5)
    have Fb := Lib.hid (Fb.out.keep hb5)
    have FM := Lib.hid (FM.out.keep hb5)
    have O1 : Hid (Has w5 v1 l) := Lib.hid ⟨_, o1⟩
    clear a0 a1 a2 al y0 y1 y2 yl hb5 bV o1
    obtain ⟨p1, k1, rfl⟩ := O1.out.row.form
    have hX0 := hx
    have hl1 : ((l.length : Int) == 0) = false := by rw [beq_eq_false_iff_ne]; omega
    go_wp2_with fail
    refine (CS.out _ FM.out).mono ?_
    rintro e w6 ⟨rfl, hb6⟩
    have b6 := thenBelow b5 hb6
    have Fa := Lib.hid (Fa.out.keep hb6)
    have Fb := Lib.hid (Fb.out.keep hb6)
    have O1 := Lib.hid (O1.out.keep hb6)
    clear hb6 b5 FM
    go_wp2_with fail
    refine (PL.out _ _ O1.out.row).mono ?_
    rintro e w7 ⟨rfl, hb7⟩
    have b7 := thenBelow b6 hb7
    have Fa := Lib.hid (Fa.out.keep hb7)
    have Fb := Lib.hid (Fb.out.keep hb7)
    have O1 := Lib.hid (O1.out.keep hb7)
    clear hb7 b6
    obtain ⟨a0, a1, a2, al⟩ := addrCells Fa.out
    have hw0 : (32 : Int) ≤ (wideN six : Nat) := by cases six <;> decide
    have hw1 : ((wideN six : Nat) : Int) ≤ 128 := by cases six <;> decide
    have hw2 : ¬ 2 * ((wideN six : Nat) : Int) < (l.length : Int) := by omega
    go_wp2_with fail
    refine (wideJ six _).mono ?_
    rintro e w' ⟨rfl, rfl⟩
    go_wp2_with fail
    have hAT := AddrV.new w7 six (aH x) (aL x) 25
    have hBA : Below w7.heap.size w7 (w7.alloc (.cells #[.bool six, .int .u64 (aH x), .int .u64 (aL x)] 25)) := (Below.refl _ w7).alloc (Nat.le_refl _) _
    have HC : Hid (∀ k (hk : k < l.length), ∃ g o, p1 = some ⟨g, o, none⟩ ∧ g < w7.heap.size ∧ PCell w7 g (o + k * 4) l[k]) := by
      obtain ⟨p, c, e, h⟩ := O1.out.row.at
      obtain ⟨rfl, _⟩ : p1 = p ∧ k1 = c := by simpa using e
      exact Lib.hid h
    clear a0 a1 a2 al O1 Fa
    have w0 : Hid (Below w.heap.size w w7) := Lib.hid b7
    go_loopw [11] (fun i wr => ∃ j s : Nat, j < l.length ∧ i = .int .i64 j ∧ Hid (Line six s (l.drop j) (y + 1)) ∧ AddrV wr w7.heap.size six (aH s) (aL s) ∧ Below w7.heap.size w7 wr) (fun i _ => l.length - (intOf i).toNat)
    case atStart => exact ⟨0, x, hl0, rfl, LI, hAT, hBA⟩
    case round =>
      obtain ⟨j, s, hj, rfl, hli, hat, hnx⟩ := hrel
      clear hAT hBA
      have hsz := hnx.size
      obtain ⟨g, ofs, rfl, hg, hP⟩ := HC.out j hj
      have hP := hP.keep hg hnx
      have hst := hli.out
      rw [List.drop_eq_getElem_cons hj] at hst
      obtain ⟨k, ep, hA, hnext⟩ := hst.step
      rw [ep] at hP
      have FP := Lib.hid hP
      obtain ⟨x0, x1, x2, x3⟩ := hP
      simp only at x0 x1 x2 x3
      have HAT := Lib.hid hat
      have hS := span_al hA
      have hpk := pow_one k
      obtain ⟨X, hX⟩ : ∃ X, s + (2 ^ k - 1) = X := ⟨_, rfl⟩
      rw [hX] at hS
      have S1 := Lib.hid hS
      have hji : (j : Int) < (l.length : Int) := by omega
      clear hS ep hli hst hat
      by_cases hend : j + 1 = l.length
      · obtain rfl : X = y := by
          rw [List.drop_eq_nil_of_le (by omega)] at hnext
          have := hnext.end
          omega
        have he1 : ((j : Int) == (l.length : Int) - 1) = true := by rw [beq_iff_eq]; omega
        clear hnext hX hpk
        have FY := Lib.hid (Fb.out.keep hnx)
        go_wp2_with fail
        refine (S1.out _).mono ?_
        rintro e w8 ⟨rfl, hb8⟩
        have b8 := thenBelow hnx hb8
        have FY := Lib.hid (FY.out.keep hb8)
        obtain ⟨⟨t0, t1, t2, tl⟩, _⟩ := HAT.out.keep hb8
        obtain ⟨y0, y1, y2, yl⟩ := addrCells FY.out
        have tm := Nat.lt_succ_of_lt tl
        have ym := Nat.lt_succ_of_lt yl
        simp only [Nat.succ_eq_add_one] at tm ym
        have b9 := thenBelow w0.out (b8.trans (((Below.refl w7.heap.size w8).alloc b8.size (.cells #[.bool six, .int .u64 (aH s), .int .u64 (aL s)] 25)).alloc (by simp; have := b8.size; omega) (.cells #[.bool six, .int .u64 (aH X), .int .u64 (aL X)] 25)))
        clear x0 x1 x2 x3
        go_wp2
        go_ret
        exact ⟨by simp, b9⟩
      · have hj1 : j + 1 < l.length := by omega
        have he1 : ((j : Int) == (l.length : Int) - 1) = false := by rw [beq_eq_false_iff_ne]; omega
        have hst := hnext
        rw [List.drop_eq_getElem_cons hj1] at hst
        obtain ⟨k2, _, hA2, _⟩ := hst.step
        have hlt2 := hA2.lt
        obtain ⟨Y, hY⟩ : ∃ Y, s + 2 ^ k = Y := ⟨_, rfl⟩
        rw [hY] at hnext hlt2
        have N1 := Lib.hid (fun W : World => next_num six X Y 1 (by omega) hlt2 (by decide) (by decide) (by omega) W)
        have LN := Lib.hid hnext
        clear hst hA2 hnext hX hY hpk
        go_wp2_with fail
        refine (S1.out _).mono ?_
        rintro e w8 ⟨rfl, hb8⟩
        have b8 := thenBelow hnx hb8
        have HAT := Lib.hid (HAT.out.keep hb8)
        obtain ⟨⟨t0, t1, t2, tl⟩, _⟩ := HAT.out
        have tm := Nat.lt_succ_of_lt tl
        simp only [Nat.succ_eq_add_one] at tm
        clear x0 x1 x2 x3
        go_wp2_with fail
        refine (N1.out _).mono ?_
        rintro e w9 ⟨rfl, hb9⟩
        have bQ : Below w8.heap.size w8 ((w8.alloc (.cells #[.bool six, .int .u64 (aH s), .int .u64 (aL s)] 25)).alloc (.cells #[.bool six, .int .u64 (aH X), .int .u64 (aL X)] 25)) := ((Below.refl _ w8).alloc (Nat.le_refl _) _).alloc (by simp) _
        have b9 := thenBelow (thenBelow b8 bQ) hb9
        have bR := thenBelow b9 ((Below.refl _ w9).alloc (Nat.le_refl _) (.cells #[.bool six, .int .u64 (aH Y), .int .u64 (aL Y)] 25))
        have HA9 := ((HAT.out.keep bQ).keep hb9).alloc (.cells #[.bool six, .int .u64 (aH Y), .int .u64 (aL Y)] 25)
        have St := HA9.store six (aH Y) (aL Y)
        have bS := ((bR.setCell (p := ⟨w7.heap.size, 0, none⟩) (Nat.le_refl _) (.bool six)).setCell (p := ⟨w7.heap.size, 1, none⟩) (Nat.le_refl _) (.int .u64 (aH Y))).setCell (p := ⟨w7.heap.size, 2, none⟩) (Nat.le_refl _) (.int .u64 (aL Y))
        have hne : ¬ w9.heap.size = w7.heap.size := by have := b9.size; have := (HAT.out.keep bQ).1.2.2.2; have := hb9.size; omega
        have hne2 : ¬ w7.heap.size = w9.heap.size := fun e => hne e.symm
        have St := Lib.hid St
        obtain ⟨⟨t0, t1, t2, tl⟩, tf⟩ := HA9
        have g0 := tf 0
        have g1 := tf 1
        have g2 := tf 2
        clear tf HAT hb8 hb9 bQ b8 b9 bR
        go_wp2
        go_roundw
        case rel => exact ⟨j + 1, Y, hj1, by go_num, LN, St.out, bS⟩
        case measure => simp [intOf]; omega
end Go.Proofs.YtnpcofaonimpcaaDoor
