/-
  whipcordkeep.RangeCut, where the range does not leave its family.
-/
import Derived.Test.YtojdlhiibffnfaaDoorKeepB
namespace Go.Proofs.YtojdlhiibffnfaaDoor
open Go.RowKit
set_option linter.unusedVariables false
set_option linter.unusedSimpArgs false

theorem FamAt.via {w W w' : World} (h : FamAt w) (hb : Below w.heap.size w W) (hc : Below W.heap.size W w') : FamAt w' := (h.keep hb).keep hc
theorem ownsVia {w W w' : World} {base : Nat} {v : Value} {l : List PT} (h : Owned w base v l) (hb : Below w.heap.size w W) (hc : Below W.heap.size W w') : Owned w' base v l := ownsKeep (ownsKeep h hb) hc
set_option maxHeartbeats 8000000 in
set_option maxRecDepth 100000 in
theorem cut_yes (six : Bool) (rh rl bi cu N M : Int) (x y m q : Nat) (l1 l2 l3 : List PT) (n0 : 0 ≤ N) (n1 : N < 65536) (hl : l1.length + l2.length ≤ 80) (hl3 : l3.length ≤ 1000000000)
    (AO : Hid (∀ W : World, Calls Tryd.prog 21 #[.agg #[.bool six, .int .u64 rh, .int .u64 rl]] W fun e w' => e = .returned (.agg #[.bool six, .int .u64 (aH x), .int .u64 (aL x)]) ∧ Below W.heap.size W w'))
    (P1 : Hid (∀ W : World, Calls Tryd.prog 23 #[.int .i64 bi, .int .i64 65536] W fun e w' => e = .returned (.int .i64 N) ∧ W = w'))
    (X1 : Hid (∀ W : World, Calls Tryd.prog 22 #[.agg #[.bool six, .int .u64 (aH x), .int .u64 (aL x)], .int .i64 (1 + N)] W fun e w' => e = .returned (.tuple #[.agg #[.bool six, .int .u64 (aH y), .int .u64 (aL y)], .int .i64 0]) ∧ Below W.heap.size W w'))
    (P2 : Hid (∀ W : World, Calls Tryd.prog 23 #[.int .i64 cu, .int .i64 (1 + N)] W fun e w' => e = .returned (.int .i64 M) ∧ W = w'))
    (X2 : Hid (∀ W : World, Calls Tryd.prog 22 #[.agg #[.bool six, .int .u64 (aH x), .int .u64 (aL x)], .int .i64 M] W fun e w' => e = .returned (.tuple #[.agg #[.bool six, .int .u64 (aH m), .int .u64 (aL m)], .int .i64 0]) ∧ Below W.heap.size W w'))
    (X3 : Hid (∀ W : World, Calls Tryd.prog 22 #[.agg #[.bool six, .int .u64 (aH m), .int .u64 (aL m)], .int .i64 1] W fun e w' => e = .returned (.tuple #[.agg #[.bool six, .int .u64 (aH q), .int .u64 (aL q)], .int .i64 0]) ∧ Below W.heap.size W w'))
    (R1 : Hid (∀ W : World, FamAt W → Calls Tryd.prog 12 #[.agg #[.bool six, .int .u64 (aH x), .int .u64 (aL x)], .agg #[.bool six, .int .u64 (aH m), .int .u64 (aL m)]] W (PresOutE l1 0 W)))
    (R2 : Hid (∀ W : World, FamAt W → Calls Tryd.prog 12 #[.agg #[.bool six, .int .u64 (aH q), .int .u64 (aL q)], .agg #[.bool six, .int .u64 (aH y), .int .u64 (aL y)]] W (PresOutE l2 0 W)))
    (R3 : Hid (∀ W : World, FamAt W → Calls Tryd.prog 12 #[.agg #[.bool six, .int .u64 (aH x), .int .u64 (aL x)], .agg #[.bool six, .int .u64 (aH y), .int .u64 (aL y)]] W (PresOutE l3 0 W)))
    (ME : Hid (∀ (W : World) (v : Value), RowP W v (l2 ++ l1) → FamAt W → Calls Tryd.prog 15 #[v] W (PresOutE l3 0 W)))
    (w : World) (hF : FamAt w) :
    Calls Tryd.prog 10 #[.agg #[.bool six, .int .u64 rh, .int .u64 rl], .int .i64 bi, .int .i64 cu] w fun e w' => e = .returned (.bool true) ∧ Below w.heap.size w w' := by
  have FM := Lib.hid hF
  have CS := Lib.hid (fun (W : World) h => cidrSure_calls W h)
  obtain ⟨i0, hii, hz0, hz1, hz2⟩ := info_parts info_pre
  clear hF
  go_enter Tryd.func10, Tryd.ntmps10
  go_wp2_with fail
  refine (AO.out _).mono ?_
  rintro e w1 ⟨rfl, hb1⟩
  have b1 := thenBelow (show Below w.heap.size w _ from (by first | exact Below.refl _ _ | exact (Below.refl _ _).alloc (Nat.le_refl _) _ | exact ((Below.refl _ _).alloc (Nat.le_refl _) _).alloc (by simp) _ | exact (((Below.refl _ _).alloc (Nat.le_refl _) _).alloc (by simp) _).alloc (by simp; omega) _)) hb1
  have FM := Lib.hid (FM.out.via (by first | exact Below.refl _ _ | exact (Below.refl _ _).alloc (Nat.le_refl _) _ | exact ((Below.refl _ _).alloc (Nat.le_refl _) _).alloc (by simp) _ | exact (((Below.refl _ _).alloc (Nat.le_refl _) _).alloc (by simp) _).alloc (by simp; omega) _) hb1)
  clear hb1
  go_wp2_with fail
  refine (P1.out _).mono ?_
  rintro e w' ⟨rfl, rfl⟩
  go_wp2_with fail
  refine (X1.out _).mono ?_
  rintro e w2 ⟨rfl, hb2⟩
  have b2 := thenBelow (thenBelow b1 (by first | exact Below.refl _ _ | exact (Below.refl _ _).alloc (Nat.le_refl _) _ | exact ((Below.refl _ _).alloc (Nat.le_refl _) _).alloc (by simp) _ | exact (((Below.refl _ _).alloc (Nat.le_refl _) _).alloc (by simp) _).alloc (by simp; omega) _)) hb2
  have Ga := (AddrAt.new (w1) six (aH x) (aL x) 24).via (by first | exact Below.refl _ _ | exact (Below.refl _ _).alloc (Nat.le_refl _) _ | exact ((Below.refl _ _).alloc (Nat.le_refl _) _).alloc (by simp) _ | exact (((Below.refl _ _).alloc (Nat.le_refl _) _).alloc (by simp) _).alloc (by simp; omega) _) hb2
  try simp only [World.size_alloc] at Ga
  have Fa := Lib.hid Ga
  clear Ga
  have FM := Lib.hid (FM.out.via (by first | exact Below.refl _ _ | exact (Below.refl _ _).alloc (Nat.le_refl _) _ | exact ((Below.refl _ _).alloc (Nat.le_refl _) _).alloc (by simp) _ | exact (((Below.refl _ _).alloc (Nat.le_refl _) _).alloc (by simp) _).alloc (by simp; omega) _) hb2)
  clear hb2 b1
  have bZ : Below w2.heap.size w2 (w2.alloc (.cells #[.bool six, .int .u64 (aH y), .int .u64 (aL y)] 24)) := (Below.refl _ w2).alloc (Nat.le_refl _) _
  have b3 := thenBelow b2 bZ
  have Fa := Lib.hid (Fa.out.keep bZ)
  have FM := Lib.hid (FM.out.keep bZ)
  have GY := AddrAt.new w2 six (aH y) (aL y) 24
  clear b2
  go_wp2_with fail
  revert b3 Fa FM GY
  clear bZ
  generalize w2.alloc (.cells #[.bool six, .int .u64 (aH y), .int .u64 (aL y)] 24) = Z
  intro b3 Fa FM GY
  have Fb := Lib.hid GY
  obtain ⟨a0, a1, a2, al⟩ := addrCells Fa.out
  have hne : ¬ w1.heap.size = Z.heap.size := by omega
  have hne2 : ¬ Z.heap.size = w1.heap.size := by omega
  clear GY
  go_region_held3 (fun w' => w'.cell? ⟨w1.heap.size, 0, none⟩ = some (.bool six) ∧ w'.cell? ⟨w1.heap.size, 1, none⟩ = some (.int .u64 (aH x)) ∧ w'.cell? ⟨w1.heap.size, 2, none⟩ = some (.int .u64 (aL x)))
    (first
      | (simp (disch := first | assumption | (simp; done) | (simp; omega)) [go_sem, World.cell?_alloc_past, World.cell?_setCell_far, a0, a1, a2, hne, hne2]; done)
      | (simp (disch := first | assumption | (simp; done) | (simp; omega)) [go_sem, World.cell?_alloc_past, World.cell?_setCell_far, c0, c1, c2, hne, hne2, hne3, hne4]; done)
      | fail)
    (first
      | (go_at_call 23; refine (P2.out _).mono ?_; rintro e w' ⟨rfl, rfl⟩)
      | (go_at_call 22; refine (X2.out _).mono ?_; rintro e w4 ⟨rfl, hb4⟩; first | (have V4 := (AddrV.new Z false 0 0 24).drew.keep hb4; have b4 := thenBelow (((Below.refl _ Z).alloc (Nat.le_refl _) _).drew) hb4; obtain ⟨c0, c1, c2, cl⟩ := addrCells (Fa.out.keep b4); obtain ⟨⟨t0, t1, t2, tl⟩, tf⟩ := V4; have g0 := tf 0; have g1 := tf 1; have g2 := tf 2; have V4 : Hid (AddrV w4 Z.heap.size false 0 0) := Lib.hid ⟨⟨t0, t1, t2, tl⟩, tf⟩; clear tf; have hne3 := hne; have hne4 := hne2) | (have b4 := thenBelow (Below.refl _ Z).drew hb4; obtain ⟨c0, c1, c2, cl⟩ := addrCells (Fa.out.keep b4); have hne3 : ¬ w1.heap.size = w4.heap.size := (by omega); have hne4 : ¬ w4.heap.size = w1.heap.size := (by omega)))
      | fail)
  all_goals
    first
      | (have Gm := (V4.out.store six (aH m) (aL m)).1
         have bm := ((b4.setCell (p := ⟨Z.heap.size, 0, none⟩) (Nat.le_refl _) (.bool six)).setCell (p := ⟨Z.heap.size, 1, none⟩) (Nat.le_refl _) (.int .u64 (aH m))).setCell (p := ⟨Z.heap.size, 2, none⟩) (Nat.le_refl _) (.int .u64 (aL m))
         revert Gm bm
         generalize ((w4.setCell ⟨Z.heap.size, 0, none⟩ (.bool six)).setCell ⟨Z.heap.size, 1, none⟩ (.int .u64 (aH m))).setCell ⟨Z.heap.size, 2, none⟩ (.int .u64 (aL m)) = V
         intro Gm bm
         clear V4 t0 t1 t2 tl g0 g1 g2)
      | (have Gm := AddrAt.new w4 six (aH m) (aL m) 24
         have bm := thenBelow b4 ((Below.refl _ w4).alloc (Nat.le_refl _) (.cells #[.bool six, .int .u64 (aH m), .int .u64 (aL m)] 24))
         revert Gm bm
         generalize w4.alloc (.cells #[.bool six, .int .u64 (aH m), .int .u64 (aL m)] 24) = V
         intro Gm bm)
    have Fm := Lib.hid Gm
    have b5 := thenBelow b3 bm
    have Fa := Lib.hid (Fa.out.keep bm)
    have Fb := Lib.hid (Fb.out.keep bm)
    have FM := Lib.hid (FM.out.keep bm)
    clear Gm bm b4 hb4 a0 a1 a2 al c0 c1 c2 cl hne hne2 hne3 hne4 b3
    obtain ⟨m0, m1, m2, ml⟩ := addrCells Fm.out
    go_wp2_with fail
    refine (X3.out _).mono ?_
    rintro e w6 ⟨rfl, hb6⟩
    have bq : Below w6.heap.size w6 (w6.alloc (.cells #[.bool six, .int .u64 (aH q), .int .u64 (aL q)] 24)) := (Below.refl _ w6).alloc (Nat.le_refl _) _
    have b6 := thenBelow (thenBelow b5 hb6) bq
    have Fa := Lib.hid (Fa.out.keep hb6)
    have Fb := Lib.hid (Fb.out.keep hb6)
    have Fm := Lib.hid (Fm.out.keep hb6)
    have FM := Lib.hid ((FM.out.keep hb6).keep bq)
    clear m0 m1 m2 ml hb6 b5
    obtain ⟨a0, a1, a2, al⟩ := addrCells Fa.out
    obtain ⟨m0, m1, m2, ml⟩ := addrCells Fm.out
    have am := Nat.lt_succ_of_lt al
    have mm := Nat.lt_succ_of_lt ml
    simp only [Nat.succ_eq_add_one] at am mm
    go_wp2_with fail
    refine (R1.out _ FM.out).mono ?_
    rintro e w7 ⟨v1, rfl, o1, hb7⟩
    have b7 := thenBelow b6 hb7
    have Fa := Lib.hid (Fa.out.via bq hb7)
    have Fb := Lib.hid (Fb.out.via bq hb7)
    have Fq := Lib.hid ((AddrAt.new w6 six (aH q) (aL q) 24).keep hb7)
    have FM := Lib.hid (FM.out.keep hb7)
    have O1 := Lib.hid o1
    clear a0 a1 a2 al m0 m1 m2 ml am mm Fm hb7 b6 bq o1
    obtain ⟨q0, q1, q2, ql⟩ := addrCells Fq.out
    obtain ⟨y0, y1, y2, yl⟩ := addrCells Fb.out
    go_wp2_with fail
    refine (R2.out _ FM.out).mono ?_
    rintro e w8 ⟨v2, rfl, o2, hb8⟩
    have b8 := thenBelow b7 hb8
    have Fa := Lib.hid (Fa.out.keep hb8)
    have Fb := Lib.hid (Fb.out.keep hb8)
    have FM := Lib.hid (FM.out.keep hb8)
    have O1 := Lib.hid (ownsKeep O1.out hb8)
    have O2 := Lib.hid o2
    clear q0 q1 q2 ql y0 y1 y2 yl Fq hb8 b7 o2
    obtain ⟨a0, a1, a2, al⟩ := addrCells Fa.out
    obtain ⟨y0, y1, y2, yl⟩ := addrCells Fb.out
    go_wp2_with fail
    refine (R3.out _ FM.out).mono ?_
    rintro e w9 ⟨v3, rfl, o3, hb9⟩
    have b9 := thenBelow b8 hb9
    have FM := Lib.hid (FM.out.keep hb9)
    have O1 := Lib.hid (ownsKeep O1.out hb9)
    have O2 := Lib.hid (ownsKeep O2.out hb9)
    have O3 := Lib.hid o3
    clear a0 a1 a2 al y0 y1 y2 yl Fa Fb hb9 b8 o3
    go_wp2_with fail
    refine (CS.out _ FM.out).mono ?_
    rintro e w10 ⟨rfl, hb10⟩
    have b10 := thenBelow b9 hb10
    have FM := Lib.hid (FM.out.keep hb10)
    have O1 := Lib.hid (ownsKeep O1.out hb10)
    have O2 := Lib.hid (ownsKeep O2.out hb10)
    have O3 := Lib.hid (ownsKeep O3.out hb10)
    clear hb10 b9
    have CP := Lib.hid (copied_calls l2 v2 _ (by omega) w10 O2.out)
    have f1 := (RowP.owned O1.out).form
    have f2 := (RowP.owned O2.out).form
    obtain ⟨p1, k1, rfl⟩ := f1
    obtain ⟨p2, k2, rfl⟩ := f2
    have hl4 : ¬ (80 : Int) < (l1.length : Int) + (l2.length : Int) := by omega
    go_wp2_with fail
    refine CP.out.mono ?_
    rintro e w11 ⟨v4, rfl, o4, hb11⟩
    have o1' := ownsKeep O1.out hb11
    have hby : (l2.length + l1.length) * 32 ≤ 140737488355328 := by omega
    have h63 : l2.length + l1.length ≤ maxLen := by unfold maxLen; omega
    have h11 := hb11.size
    go_wp2_with (first
      | (at_builtin; refine wpList_append_two (by rfl) _ _ _ (by rfl) w10.heap.size 44 i0 _ 4 32 Tryd.underlying25 hii hz0 hz1 hz2 rfl (by decide) _ _ _ (by rfl) o4 _ _ _ _ (by rfl) o1' (pRow_one _) hby h63 h11 ?_; intro ve we he be; have OE : Owned we w10.heap.size ve (l2 ++ l1) := (by unfold Owned; rw [List.length_append, pRow_app]; exact he))
      | (go_at_call 15; refine (ME.out _ _ (RowP.owned OE) (FM.out.keep (hb11.trans be))).mono ?_; rintro e w12 ⟨v5, rfl, o5, hb12⟩))
    have b12 := thenBelow (thenBelow b10 (hb11.trans be)) hb12
    have KS := keepSame_calls _ _ v5 v3 l3 hl3 w12 o5 (ownsKeep (ownsKeep O3.out (hb11.trans be)) hb12)
    go_wp2_with fail
    refine KS.mono ?_
    rintro e w13 ⟨rfl, hb13⟩
    have b13 := thenBelow b12 hb13
    go_wp2
    go_ret
    exact ⟨rfl, b13⟩
end Go.Proofs.YtojdlhiibffnfaaDoor
