/-
  Laid together: RefSpan, RefHalves.
-/
import Derived.Test.YtgajepmnklbmpaaG4
import Derived.Test.YtgajepmnklbmpaaVia
import Derived.Test.YtgajepmnklbmpaaG14
/-
  Contract of the document's PreSpan.
-/
namespace Go.Proofs.Ytgajepmnklbmpaa
open Go.RowKit
set_option linter.unusedVariables false
set_option linter.unusedSimpArgs false

/-- The bits from n on, k of them, are 1. -/
def upF (six : Bool) (x n k : Nat) (j : Nat) : Bool := decide (n ≤ j ∧ j < n + k) || fB six x j
end Go.Proofs.Ytgajepmnklbmpaa
/-
  Contracts of the document's PreHalves.
-/
namespace Go.Proofs.Ytgajepmnklbmpaa
open Go.RowKit
set_option linter.unusedVariables false
set_option linter.unusedSimpArgs false

set_option maxHeartbeats 400000 in
theorem refHalves_err (six : Bool) (x : Nat) (n e0 : Int) (HX : x < 2 ^ 128) (hc : chkE six x n = e0) (he : (e0 == 0) = false) (w : World) :
    Calls Try.prog 51 #[.agg #[.bool six, .int .u64 (aH x), .int .u64 (aL x), .int .i64 n]] w fun e w' => e = .returned (.tuple #[.agg #[.bool false, .int .u64 0, .int .u64 0, .int .i64 0], .agg #[.bool false, .int .u64 0, .int .u64 0, .int .i64 0], .int .i64 e0]) ∧ Below w.heap.size w w' := by
  have C := Lib.hid hc
  clear hc
  go_enter Try.func51, Try.ntmps51
  go_wp2_with fail
  refine (refFault_calls six x n HX _).mono ?_
  rw [C.out]
  rintro e w1 ⟨rfl, hb1⟩
  have b1 := thenBelow ((((Below.refl _ w).alloc (Nat.le_refl _) _).alloc (by simp) _).alloc (by simp; omega) _) hb1
  have P := (((PreV.new w six (aH x) (aL x) n 63).alloc _).alloc _).keep hb1
  have R := ((PreV.new (w.alloc (.cells #[.bool six, .int .u64 (aH x), .int .u64 (aL x), .int .i64 n] 63)) false 0 0 0 63).alloc _).keep hb1
  have T := (PreV.new ((w.alloc (.cells #[.bool six, .int .u64 (aH x), .int .u64 (aL x), .int .i64 n] 63)).alloc (.cells #[.bool false, .int .u64 0, .int .u64 0, .int .i64 0] 63)) false 0 0 0 63).keep hb1
  simp only [World.size_alloc] at P R T
  obtain ⟨⟨r0, r1, r2, r3, rl⟩, rf⟩ := R
  obtain ⟨⟨t0, t1, t2, t3, tl⟩, tf⟩ := T
  have f0 := rf 0; have f1 := rf 1; have f2 := rf 2; have f3 := rf 3
  have g0 := tf 0; have g1 := tf 1; have g2 := tf 2; have g3 := tf 3
  clear rf tf
  clear hb1
  go_wp2
  try simp only [Exit.inBlock, Exit.then]
  refine bodyPost_ret (v := .tuple #[.agg #[.bool false, .int .u64 0, .int .u64 0, .int .i64 0], .agg #[.bool false, .int .u64 0, .int .u64 0, .int .i64 0], .int .i64 e0]) (by simp [results, Try.results51, go_sem, r0, r1, r2, r3, t0, t1, t2, t3]) rfl ?_
  exact ⟨rfl, (((((((b1.setCell (by simp) _).setCell (by simp) _).setCell (by simp) _).setCell (by simp) _).setCell (by simp; omega) _).setCell (by simp; omega) _).setCell (by simp; omega) _).setCell (by simp; omega) _⟩

set_option maxHeartbeats 400000 in
theorem refHalves_none (six : Bool) (x : Nat) (n : Int) (hn : n = (wideN six : Nat)) (HX : x < 2 ^ 128) (hc : chkE six x n = 0) (w : World) :
    Calls Try.prog 51 #[.agg #[.bool six, .int .u64 (aH x), .int .u64 (aL x), .int .i64 n]] w fun e w' => e = .returned (.tuple #[.agg #[.bool false, .int .u64 0, .int .u64 0, .int .i64 0], .agg #[.bool false, .int .u64 0, .int .u64 0, .int .i64 0], .int .i64 7]) ∧ Below w.heap.size w w' := by
  have hW := wideN_le six
  have BO := Lib.hid (fun W : World => bitsOf_num six x HX W)
  obtain ⟨W, hWe⟩ : ∃ W, wideN six = W := ⟨_, rfl⟩
  rw [hWe] at hn hW BO
  subst hn
  clear hWe
  have C := Lib.hid hc
  clear hc
  go_enter Try.func51, Try.ntmps51
  go_wp2_with fail
  refine (refFault_calls six x W HX _).mono ?_
  rw [C.out]
  rintro e w1 ⟨rfl, hb1⟩
  have b1 := thenBelow ((((Below.refl _ w).alloc (Nat.le_refl _) _).alloc (by simp) _).alloc (by simp; omega) _) hb1
  have P := (((PreV.new w six (aH x) (aL x) W 63).alloc _).alloc _).keep hb1
  have R := ((PreV.new (w.alloc (.cells #[.bool six, .int .u64 (aH x), .int .u64 (aL x), .int .i64 W] 63)) false 0 0 0 63).alloc _).keep hb1
  have T := (PreV.new ((w.alloc (.cells #[.bool six, .int .u64 (aH x), .int .u64 (aL x), .int .i64 W] 63)).alloc (.cells #[.bool false, .int .u64 0, .int .u64 0, .int .i64 0] 63)) false 0 0 0 63).keep hb1
  simp only [World.size_alloc] at P R T
  have HP := Lib.hid P
  have HR := Lib.hid R
  have HT := Lib.hid T
  obtain ⟨⟨p0, p1, p2, p3, pl⟩, pf⟩ := P
  clear hb1 pf R T
  go_wp2_with fail
  refine (BO.out _).mono ?_
  rintro e w2 ⟨g, cap, rfl, hB2, hg2, hc2, hb2⟩
  have b2 := thenBelow b1 hb2
  have R := HR.out.keep hb2
  have T := HT.out.keep hb2
  clear p0 p1 p2 p3 pl
  obtain ⟨⟨p0, p1, p2, p3, pl⟩, pf⟩ := HP.out.keep hb2
  clear pf hb2 hB2 hg2 hc2 b1 HP HR HT
  obtain ⟨⟨r0, r1, r2, r3, rl⟩, rf⟩ := R
  obtain ⟨⟨t0, t1, t2, t3, tl⟩, tf⟩ := T
  have f0 := rf 0; have f1 := rf 1; have f2 := rf 2; have f3 := rf 3
  have g0 := tf 0; have g1 := tf 1; have g2 := tf 2; have g3 := tf 3
  clear rf tf
  go_wp2
  try simp only [Exit.inBlock, Exit.then]
  refine bodyPost_ret (v := .tuple #[.agg #[.bool false, .int .u64 0, .int .u64 0, .int .i64 0], .agg #[.bool false, .int .u64 0, .int .u64 0, .int .i64 0], .int .i64 7]) (by simp [results, Try.results51, go_sem, r0, r1, r2, r3, t0, t1, t2, t3]) rfl ?_
  exact ⟨rfl, (((((((b2.setCell (by simp) _).setCell (by simp) _).setCell (by simp) _).setCell (by simp) _).setCell (by simp; omega) _).setCell (by simp; omega) _).setCell (by simp; omega) _).setCell (by simp; omega) _⟩

set_option maxHeartbeats 2000000 in
set_option maxRecDepth 100000 in
theorem refHalves_ok (six : Bool) (x n Hh : Nat) (hx : x < 2 ^ wideN six) (hn : n < wideN six) (hc : chkE six x n = 0) (hl : lowN x (wideN six - n) = x) (hH : lowN (topN x (wideN six - n)) (wideN six - (n + 1)) = Hh) (w : World) :
    Calls Try.prog 51 #[.agg #[.bool six, .int .u64 (aH x), .int .u64 (aL x), .int .i64 n]] w fun e w' => e = .returned (.tuple #[.agg #[.bool six, .int .u64 (aH x), .int .u64 (aL x), .int .i64 ((n : Int) + 1)], .agg #[.bool six, .int .u64 (aH Hh), .int .u64 (aL Hh), .int .i64 ((n : Int) + 1)], .int .i64 0]) ∧ Below w.heap.size w w' := by
  have hW := wideN_le six
  have HX := lt128 hx
  have ht : topN x (wideN six - n) < 2 ^ wideN six := topN_lt _ _ _ hx (by omega)
  have hHl : Hh < 2 ^ wideN six := by rw [← hH]; exact lowN_lt _ _ _ ht
  have FH := Lib.hid (fun j (hj : j < wideN six) => (show (if j = n then true else fB six x j) = fB six Hh j by
    rw [← hH, fB_low six _ (n + 1) j hn hj, fB_top six x n j (by omega) hj]
    by_cases e : j = n
    · subst e; simp
    · rw [if_neg e]
      by_cases h : j < n
      · rw [decide_eq_true (show j < n + 1 by omega), decide_eq_false (show ¬ n ≤ j by omega)]; simp
      · rw [decide_eq_false (show ¬ j < n + 1 by omega), (lowBits_iff six x n hx (by omega)).1 hl j (by omega) hj]; simp))
  have AO := Lib.hid (fun (g cap : Nat) (W : World) (h : BitsF W g (wideN six) (fB six Hh)) => addrOf_bits six Hh g cap hHl W h)
  have BO := Lib.hid (fun W : World => bitsOf_num six x HX W)
  obtain ⟨W, hWe⟩ : ∃ W, wideN six = W := ⟨_, rfl⟩
  rw [hWe] at hn hW FH AO BO
  have hne : ((n : Int) == (W : Int)) = false := by simp; omega
  clear hH hWe hHl ht hl
  have C := Lib.hid hc
  clear hc
  go_enter Try.func51, Try.ntmps51
  go_wp2_with fail
  refine (refFault_calls six x n HX _).mono ?_
  rw [C.out]
  rintro e w1 ⟨rfl, hb1⟩
  have b1 := thenBelow ((((Below.refl _ w).alloc (Nat.le_refl _) _).alloc (by simp) _).alloc (by simp; omega) _) hb1
  have P := (((PreV.new w six (aH x) (aL x) n 63).alloc _).alloc _).keep hb1
  have R := ((PreV.new (w.alloc (.cells #[.bool six, .int .u64 (aH x), .int .u64 (aL x), .int .i64 n] 63)) false 0 0 0 63).alloc _).keep hb1
  have T := (PreV.new ((w.alloc (.cells #[.bool six, .int .u64 (aH x), .int .u64 (aL x), .int .i64 n] 63)).alloc (.cells #[.bool false, .int .u64 0, .int .u64 0, .int .i64 0] 63)) false 0 0 0 63).keep hb1
  simp only [World.size_alloc] at P R T
  have HP := Lib.hid P
  have HR := Lib.hid R
  have HT := Lib.hid T
  have zt := T.1.2.2.2.2
  obtain ⟨⟨p0, p1, p2, p3, pl⟩, pf⟩ := P
  clear hb1 pf R T
  go_wp2_with fail
  refine (BO.out _).mono ?_
  rintro e w2 ⟨g, cap, rfl, hB2, hg2, hc2, hb2⟩
  have b2 := thenBelow b1 hb2
  have hg : w.heap.size + 1 + 1 < g := by omega
  have hg3 : g < w2.heap.size := hB2.2.2
  have HP := Lib.hid (HP.out.keep hb2)
  have HR := Lib.hid (HR.out.keep hb2)
  have HT := Lib.hid (HT.out.keep hb2)
  have HB := Lib.hid hB2
  clear p0 p1 p2 p3 pl
  have P := HP.out
  obtain ⟨⟨p0, p1, p2, p3, pl⟩, pf⟩ := P
  have c2 := hB2.1 n hn
  have cf := hB2.2.1 n
  obtain ⟨hc2a, hc2b⟩ := hc2
  unfold maxLen at hc2b
  clear pf hb2 hB2 hg2 b1 zt
  have hwr : IntKind.i64.wrap ((n : Int) + 1) = (n : Int) + 1 := by rw [IntKind.wrap_i64]; omega
  go_wp2_with fail
  have hs2 := b2.size
  have L3 := PreV.new (w2.setCell ⟨g, n, none⟩ (.int .i64 1)) six (aH x) (aL x) ((n : Int) + 1) 63
  have P3 := (HP.out.far (p := ⟨g, n, none⟩) (by show w.heap.size ≠ g; clear hwr; omega) (.int .i64 1)).alloc (.cells #[.bool six, .int .u64 (aH x), .int .u64 (aL x), .int .i64 ((n : Int) + 1)] 63)
  have R3 := (HR.out.far (p := ⟨g, n, none⟩) (by show w.heap.size + 1 ≠ g; clear hwr; omega) (.int .i64 1)).alloc (.cells #[.bool six, .int .u64 (aH x), .int .u64 (aL x), .int .i64 ((n : Int) + 1)] 63)
  have T3 := (HT.out.far (p := ⟨g, n, none⟩) (by show w.heap.size + 1 + 1 ≠ g; clear hwr; omega) (.int .i64 1)).alloc (.cells #[.bool six, .int .u64 (aH x), .int .u64 (aL x), .int .i64 ((n : Int) + 1)] 63)
  have B3 := ((HB.out.set n hn true).congr FH.out).alloc (.cells #[.bool six, .int .u64 (aH x), .int .u64 (aL x), .int .i64 ((n : Int) + 1)] 63)
  have b3 := (b2.setCell (p := ⟨g, n, none⟩) (by show w.heap.size ≤ g; clear hwr; omega) (.int .i64 1)).alloc (by rw [World.size_setCell]; exact hs2) (.cells #[.bool six, .int .u64 (aH x), .int .u64 (aL x), .int .i64 ((n : Int) + 1)] 63)
  simp only [World.size_setCell] at L3
  have hl1 : ¬ w.heap.size + 1 = w2.heap.size := by clear hwr; omega
  have hl2 : ¬ w.heap.size + 1 + 1 = w2.heap.size := by clear hwr; omega
  have hl3 : ¬ w.heap.size + 1 + 1 = w.heap.size := by clear hwr; omega
  clear HP HR HT HB p0 p1 p2 p3 pl c2 cf b2
  rw [show Value.int IntKind.i64 (bI true) = Value.int IntKind.i64 1 from rfl] at B3
  revert L3 P3 R3 T3 B3 b3
  generalize (w2.setCell ⟨g, n, none⟩ (.int .i64 1)).alloc (.cells #[.bool six, .int .u64 (aH x), .int .u64 (aL x), .int .i64 ((n : Int) + 1)] 63) = W3
  generalize w2.heap.size = LB at *
  intro P3 R3 T3 B3 b3 L3
  have HP := Lib.hid P3
  have HR := Lib.hid R3
  have HT := Lib.hid T3
  have HL := Lib.hid L3
  have HB := Lib.hid B3
  obtain ⟨⟨p0, p1, p2, p3, pl⟩, _⟩ := P3
  obtain ⟨⟨l0, l1, l2, l3, ll⟩, _⟩ := L3
  clear R3 T3 B3
  go_region_held3 (fun w' => (w'.cell? ⟨LB, 0, none⟩ = some (.bool six) ∧ w'.cell? ⟨LB, 1, none⟩ = some (.int .u64 (aH x)) ∧ w'.cell? ⟨LB, 2, none⟩ = some (.int .u64 (aL x)) ∧ w'.cell? ⟨LB, 3, none⟩ = some (.int .i64 ((n : Int) + 1))) ∧ w'.cell? ⟨w.heap.size, 3, none⟩ = some (.int .i64 n)) (first | (simp [go_sem, p3, l0, l1, l2, l3]; done) | with_reducible exact ⟨⟨d0, d1, d2, d3⟩, c3⟩ | (simp (disch := first | assumption | (simp; done)) [go_sem, World.cell?_setCell_far, c3, d0, d1, d2, d3]; done))
    ((go_at_call 72; refine (AO.out g cap _ HB.out.drew).mono ?_; rintro e w4 ⟨rfl, hb4⟩; have P4 := HP.out.drew.keep hb4; have L4 := HL.out.drew.keep hb4; have R4 := HR.out.drew.keep hb4; have T4 := HT.out.drew.keep hb4; have b4 := thenBelow b3.drew hb4; clear hb4; have ⟨⟨_, _, _, c3, _⟩, _⟩ := P4; have ⟨⟨d0, d1, d2, d3, _⟩, _⟩ := L4; have ⟨⟨r0, r1, r2, r3, rl⟩, rf⟩ := R4; have f0 := rf 0; have f1 := rf 1; have f2 := rf 2; have f3 := rf 3; have ⟨⟨t0, t1, t2, t3, tl⟩, tf⟩ := T4; have i0 := tf 0; have i1 := tf 1; have i2 := tf 2; have i3 := tf 3))
  clear hwr
  have R7 := (((((R4.store six (aH x) (aL x) ((n : Int) + 1)).far (p := ⟨w.heap.size + 1 + 1, 0, none⟩) (by simp) (.bool six)).far (p := ⟨w.heap.size + 1 + 1, 1, none⟩) (by simp) (.int .u64 (aH Hh))).far (p := ⟨w.heap.size + 1 + 1, 2, none⟩) (by simp) (.int .u64 (aL Hh))).far (p := ⟨w.heap.size + 1 + 1, 3, none⟩) (by simp) (.int .i64 ((n : Int) + 1)))
  have T7 := ((((T4.far (p := ⟨w.heap.size + 1, 0, none⟩) (by simp) (.bool six)).far (p := ⟨w.heap.size + 1, 1, none⟩) (by simp) (.int .u64 (aH x))).far (p := ⟨w.heap.size + 1, 2, none⟩) (by simp) (.int .u64 (aL x))).far (p := ⟨w.heap.size + 1, 3, none⟩) (by simp) (.int .i64 ((n : Int) + 1))).store six (aH Hh) (aL Hh) ((n : Int) + 1)
  have B7 := ((((((((b4.setCell (p := ⟨w.heap.size + 1, 0, none⟩) (by show w.heap.size ≤ w.heap.size + 1; omega) (.bool six)).setCell (p := ⟨w.heap.size + 1, 1, none⟩) (by show w.heap.size ≤ w.heap.size + 1; omega) (.int .u64 (aH x))).setCell (p := ⟨w.heap.size + 1, 2, none⟩) (by show w.heap.size ≤ w.heap.size + 1; omega) (.int .u64 (aL x))).setCell (p := ⟨w.heap.size + 1, 3, none⟩) (by show w.heap.size ≤ w.heap.size + 1; omega) (.int .i64 ((n : Int) + 1))).setCell (p := ⟨w.heap.size + 1 + 1, 0, none⟩) (by show w.heap.size ≤ w.heap.size + 1 + 1; omega) (.bool six)).setCell (p := ⟨w.heap.size + 1 + 1, 1, none⟩) (by show w.heap.size ≤ w.heap.size + 1 + 1; omega) (.int .u64 (aH Hh))).setCell (p := ⟨w.heap.size + 1 + 1, 2, none⟩) (by show w.heap.size ≤ w.heap.size + 1 + 1; omega) (.int .u64 (aL Hh))).setCell (p := ⟨w.heap.size + 1 + 1, 3, none⟩) (by show w.heap.size ≤ w.heap.size + 1 + 1; omega) (.int .i64 ((n : Int) + 1)))
  clear P4 L4 R4 T4 b4 c3 d0 d1 d2 d3 r0 r1 r2 r3 rl rf f0 f1 f2 f3 t0 t1 t2 t3 tl tf i0 i1 i2 i3 p0 p1 p2 p3 pl l0 l1 l2 l3 ll HB HP HR HT HL b3
  revert R7 T7 B7
  generalize ((((((((w4.setCell ⟨w.heap.size + 1, 0, none⟩ (.bool six)).setCell ⟨w.heap.size + 1, 1, none⟩ (.int .u64 (aH x))).setCell ⟨w.heap.size + 1, 2, none⟩ (.int .u64 (aL x))).setCell ⟨w.heap.size + 1, 3, none⟩ (.int .i64 ((n : Int) + 1))).setCell ⟨w.heap.size + 1 + 1, 0, none⟩ (.bool six)).setCell ⟨w.heap.size + 1 + 1, 1, none⟩ (.int .u64 (aH Hh))).setCell ⟨w.heap.size + 1 + 1, 2, none⟩ (.int .u64 (aL Hh))).setCell ⟨w.heap.size + 1 + 1, 3, none⟩ (.int .i64 ((n : Int) + 1))) = W7
  intro R7 T7 B7
  obtain ⟨⟨k0, k1, k2, k3, _⟩, _⟩ := R7
  obtain ⟨⟨j0, j1, j2, j3, _⟩, _⟩ := T7
  go_wp2
  try simp only [Exit.inBlock, Exit.then]
  exact bodyPost_ret (v := .tuple #[.agg #[.bool six, .int .u64 (aH x), .int .u64 (aL x), .int .i64 ((n : Int) + 1)], .agg #[.bool six, .int .u64 (aH Hh), .int .u64 (aL Hh), .int .i64 ((n : Int) + 1)], .int .i64 0]) (by simp [results, Try.results51, go_sem, k0, k1, k2, k3, j0, j1, j2, j3]) rfl ⟨rfl, B7⟩
theorem halves_ok' (six : Bool) (x n Hh : Nat) (hx : x < 2 ^ 128) (hn : n < wideN six) (hc : chkE six x n = 0) (hl : lowN x (wideN six - n) = x) (hH : lowN (topN x (wideN six - n)) (wideN six - (n + 1)) = Hh) (w : World) :
    Calls Try.prog 46 #[.agg #[.bool six, .int .u64 (aH x), .int .u64 (aL x), .int .i64 n]] w fun e w' => e = .returned (.tuple #[.agg #[.bool six, .int .u64 (aH x), .int .u64 (aL x), .int .i64 ((n : Int) + 1)], .agg #[.bool six, .int .u64 (aH Hh), .int .u64 (aL Hh), .int .i64 ((n : Int) + 1)], .int .i64 0]) ∧ Below w.heap.size w w' := by
  have := halves_ok six x n hn hx hc w
  have e : lowN x (wideN six - (n + 1)) = x := by
    conv => rhs; rw [← hl]
    conv => lhs; rw [← hl]
    refine Nat.eq_of_testBit_eq fun i => ?_
    rw [lowN_testBit, lowN_testBit]
    by_cases hk : wideN six - n ≤ i
    · rw [decide_eq_true hk, decide_eq_true (show wideN six - (n + 1) ≤ i by omega)]; simp
    · simp [hk]
  rw [e, hH] at this
  exact this
end Go.Proofs.Ytgajepmnklbmpaa
