/-
  Laid together: PreE, PreF.
-/
import Derived.Test.YtgajepmnklbmpaaG4
import Derived.Test.YtgajepmnklbmpaaPreA2
import Derived.Test.YtgajepmnklbmpaaPreCut
/-
  Contracts of pre.Span.
-/
namespace Go.Proofs.Ytgajepmnklbmpaa
open Go.RowKit
set_option linter.unusedVariables false
set_option linter.unusedSimpArgs false

end Go.Proofs.Ytgajepmnklbmpaa
/-
  Contracts of pre.Halves.
-/
namespace Go.Proofs.Ytgajepmnklbmpaa
open Go.RowKit
set_option linter.unusedVariables false
set_option linter.unusedSimpArgs false

theorem topN_lt128 (six : Bool) (x n : Nat) (hx : x < 2 ^ 128) : topN x (wideN six - n) < 2 ^ 128 := topN_lt x _ 128 hx (by have := wideN_le six; omega)
theorem lowN_lt128 (x k : Nat) (hx : x < 2 ^ 128) : lowN x k < 2 ^ 128 := lowN_lt x k 128 hx
/-- pre.end, the world above alone. -/
theorem pend_b (six : Bool) (x n : Nat) (hx : x < 2 ^ 128) (hn : n ≤ wideN six) (w : World) :
    Calls Try.prog 63 #[.agg #[.bool six, .int .u64 (aH x), .int .u64 (aL x)], .int .i64 n] w fun e w' => e = .returned (.agg #[.bool six, .int .u64 (aH (topN x (wideN six - n))), .int .u64 (aL (topN x (wideN six - n)))]) ∧ Below w.heap.size w w' :=
  (pend_calls six x n hx hn w).mono fun e w' ⟨he, hw⟩ => ⟨he, by subst hw; go_grown⟩

set_option maxHeartbeats 400000 in
theorem halves_err (six : Bool) (x : Nat) (n e0 : Int) (hx : x < 2 ^ 128) (hc : chkE six x n = e0) (he : (e0 == 0) = false) (w : World) :
    Calls Try.prog 46 #[.agg #[.bool six, .int .u64 (aH x), .int .u64 (aL x), .int .i64 n]] w fun e w' => e = .returned (.tuple #[.agg #[.bool false, .int .u64 0, .int .u64 0, .int .i64 0], .agg #[.bool false, .int .u64 0, .int .u64 0, .int .i64 0], .int .i64 e0]) ∧ Below w.heap.size w w' := by
  have C := Lib.hid hc
  clear hc
  go_enter Try.func46, Try.ntmps46
  go_wp2_with fail
  refine (check_calls six x n hx _).mono ?_
  rw [C.out]
  rintro e w1 ⟨rfl, hb1⟩
  have b1 := thenBelow ((((Below.refl _ w).alloc (Nat.le_refl _) _).alloc (by simp) _).alloc (by simp; omega) _) hb1
  have P := (((PreV.new w six (aH x) (aL x) n 63).alloc _).alloc _).keep hb1
  have R := ((PreV.new (w.alloc (.cells #[.bool six, .int .u64 (aH x), .int .u64 (aL x), .int .i64 n] 63)) false 0 0 0 63).alloc _).keep hb1
  have T := (PreV.new ((w.alloc (.cells #[.bool six, .int .u64 (aH x), .int .u64 (aL x), .int .i64 n] 63)).alloc (.cells #[.bool false, .int .u64 0, .int .u64 0, .int .i64 0] 63)) false 0 0 0 63).keep hb1
  simp only [World.size_alloc] at P R T
  have HP := Lib.hid P
  have HR := Lib.hid R
  have HT := Lib.hid T
  obtain ⟨⟨p0, p1, p2, p3, pl⟩, pf⟩ := P
  obtain ⟨⟨r0, r1, r2, r3, rl⟩, rf⟩ := R
  obtain ⟨⟨t0, t1, t2, t3, tl⟩, tf⟩ := T
  have f0 := rf 0; have f1 := rf 1; have f2 := rf 2; have f3 := rf 3
  have g0 := tf 0; have g1 := tf 1; have g2 := tf 2; have g3 := tf 3
  clear hb1 rf tf pf
  go_wp2
  try simp only [Exit.inBlock, Exit.then]
  refine bodyPost_ret (v := .tuple #[.agg #[.bool false, .int .u64 0, .int .u64 0, .int .i64 0], .agg #[.bool false, .int .u64 0, .int .u64 0, .int .i64 0], .int .i64 e0]) (by simp [results, Try.results46, go_sem, r0, r1, r2, r3, t0, t1, t2, t3]) rfl ?_
  exact ⟨rfl, (((((((b1.setCell (by simp) _).setCell (by simp) _).setCell (by simp) _).setCell (by simp) _).setCell (by simp; omega) _).setCell (by simp; omega) _).setCell (by simp; omega) _).setCell (by simp; omega) _⟩
set_option maxHeartbeats 400000 in
theorem halves_none (six : Bool) (x : Nat) (n : Int) (hn : n = (wideN six : Nat)) (hx : x < 2 ^ 128) (hc : chkE six x n = 0) (w : World) :
    Calls Try.prog 46 #[.agg #[.bool six, .int .u64 (aH x), .int .u64 (aL x), .int .i64 n]] w fun e w' => e = .returned (.tuple #[.agg #[.bool false, .int .u64 0, .int .u64 0, .int .i64 0], .agg #[.bool false, .int .u64 0, .int .u64 0, .int .i64 0], .int .i64 7]) ∧ Below w.heap.size w w' := by
  subst hn
  obtain ⟨n, hn⟩ : ∃ n : Int, ((wideN six : Nat) : Int) = n := ⟨_, rfl⟩
  have HN := Lib.hid hn
  rw [hn] at hc ⊢
  clear hn
  have C := Lib.hid hc
  clear hc
  go_enter Try.func46, Try.ntmps46
  go_wp2_with fail
  refine (check_calls six x n hx _).mono ?_
  rw [C.out]
  rintro e w1 ⟨rfl, hb1⟩
  have b1 := thenBelow ((((Below.refl _ w).alloc (Nat.le_refl _) _).alloc (by simp) _).alloc (by simp; omega) _) hb1
  have P := (((PreV.new w six (aH x) (aL x) n 63).alloc _).alloc _).keep hb1
  have R := ((PreV.new (w.alloc (.cells #[.bool six, .int .u64 (aH x), .int .u64 (aL x), .int .i64 n] 63)) false 0 0 0 63).alloc _).keep hb1
  have T := (PreV.new ((w.alloc (.cells #[.bool six, .int .u64 (aH x), .int .u64 (aL x), .int .i64 n] 63)).alloc (.cells #[.bool false, .int .u64 0, .int .u64 0, .int .i64 0] 63)) false 0 0 0 63).keep hb1
  simp only [World.size_alloc] at P R T
  have HP := Lib.hid P
  have HR := Lib.hid R
  have HT := Lib.hid T
  obtain ⟨⟨p0, p1, p2, p3, pl⟩, pf⟩ := P
  obtain ⟨⟨r0, r1, r2, r3, rl⟩, rf⟩ := R
  obtain ⟨⟨t0, t1, t2, t3, tl⟩, tf⟩ := T
  have f0 := rf 0; have f1 := rf 1; have f2 := rf 2; have f3 := rf 3
  have g0 := tf 0; have g1 := tf 1; have g2 := tf 2; have g3 := tf 3
  clear hb1 rf tf pf
  go_wp2_with fail
  go_region_held3 (fun w' => w'.cell? ⟨w.heap.size, 0, none⟩ = some (.bool six) ∧ w'.cell? ⟨w.heap.size, 1, none⟩ = some (.int .u64 (aH x)) ∧ w'.cell? ⟨w.heap.size, 2, none⟩ = some (.int .u64 (aL x)) ∧ w'.cell? ⟨w.heap.size, 3, none⟩ = some (.int .i64 n)) (simp (disch := first | assumption | (simp; done) | (simp; omega)) [go_sem, World.cell?_alloc_past, World.cell?_setCell_far, p0, p1, p2, p3])
      ((go_at_call 61; refine (pwidth_calls six _ _ _).mono ?_; rintro e w' ⟨rfl, rfl⟩; rw [HN.out]))
  have hs := b1.size
  have R2 := ((HR.out.alloc (.cells #[.bool six, .int .u64 (aH x), .int .u64 (aL x)] 61)).drew)
  have T2 := ((HT.out.alloc (.cells #[.bool six, .int .u64 (aH x), .int .u64 (aL x)] 61)).drew)
  have B2 := (b1.alloc (by omega) (.cells #[.bool six, .int .u64 (aH x), .int .u64 (aL x)] 61)).drew
  rename_i K hK hH
  clear hH HR HT HP p0 p1 p2 p3 pl r0 r1 r2 r3 rl t0 t1 t2 t3 tl f0 f1 f2 f3 g0 g1 g2 g3
  revert R2 T2 B2
  generalize World.drew _ = W
  intro R2 T2 B2
  obtain ⟨⟨r0, r1, r2, r3, rl⟩, rf⟩ := R2
  obtain ⟨⟨t0, t1, t2, t3, tl⟩, tf⟩ := T2
  have f0 := rf 0; have f1 := rf 1; have f2 := rf 2; have f3 := rf 3
  have g0 := tf 0; have g1 := tf 1; have g2 := tf 2; have g3 := tf 3
  clear rf tf
  go_wp2
  try simp only [Exit.inBlock, Exit.then]
  refine bodyPost_ret (v := .tuple #[.agg #[.bool false, .int .u64 0, .int .u64 0, .int .i64 0], .agg #[.bool false, .int .u64 0, .int .u64 0, .int .i64 0], .int .i64 7]) (by simp [results, Try.results46, go_sem, r0, r1, r2, r3, t0, t1, t2, t3]) rfl ?_
  exact ⟨rfl, (((((((B2.setCell (by simp) _).setCell (by simp) _).setCell (by simp) _).setCell (by simp) _).setCell (by simp; omega) _).setCell (by simp; omega) _).setCell (by simp; omega) _).setCell (by simp; omega) _⟩
/-- pre.cut at one more bit. -/
theorem cut_s (six : Bool) (x n : Nat) (hx : x < 2 ^ 128) (hn : n < wideN six) (w : World) :
    Calls Try.prog 62 #[.agg #[.bool six, .int .u64 (aH x), .int .u64 (aL x)], .int .i64 ((n : Int) + 1)] w fun e w' => e = .returned (.agg #[.bool six, .int .u64 (aH (lowN x (wideN six - (n + 1)))), .int .u64 (aL (lowN x (wideN six - (n + 1)))), .int .i64 ((n : Int) + 1)]) ∧ Below w.heap.size w w' :=
  pcut_calls six x (n + 1) hx hn w

set_option maxHeartbeats 1000000 in
theorem halves_ok (six : Bool) (x n : Nat) (hn : n < wideN six) (hx : x < 2 ^ 128) (hc : chkE six x n = 0) (w : World) :
    Calls Try.prog 46 #[.agg #[.bool six, .int .u64 (aH x), .int .u64 (aL x), .int .i64 n]] w fun e w' => e = .returned (.tuple #[.agg #[.bool six, .int .u64 (aH (lowN x (wideN six - (n + 1)))), .int .u64 (aL (lowN x (wideN six - (n + 1)))), .int .i64 ((n : Int) + 1)], .agg #[.bool six, .int .u64 (aH (lowN (topN x (wideN six - n)) (wideN six - (n + 1)))), .int .u64 (aL (lowN (topN x (wideN six - n)) (wideN six - (n + 1)))), .int .i64 ((n : Int) + 1)], .int .i64 0]) ∧ Below w.heap.size w w' := by
  have hw128 := wideN_le six
  have hne : ((n : Int) == ((wideN six : Nat) : Int)) = false := by simp; omega
  have ht := topN_lt128 six x n hx
  have C := Lib.hid hc
  clear hc
  go_enter Try.func46, Try.ntmps46
  go_wp2_with fail
  refine (check_calls six x n hx _).mono ?_
  rw [C.out]
  rintro e w1 ⟨rfl, hb1⟩
  have b1 := thenBelow ((((Below.refl _ w).alloc (Nat.le_refl _) _).alloc (by simp) _).alloc (by simp; omega) _) hb1
  have P := (((PreV.new w six (aH x) (aL x) n 63).alloc _).alloc _).keep hb1
  have R := ((PreV.new (w.alloc (.cells #[.bool six, .int .u64 (aH x), .int .u64 (aL x), .int .i64 n] 63)) false 0 0 0 63).alloc _).keep hb1
  have T := (PreV.new ((w.alloc (.cells #[.bool six, .int .u64 (aH x), .int .u64 (aL x), .int .i64 n] 63)).alloc (.cells #[.bool false, .int .u64 0, .int .u64 0, .int .i64 0] 63)) false 0 0 0 63).keep hb1
  simp only [World.size_alloc] at P R T
  have HP := Lib.hid P
  have HR := Lib.hid R
  have HT := Lib.hid T
  obtain ⟨⟨p0, p1, p2, p3, pl⟩, pf⟩ := P
  obtain ⟨⟨r0, r1, r2, r3, rl⟩, rf⟩ := R
  obtain ⟨⟨t0, t1, t2, t3, tl⟩, tf⟩ := T
  have f0 := rf 0; have f1 := rf 1; have f2 := rf 2; have f3 := rf 3
  have g0 := tf 0; have g1 := tf 1; have g2 := tf 2; have g3 := tf 3
  clear hb1 rf tf pf
  go_wp2_with fail
  go_region_held3 (fun w' => w'.cell? ⟨w.heap.size, 0, none⟩ = some (.bool six) ∧ w'.cell? ⟨w.heap.size, 1, none⟩ = some (.int .u64 (aH x)) ∧ w'.cell? ⟨w.heap.size, 2, none⟩ = some (.int .u64 (aL x)) ∧ w'.cell? ⟨w.heap.size, 3, none⟩ = some (.int .i64 n)) (simp (disch := first | assumption | (simp; done) | (simp; omega)) [go_sem, World.cell?_alloc_past, World.cell?_setCell_far, p0, p1, p2, p3])
      ((go_at_call 61; refine (pwidth_calls six _ _ _).mono ?_; rintro e w' ⟨rfl, rfl⟩))
  have hs := b1.size
  go_wp2_with fail
  refine (cut_s six x n hx hn _).mono ?_
  rintro e w2 ⟨rfl, hb2⟩
  have P2 := ((HP.out.alloc _).drew).keep hb2
  have R2 := ((HR.out.alloc _).drew).keep hb2
  have T2 := ((HT.out.alloc _).drew).keep hb2
  have B2 := thenBelow (b1.alloc (by omega) _).drew hb2
  clear hb2 HR HT HP p0 p1 p2 p3 pl r0 r1 r2 r3 rl t0 t1 t2 t3 tl f0 f1 f2 f3 g0 g1 g2 g3
  have HP := Lib.hid P2
  have HR := Lib.hid R2
  have HT := Lib.hid T2
  obtain ⟨⟨p0, p1, p2, p3, pl⟩, pf⟩ := P2
  obtain ⟨⟨r0, r1, r2, r3, rl⟩, rf⟩ := R2
  have f0 := rf 0; have f1 := rf 1; have f2 := rf 2; have f3 := rf 3
  clear rf pf T2
  go_wp2_with fail
  have P3 := ((((HP.out.far (p := ⟨w.heap.size + 1, 0, none⟩) (by simp) (.bool six)).far (p := ⟨w.heap.size + 1, 1, none⟩) (by simp) (.int .u64 (aH (lowN x (wideN six - (n + 1)))))).far (p := ⟨w.heap.size + 1, 2, none⟩) (by simp) (.int .u64 (aL (lowN x (wideN six - (n + 1)))))).far (p := ⟨w.heap.size + 1, 3, none⟩) (by simp) (.int .i64 ((n : Int) + 1)))
  have R3 := HR.out.store six (aH (lowN x (wideN six - (n + 1)))) (aL (lowN x (wideN six - (n + 1)))) ((n : Int) + 1)
  have T3 := ((((HT.out.far (p := ⟨w.heap.size + 1, 0, none⟩) (by simp) (.bool six)).far (p := ⟨w.heap.size + 1, 1, none⟩) (by simp) (.int .u64 (aH (lowN x (wideN six - (n + 1)))))).far (p := ⟨w.heap.size + 1, 2, none⟩) (by simp) (.int .u64 (aL (lowN x (wideN six - (n + 1)))))).far (p := ⟨w.heap.size + 1, 3, none⟩) (by simp) (.int .i64 ((n : Int) + 1)))
  have B3 := ((((B2.setCell (p := ⟨w.heap.size + 1, 0, none⟩) (by show w.heap.size ≤ w.heap.size + 1; omega) (.bool six)).setCell (p := ⟨w.heap.size + 1, 1, none⟩) (by show w.heap.size ≤ w.heap.size + 1; omega) (.int .u64 (aH (lowN x (wideN six - (n + 1)))))).setCell (p := ⟨w.heap.size + 1, 2, none⟩) (by show w.heap.size ≤ w.heap.size + 1; omega) (.int .u64 (aL (lowN x (wideN six - (n + 1)))))).setCell (p := ⟨w.heap.size + 1, 3, none⟩) (by show w.heap.size ≤ w.heap.size + 1; omega) (.int .i64 ((n : Int) + 1)))
  clear HR HT HP p0 p1 p2 p3 pl r0 r1 r2 r3 rl f0 f1 f2 f3 B2
  revert P3 R3 T3 B3
  generalize ((((w2.setCell ⟨w.heap.size + 1, 0, none⟩ (.bool six)).setCell ⟨w.heap.size + 1, 1, none⟩ (.int .u64 (aH (lowN x (wideN six - (n + 1)))))).setCell ⟨w.heap.size + 1, 2, none⟩ (.int .u64 (aL (lowN x (wideN six - (n + 1)))))).setCell ⟨w.heap.size + 1, 3, none⟩ (.int .i64 ((n : Int) + 1))) = W
  intro P3 R3 T3 B3
  have HP := Lib.hid P3
  have HR := Lib.hid R3
  have HT := Lib.hid T3
  obtain ⟨⟨p0, p1, p2, p3, pl⟩, pf⟩ := P3
  clear R3 T3 pf
  have hwr : IntKind.i64.wrap ((n : Int) + 1) = (n : Int) + 1 := by rw [IntKind.wrap_i64]; omega
  go_region_held3 (fun w' => w'.cell? ⟨w.heap.size, 0, none⟩ = some (.bool six) ∧ w'.cell? ⟨w.heap.size, 1, none⟩ = some (.int .u64 (aH x)) ∧ w'.cell? ⟨w.heap.size, 2, none⟩ = some (.int .u64 (aL x)) ∧ w'.cell? ⟨w.heap.size, 3, none⟩ = some (.int .i64 n)) (first | (simp (disch := first | assumption | (simp; done) | (simp; omega)) [go_sem, World.cell?_alloc_past, World.cell?_setCell_far, p0, p1, p2, p3]; done) | exact ⟨P5.1.1, P5.1.2.1, P5.1.2.2.1, P5.1.2.2.2.1⟩ | exact ⟨P4.1.1, P4.1.2.1, P4.1.2.2.1, P4.1.2.2.2.1⟩ | (simp (disch := first | assumption | (simp; done) | (simp; omega)) [go_sem, World.cell?_alloc_past, World.cell?_setCell_far, P5.1.1, P5.1.2.1, P5.1.2.2.1, P5.1.2.2.2.1]; done))
    (first
      | (go_at_call 63; refine (pend_b six x n hx (by omega) _).mono ?_; rintro e w4 ⟨rfl, hb4⟩; have P4 := HP.out.drew.keep hb4; have R4 := HR.out.drew.keep hb4; have T4 := HT.out.drew.keep hb4; have b4 := thenBelow B3.drew hb4; clear hb4)
      | (go_at_call 62; refine (cut_s six (topN x (wideN six - n)) n ht hn _).mono ?_; rintro e w5 ⟨rfl, hb5⟩; have P5 := P4.keep hb5; have R5 := R4.keep hb5; have T5 := T4.keep hb5; have b5 := thenBelow b4 hb5; clear hb5; obtain ⟨⟨t0, t1, t2, t3, tl⟩, tf⟩ := T5; have g0 := tf 0; have g1 := tf 1; have g2 := tf 2; have g3 := tf 3))
  have R6 := ((((R5.far (p := ⟨w.heap.size + 1 + 1, 0, none⟩) (by simp) (.bool six)).far (p := ⟨w.heap.size + 1 + 1, 1, none⟩) (by simp) (.int .u64 (aH (lowN (topN x (wideN six - n)) (wideN six - (n + 1)))))).far (p := ⟨w.heap.size + 1 + 1, 2, none⟩) (by simp) (.int .u64 (aL (lowN (topN x (wideN six - n)) (wideN six - (n + 1)))))).far (p := ⟨w.heap.size + 1 + 1, 3, none⟩) (by simp) (.int .i64 ((n : Int) + 1)))
  have T6 := (show PreV w5 (w.heap.size + 1 + 1) false 0 0 0 from ⟨⟨t0, t1, t2, t3, tl⟩, tf⟩).store six (aH (lowN (topN x (wideN six - n)) (wideN six - (n + 1)))) (aL (lowN (topN x (wideN six - n)) (wideN six - (n + 1)))) ((n : Int) + 1)
  have B6 := ((((b5.setCell (p := ⟨w.heap.size + 1 + 1, 0, none⟩) (by show w.heap.size ≤ w.heap.size + 1 + 1; omega) (.bool six)).setCell (p := ⟨w.heap.size + 1 + 1, 1, none⟩) (by show w.heap.size ≤ w.heap.size + 1 + 1; omega) (.int .u64 (aH (lowN (topN x (wideN six - n)) (wideN six - (n + 1)))))).setCell (p := ⟨w.heap.size + 1 + 1, 2, none⟩) (by show w.heap.size ≤ w.heap.size + 1 + 1; omega) (.int .u64 (aL (lowN (topN x (wideN six - n)) (wideN six - (n + 1)))))).setCell (p := ⟨w.heap.size + 1 + 1, 3, none⟩) (by show w.heap.size ≤ w.heap.size + 1 + 1; omega) (.int .i64 ((n : Int) + 1)))
  clear HP HR HT p0 p1 p2 p3 pl P4 R4 T4 b4 P5 R5 t0 t1 t2 t3 tl tf g0 g1 g2 g3 B3
  revert R6 T6 B6
  generalize ((((w5.setCell ⟨w.heap.size + 1 + 1, 0, none⟩ (.bool six)).setCell ⟨w.heap.size + 1 + 1, 1, none⟩ (.int .u64 (aH (lowN (topN x (wideN six - n)) (wideN six - (n + 1)))))).setCell ⟨w.heap.size + 1 + 1, 2, none⟩ (.int .u64 (aL (lowN (topN x (wideN six - n)) (wideN six - (n + 1)))))).setCell ⟨w.heap.size + 1 + 1, 3, none⟩ (.int .i64 ((n : Int) + 1))) = W6
  intro R6 T6 B6
  have HR := Lib.hid R6
  have HT := Lib.hid T6
  obtain ⟨⟨r0, r1, r2, r3, rl⟩, rf⟩ := R6
  obtain ⟨⟨t0, t1, t2, t3, tl⟩, tf⟩ := T6
  have f0 := rf 0; have f1 := rf 1; have f2 := rf 2; have f3 := rf 3
  have g0 := tf 0; have g1 := tf 1; have g2 := tf 2; have g3 := tf 3
  clear rf tf
  go_wp2_with fail
  go_region
  rename_i K hK
  refine hK _ _ (wp_ret ?_)
  have R7 := (((((HR.out.store six (aH (lowN x (wideN six - (n + 1)))) (aL (lowN x (wideN six - (n + 1)))) ((n : Int) + 1)).far (p := ⟨w.heap.size + 1 + 1, 0, none⟩) (by simp) (.bool six)).far (p := ⟨w.heap.size + 1 + 1, 1, none⟩) (by simp) (.int .u64 (aH (lowN (topN x (wideN six - n)) (wideN six - (n + 1)))))).far (p := ⟨w.heap.size + 1 + 1, 2, none⟩) (by simp) (.int .u64 (aL (lowN (topN x (wideN six - n)) (wideN six - (n + 1)))))).far (p := ⟨w.heap.size + 1 + 1, 3, none⟩) (by simp) (.int .i64 ((n : Int) + 1))).drew
  have T7 := (((((HT.out.far (p := ⟨w.heap.size + 1, 0, none⟩) (by simp) (.bool six)).far (p := ⟨w.heap.size + 1, 1, none⟩) (by simp) (.int .u64 (aH (lowN x (wideN six - (n + 1)))))).far (p := ⟨w.heap.size + 1, 2, none⟩) (by simp) (.int .u64 (aL (lowN x (wideN six - (n + 1)))))).far (p := ⟨w.heap.size + 1, 3, none⟩) (by simp) (.int .i64 ((n : Int) + 1))).store six (aH (lowN (topN x (wideN six - n)) (wideN six - (n + 1)))) (aL (lowN (topN x (wideN six - n)) (wideN six - (n + 1)))) ((n : Int) + 1)).drew
  have B7 := ((((((((B6.setCell (p := ⟨w.heap.size + 1, 0, none⟩) (by show w.heap.size ≤ w.heap.size + 1; omega) (.bool six)).setCell (p := ⟨w.heap.size + 1, 1, none⟩) (by show w.heap.size ≤ w.heap.size + 1; omega) (.int .u64 (aH (lowN x (wideN six - (n + 1)))))).setCell (p := ⟨w.heap.size + 1, 2, none⟩) (by show w.heap.size ≤ w.heap.size + 1; omega) (.int .u64 (aL (lowN x (wideN six - (n + 1)))))).setCell (p := ⟨w.heap.size + 1, 3, none⟩) (by show w.heap.size ≤ w.heap.size + 1; omega) (.int .i64 ((n : Int) + 1))).setCell (p := ⟨w.heap.size + 1 + 1, 0, none⟩) (by show w.heap.size ≤ w.heap.size + 1 + 1; omega) (.bool six)).setCell (p := ⟨w.heap.size + 1 + 1, 1, none⟩) (by show w.heap.size ≤ w.heap.size + 1 + 1; omega) (.int .u64 (aH (lowN (topN x (wideN six - n)) (wideN six - (n + 1)))))).setCell (p := ⟨w.heap.size + 1 + 1, 2, none⟩) (by show w.heap.size ≤ w.heap.size + 1 + 1; omega) (.int .u64 (aL (lowN (topN x (wideN six - n)) (wideN six - (n + 1)))))).setCell (p := ⟨w.heap.size + 1 + 1, 3, none⟩) (by show w.heap.size ≤ w.heap.size + 1 + 1; omega) (.int .i64 ((n : Int) + 1))).drew
  clear HR HT r0 r1 r2 r3 rl t0 t1 t2 t3 tl f0 f1 f2 f3 g0 g1 g2 g3
  revert R7 T7 B7
  generalize World.drew _ = W7
  intro R7 T7 B7
  obtain ⟨⟨k0, k1, k2, k3, _⟩, _⟩ := R7
  obtain ⟨⟨l0, l1, l2, l3, _⟩, _⟩ := T7
  refine bodyPost_ret (v := .tuple #[.agg #[.bool six, .int .u64 (aH (lowN x (wideN six - (n + 1)))), .int .u64 (aL (lowN x (wideN six - (n + 1)))), .int .i64 ((n : Int) + 1)], .agg #[.bool six, .int .u64 (aH (lowN (topN x (wideN six - n)) (wideN six - (n + 1)))), .int .u64 (aL (lowN (topN x (wideN six - n)) (wideN six - (n + 1)))), .int .i64 ((n : Int) + 1)], .int .i64 0]) (by simp [results, Try.results46, go_sem, k0, k1, k2, k3, l0, l1, l2, l3]) rfl ⟨rfl, B7⟩
end Go.Proofs.Ytgajepmnklbmpaa
