/-
  whipcordkeep.plainList of a list whose neighbours are told.
-/
import Derived.Test.YtnpcofaonimpcaaDoorKeepG
namespace Go.Proofs.YtnpcofaonimpcaaDoor
open Go.RowKit
set_option linter.unusedVariables false
set_option linter.unusedSimpArgs false

/-- What pre.Span and pre.Common answer of neighbours. -/
abbrev SpanTo (six : Bool) (x : Nat) (n : Int) (X : Nat) : Prop := ∀ w : World, Calls Tryd.prog 13 #[.agg #[.bool six, .int .u64 (aH x), .int .u64 (aL x), .int .i64 n]] w fun e w' => e = .returned (.tuple #[.agg #[.bool six, .int .u64 (aH x), .int .u64 (aL x)], .agg #[.bool six, .int .u64 (aH X), .int .u64 (aL X)], .int .i64 0]) ∧ Below w.heap.size w w'
abbrev CommonTo (six : Bool) (x : Nat) (n : Int) (y : Nat) (m : Int) (z : Nat) (c : Int) : Prop := ∀ w : World, Calls Tryd.prog 28 #[.agg #[.bool six, .int .u64 (aH x), .int .u64 (aL x), .int .i64 n], .agg #[.bool six, .int .u64 (aH y), .int .u64 (aL y), .int .i64 m]] w fun e w' => e = .returned (.tuple #[.agg #[.bool six, .int .u64 (aH z), .int .u64 (aL z), .int .i64 c], .int .i64 0]) ∧ Below w.heap.size w w'
def NeatC (six : Bool) (l : List PT) : Prop := ∀ i (h : i + 1 < l.length), ∃ (x X y Y z : Nat) (n1 n2 c : Int), l[i] = (six, x, n1) ∧ l[i + 1] = (six, y, n2) ∧ SpanTo six x n1 X ∧ SpanTo six y n2 Y ∧ CommonTo six x n1 y n2 z c ∧ X < y ∧ 0 ≤ n2 ∧ n2 ≤ 128 ∧ (n1 = n2 → ¬ c = n2 - 1)
theorem Neat.told {six : Bool} {l : List PT} (h : Neat six l) : NeatC six l := by
  intro i hi
  obtain ⟨x, k, y, m, e1, e2, ax, ay, hxy, hs⟩ := h i hi
  obtain ⟨z, c, hc, hC⟩ := common_al ax ay
  have hw : wideN six ≤ 128 := by cases six <;> decide
  refine ⟨x, _, y, _, z, _, _, _, e1, e2, span_al ax, span_al ay, hC, by have := pow_one k; omega, by omega, by omega, fun e => hs (by have := ax.1; have := ay.1; omega) c hc⟩
set_option maxHeartbeats 8000000 in
set_option maxRecDepth 100000 in
theorem plain_calls (six : Bool) (l : List PT) (key : NeatC six l) (hlen : l.length ≤ 1000000000) (v : Value) (w : World) (hr : RowP w v l) :
    Calls Tryd.prog 11 #[v] w fun e w' => e = .returned (.bool true) ∧ Below w.heap.size w w' := by
  obtain ⟨p, c, rfl, hc⟩ := hr.at
  have HC := Lib.hid hc
  have KEY := Lib.hid key
  clear hc key hr
  go_enter Tryd.func11, Tryd.ntmps11
  go_wp2
  go_loopw [3] (fun i wr => ∃ j : Nat, (j = 0 ∨ j < l.length) ∧ i = .int .i64 ((j : Int) + 1) ∧ Below w.heap.size w wr) (fun i _ => l.length + 1 - (intOf i).toNat)
  case atStart => exact ⟨0, .inl rfl, rfl, Below.refl _ _⟩
  case round =>
    obtain ⟨j, hj, rfl, hnx⟩ := hrel
    have hsz := hnx.size
    by_cases hlt : j + 1 < l.length
    · obtain ⟨g, o, rfl, hg, hP⟩ := HC.out j (by omega)
      obtain ⟨g', o', e', _, hQ⟩ := HC.out (j + 1) hlt
      obtain ⟨rfl, rfl⟩ : g = g' ∧ o = o' := by simp at e'; exact e'
      clear e'
      obtain ⟨x, X, y, Y, z, n1, n2, cc, e1, e2, hS1, hS2, hCM, hxy, hn0, hn9, hsib⟩ := KEY.out j hlt
      rw [e1] at hP
      rw [e2] at hQ
      have hgs : g < wr.heap.size := Nat.lt_of_lt_of_le hg hsz
      have FP := Lib.hid (hP.keep hg hnx)
      have FQ := Lib.hid (hQ.keep hg hnx)
      clear hP hQ e1 e2
      obtain ⟨x0, x1, x2, x3⟩ := FP.out
      obtain ⟨y0, y1, y2, y3⟩ := FQ.out
      simp only at x0 x1 x2 x3 y0 y1 y2 y3
      have hl1 : (j : Int) + 1 < (l.length : Int) := by omega
      have hl0 : (j : Int) < (l.length : Int) := by omega
      have S1 := Lib.hid hS1
      have S2 := Lib.hid hS2
      have CM := Lib.hid hCM
      clear hS1 hS2 hCM
      go_wp2_with fail
      refine (S1.out _).mono ?_
      rintro e w1 ⟨rfl, hb1⟩
      have FP := Lib.hid (FP.out.keep hgs hb1)
      have FQ := Lib.hid (FQ.out.keep hgs hb1)
      have b1 := thenBelow hnx hb1
      have hg1 := Nat.lt_of_lt_of_le hgs hb1.size
      clear x0 x1 x2 x3 y0 y1 y2 y3 hb1 hnx hgs
      obtain ⟨y0, y1, y2, y3⟩ := FQ.out
      simp only at y0 y1 y2 y3
      have hgm := Nat.lt_succ_of_lt hg1
      have hgn := Nat.lt_succ_of_lt hgm
      simp only [Nat.succ_eq_add_one] at hgm hgn
      have bA : Below w1.heap.size w1 ((w1.alloc (.cells #[.bool six, .int .u64 (aH x), .int .u64 (aL x)] 25)).alloc (.cells #[.bool six, .int .u64 (aH X), .int .u64 (aL X)] 25)) := ((Below.refl _ w1).alloc (Nat.le_refl _) _).alloc (by simp) _
      go_wp2_with fail
      refine (S2.out _).mono ?_
      rintro e w2 ⟨rfl, hb2⟩
      have bB : Below w2.heap.size w2 ((w2.alloc (.cells #[.bool six, .int .u64 (aH y), .int .u64 (aL y)] 25)).alloc (.cells #[.bool six, .int .u64 (aH Y), .int .u64 (aL Y)] 25)) := ((Below.refl _ w2).alloc (Nat.le_refl _) _).alloc (by simp) _
      have b12 := thenBelow bA hb2
      have hg2 := Nat.lt_of_lt_of_le hg1 b12.size
      have GP := (FP.out.keep hg1 b12).keep hg2 bB
      have GQ := (FQ.out.keep hg1 b12).keep hg2 bB
      have GL := ((AddrAt.new (w1.alloc (.cells #[.bool six, .int .u64 (aH x), .int .u64 (aL x)] 25)) six (aH X) (aL X) 25).keep hb2).keep bB
      rw [World.size_alloc] at GL
      have GF := (AddrAt.new w2 six (aH y) (aL y) 25).alloc (.cells #[.bool six, .int .u64 (aH Y), .int .u64 (aL Y)] 25)
      have bZ := thenBelow (thenBelow b1 b12) bB
      have hgZ : g < ((w2.alloc (.cells #[.bool six, .int .u64 (aH y), .int .u64 (aL y)] 25)).alloc (.cells #[.bool six, .int .u64 (aH Y), .int .u64 (aL Y)] 25)).heap.size := Nat.lt_of_lt_of_le hg2 bB.size
      clear FP FQ y0 y1 y2 y3 hgm hgn bA hb2 b12 b1 hg1 hg2 bB
      go_wp2_with fail
      revert GP GQ GL GF bZ hgZ
      generalize ((w2.alloc (.cells #[.bool six, .int .u64 (aH y), .int .u64 (aL y)] 25)).alloc (.cells #[.bool six, .int .u64 (aH Y), .int .u64 (aL Y)] 25)) = Z
      intro GP GQ GL GF bZ hgZ
      have FP := Lib.hid GP
      have FQ := Lib.hid GQ
      have FL := Lib.hid GL
      have FF := Lib.hid GF
      have AH := Lib.hid (aheadNum six six X y hxy)
      have SIB := Lib.hid hsib
      clear hsib hxy S1 S2
      obtain ⟨x0, x1, x2, x3⟩ := GP
      obtain ⟨y0, y1, y2, y3⟩ := GQ
      simp only at x0 x1 x2 x3 y0 y1 y2 y3
      clear GL GF
      have hne : ¬ g = Z.heap.size := by omega
      have hj0 : (0 : Int) ≤ (j : Int) := by omega
      have hj1 : (0 : Int) ≤ (j : Int) + 1 := by omega
      have hj2 : ¬ (j : Int) < 0 := by omega
      have hj3 : ¬ (j : Int) + 1 < 0 := by omega
      have htn : ((j : Int) + 1).toNat = j + 1 := by omega
      have hj4 : (j : Int) + 1 - 1 = (j : Int) := by omega
      have hj7 : IntKind.i64.wrap ((j : Int) + 1 - 1) = (j : Int) := by rw [hj4, IntKind.wrap_i64]; omega
      have hj8 : IntKind.i64.wrap ((j : Int)) = (j : Int) := by rw [IntKind.wrap_i64]; omega
      have hj5 : ¬ (l.length : Int) ≤ (j : Int) := by omega
      have hj6 : ¬ (l.length : Int) ≤ (j : Int) + 1 := by omega
      have hne2 : ¬ Z.heap.size = g := by omega
      go_region_held3 (fun w' => w'.cell? ⟨g, o + j * 4, none⟩ = some (.bool six) ∧ w'.cell? ⟨g, o + j * 4 + 1, none⟩ = some (.int .u64 (aH x)) ∧ w'.cell? ⟨g, o + j * 4 + 2, none⟩ = some (.int .u64 (aL x)) ∧ w'.cell? ⟨g, o + j * 4 + 3, none⟩ = some (.int .i64 n1) ∧ w'.cell? ⟨g, o + (j + 1) * 4, none⟩ = some (.bool six) ∧ w'.cell? ⟨g, o + (j + 1) * 4 + 1, none⟩ = some (.int .u64 (aH y)) ∧ w'.cell? ⟨g, o + (j + 1) * 4 + 2, none⟩ = some (.int .u64 (aL y)) ∧ w'.cell? ⟨g, o + (j + 1) * 4 + 3, none⟩ = some (.int .i64 n2))
        (first
          | (simp (disch := first | assumption | (simp; done) | (simp; omega)) [go_sem, World.cell?_alloc_past, World.cell?_setCell_far, x0, x1, x2, x3, y0, y1, y2, y3, hne, hne2]; done)
          | (simp (disch := first | assumption | (simp; done) | (simp; omega)) [go_sem, World.cell?_alloc_past, World.cell?_setCell_far, s0, s1, s2, s3, t0, t1, t2, t3, hne, hne2, hne3, hne4]; done)
          | fail)
        (first
          | (go_at_call 28; refine (CM.out _).mono ?_; rintro e w4 ⟨rfl, hb4⟩; first | (have V4 := (PreV.new Z false 0 0 0 40).drew.keep hb4; have b4 := thenBelow (((Below.refl _ Z).alloc (Nat.le_refl _) _).drew) hb4; obtain ⟨s0, s1, s2, s3⟩ := FP.out.keep hgZ b4; obtain ⟨t0, t1, t2, t3⟩ := FQ.out.keep hgZ b4; simp only at s0 s1 s2 s3 t0 t1 t2 t3; obtain ⟨⟨q0, q1, q2, q3, ql⟩, qf⟩ := V4; have f0 := qf 0; have f1 := qf 1; have f2 := qf 2; have f3 := qf 3; have V4 : Hid (PreV w4 Z.heap.size false 0 0 0) := Lib.hid ⟨⟨q0, q1, q2, q3, ql⟩, qf⟩; clear qf; have hne3 := hne; have hne4 := hne2) | (have b4 := thenBelow (Below.refl _ Z).drew hb4; have h4s := b4.size; obtain ⟨s0, s1, s2, s3⟩ := FP.out.keep hgZ b4; obtain ⟨t0, t1, t2, t3⟩ := FQ.out.keep hgZ b4; simp only at s0 s1 s2 s3 t0 t1 t2 t3; have hne3 : ¬ g = w4.heap.size := (by omega); have hne4 : ¬ w4.heap.size = g := (by omega)))
          | fail)
      all_goals
        first
          | (have Gc := (V4.out.store six (aH z) (aL z) cc).1
             have bm := (((b4.setCell (p := ⟨Z.heap.size, 0, none⟩) (Nat.le_refl _) (.bool six)).setCell (p := ⟨Z.heap.size, 1, none⟩) (Nat.le_refl _) (.int .u64 (aH z))).setCell (p := ⟨Z.heap.size, 2, none⟩) (Nat.le_refl _) (.int .u64 (aL z))).setCell (p := ⟨Z.heap.size, 3, none⟩) (Nat.le_refl _) (.int .i64 cc)
             revert Gc bm
             generalize (((w4.setCell ⟨Z.heap.size, 0, none⟩ (.bool six)).setCell ⟨Z.heap.size, 1, none⟩ (.int .u64 (aH z))).setCell ⟨Z.heap.size, 2, none⟩ (.int .u64 (aL z))).setCell ⟨Z.heap.size, 3, none⟩ (.int .i64 cc) = V
             intro Gc bm
             generalize Z.heap.size = PB at Gc ⊢
             clear V4 q0 q1 q2 q3 ql f0 f1 f2 f3)
          | (have Gc := PreAt.new w4 six (aH z) (aL z) cc 40
             have bm := thenBelow b4 ((Below.refl _ w4).alloc (Nat.le_refl _) (.cells #[.bool six, .int .u64 (aH z), .int .u64 (aL z), .int .i64 cc] 40))
             revert Gc bm
             generalize w4.alloc (.cells #[.bool six, .int .u64 (aH z), .int .u64 (aL z), .int .i64 cc] 40) = V
             intro Gc bm
             generalize w4.heap.size = PB at Gc ⊢)
        have FC := Lib.hid Gc
        have bV := thenBelow bZ bm
        have hgV := Nat.lt_of_lt_of_le hgZ bm.size
        have FP := Lib.hid (FP.out.keep hgZ bm)
        have FQ := Lib.hid (FQ.out.keep hgZ bm)
        have FL := Lib.hid (FL.out.keep bm)
        have FF := Lib.hid (FF.out.keep bm)
        clear Gc bm b4 hb4 x0 x1 x2 x3 y0 y1 y2 y3 s0 s1 s2 s3 t0 t1 t2 t3 hne hne2 hne3 hne4 CM
        obtain ⟨_, _, _, x3⟩ := FP.out
        obtain ⟨_, _, _, y3⟩ := FQ.out
        obtain ⟨_, _, _, k3, _⟩ := preCells FC.out
        obtain ⟨la0, la1, la2, _⟩ := addrCells FL.out
        obtain ⟨fi0, fi1, fi2, _⟩ := addrCells FF.out
        simp only at x3 y3
        by_cases e : n1 = n2
        · have hs := SIB.out e
          subst e
          have hs2 : (cc == n1 - 1) = false := by simpa using hs
          have hwr : IntKind.i64.wrap (n1 - 1) = n1 - 1 := by rw [IntKind.wrap_i64]; omega
          have hs3 : (cc == IntKind.i64.wrap (n1 - 1)) = false := by rw [hwr]; exact hs2
          have hs4 : ¬ cc = IntKind.i64.wrap (n1 - 1) := by rw [hwr]; exact hs
          go_wp2_with fail
          go_region_held3 (fun w' => w'.cell? ⟨g, o + j * 4 + 3, none⟩ = some (.int .i64 n1) ∧ w'.cell? ⟨g, o + (j + 1) * 4 + 3, none⟩ = some (.int .i64 n1) ∧ w'.cell? ⟨PB, 3, none⟩ = some (.int .i64 cc) ∧ w'.cell? ⟨w1.heap.size + 1, 0, none⟩ = some (.bool six) ∧ w'.cell? ⟨w1.heap.size + 1, 1, none⟩ = some (.int .u64 (aH X)) ∧ w'.cell? ⟨w1.heap.size + 1, 2, none⟩ = some (.int .u64 (aL X)) ∧ w'.cell? ⟨w2.heap.size, 0, none⟩ = some (.bool six) ∧ w'.cell? ⟨w2.heap.size, 1, none⟩ = some (.int .u64 (aH y)) ∧ w'.cell? ⟨w2.heap.size, 2, none⟩ = some (.int .u64 (aL y)))
            (first
              | (simp [go_sem, x3, y3, k3, la0, la1, la2, fi0, fi1, fi2]; done)
              | (simp [go_sem, ux3, uy3, uk3, ul0, ul1, ul2, uf0, uf1, uf2]; done)
              | fail)
            (first
              | (go_at_call 29; refine (AH.out _).mono ?_; rintro e w6 ⟨rfl, hb6⟩; have b6 := thenBelow (Below.refl _ V).drew hb6; obtain ⟨_, _, _, ux3⟩ := FP.out.keep hgV b6; obtain ⟨_, _, _, uy3⟩ := FQ.out.keep hgV b6; obtain ⟨_, _, _, uk3, _⟩ := preCells (FC.out.keep b6); obtain ⟨ul0, ul1, ul2, _⟩ := addrCells (FL.out.keep b6); obtain ⟨uf0, uf1, uf2, _⟩ := addrCells (FF.out.keep b6); simp only at ux3 uy3)
              | fail)
          have b7 := thenBelow bV b6
          go_wp2
          go_roundw
          case rel => exact ⟨j + 1, .inr hlt, by go_num, b7⟩
          case measure => simp [intOf]; omega
        · have e2 : (n1 == n2) = false := by simpa using e
          have e3 : decide (n1 = n2) = false := decide_eq_false e
          go_wp2_with fail
          refine wp_region_held_drew (S := fun w' => w'.cell? ⟨g, o + j * 4 + 3, none⟩ = some (.int .i64 n1) ∧ w'.cell? ⟨g, o + (j + 1) * 4 + 3, none⟩ = some (.int .i64 n2) ∧ w'.cell? ⟨PB, 3, none⟩ = some (.int .i64 cc) ∧ w'.cell? ⟨w1.heap.size + 1, 0, none⟩ = some (.bool six) ∧ w'.cell? ⟨w1.heap.size + 1, 1, none⟩ = some (.int .u64 (aH X)) ∧ w'.cell? ⟨w1.heap.size + 1, 2, none⟩ = some (.int .u64 (aL X)) ∧ w'.cell? ⟨w2.heap.size, 0, none⟩ = some (.bool six) ∧ w'.cell? ⟨w2.heap.size, 1, none⟩ = some (.int .u64 (aH y)) ∧ w'.cell? ⟨w2.heap.size, 2, none⟩ = some (.int .u64 (aL y))) (by kernel_rfl) ?_ (fun hHeld => ?_)
          · simp [go_sem, x3, y3, k3, la0, la1, la2, fi0, fi1, fi2]
          refine wpAnyH_take (i := 0) (oi := ?_) (v := ?_) ?_ (by kernel_rfl) (by kernel_rfl) (by kernel_rfl) ?_ ?_ (by assumption) ?_
          rotate_left 2
          · (simp only [List.getElem?_toArray, List.getElem?_cons_succ, List.getElem?_cons_zero]; exact rfl)
          rotate_left 1
          · (refine Or.inl ⟨by rfl, ?_⟩; intro w hSw; (try dsimp only at hSw); go_simp <;> with_reducible rfl)
          rotate_right 1
          · exact fun _ _ _ h => h
          try simp only [Act.put, List.setIfInBounds_toArray, List.set_cons_zero, List.set_cons_succ]
          refine wpAnyH_take (i := 1) (oi := ?_) (v := ?_) ?_ (by kernel_rfl) (by kernel_rfl) (by kernel_rfl) ?_ ?_ (by assumption) ?_
          rotate_left 2
          · (simp only [List.getElem?_toArray, List.getElem?_cons_succ, List.getElem?_cons_zero]; exact rfl)
          rotate_left 1
          · (refine Or.inl ⟨by rfl, ?_⟩; intro w hSw; (try dsimp only at hSw); go_simp <;> with_reducible rfl)
          rotate_right 1
          · exact fun _ _ _ h => h
          try simp only [Act.put, List.setIfInBounds_toArray, List.set_cons_zero, List.set_cons_succ]
          refine wpAnyH_take (i := 2) (oi := ?_) (v := ?_) ?_ (by kernel_rfl) (by kernel_rfl) (by kernel_rfl) ?_ ?_ (by assumption) ?_
          rotate_left 2
          · (simp only [List.getElem?_toArray, List.getElem?_cons_succ, List.getElem?_cons_zero]; exact rfl)
          rotate_left 1
          · (refine Or.inl ⟨by rfl, ?_⟩; intro w hSw; (try dsimp only at hSw); go_simp <;> with_reducible rfl)
          rotate_right 1
          · exact fun _ _ _ h => h
          try simp only [Act.put, List.setIfInBounds_toArray, List.set_cons_zero, List.set_cons_succ]
          refine wpAnyH_take (i := 3) (oi := ?_) (v := ?_) ?_ (by kernel_rfl) (by kernel_rfl) (by kernel_rfl) ?_ ?_ (by assumption) ?_
          rotate_left 2
          · (simp only [List.getElem?_toArray, List.getElem?_cons_succ, List.getElem?_cons_zero]; exact rfl)
          rotate_left 1
          · (refine Or.inl ⟨by rfl, ?_⟩; intro w hSw; (try dsimp only at hSw); go_simp <;> with_reducible rfl)
          rotate_right 1
          · exact fun _ _ _ h => h
          try simp only [Act.put, List.setIfInBounds_toArray, List.set_cons_zero, List.set_cons_succ]
          refine wpAnyH_take (i := 4) (oi := ?_) (v := ?_) ?_ (by kernel_rfl) (by kernel_rfl) (by kernel_rfl) ?_ ?_ (by assumption) ?_
          rotate_left 2
          · (simp only [List.getElem?_toArray, List.getElem?_cons_succ, List.getElem?_cons_zero]; exact rfl)
          rotate_left 1
          · (refine Or.inl ⟨by rfl, ?_⟩; intro w hSw; (try dsimp only at hSw); go_simp <;> with_reducible rfl)
          rotate_right 1
          · exact fun _ _ _ h => h
          try simp only [Act.put, List.setIfInBounds_toArray, List.set_cons_zero, List.set_cons_succ]
          refine wpAnyH_take (i := 5) (oi := ?_) (v := ?_) ?_ (by kernel_rfl) (by kernel_rfl) (by kernel_rfl) ?_ ?_ (by assumption) ?_
          rotate_left 2
          · (simp only [List.getElem?_toArray, List.getElem?_cons_succ, List.getElem?_cons_zero]; exact rfl)
          rotate_left 1
          · (refine Or.inl ⟨by rfl, ?_⟩; intro w hSw; (try dsimp only at hSw); go_simp <;> with_reducible rfl)
          rotate_right 1
          · exact fun _ _ _ h => h
          try simp only [Act.put, List.setIfInBounds_toArray, List.set_cons_zero, List.set_cons_succ]
          refine wpAnyH_take (i := 6) (oi := ?_) (v := ?_) ?_ (by kernel_rfl) (by kernel_rfl) (by kernel_rfl) ?_ ?_ (by assumption) ?_
          rotate_left 2
          · (simp only [List.getElem?_toArray, List.getElem?_cons_succ, List.getElem?_cons_zero]; exact rfl)
          rotate_left 1
          · (refine Or.inl ⟨by rfl, ?_⟩; intro w hSw; (try dsimp only at hSw); go_simp <;> with_reducible rfl)
          rotate_right 1
          · exact fun _ _ _ h => h
          try simp only [Act.put, List.setIfInBounds_toArray, List.set_cons_zero, List.set_cons_succ]
          refine wpAnyH_take (i := 7) (oi := ?_) (v := ?_) ?_ (by kernel_rfl) (by kernel_rfl) (by kernel_rfl) ?_ ?_ (by assumption) ?_
          rotate_left 2
          · (simp only [List.getElem?_toArray, List.getElem?_cons_succ, List.getElem?_cons_zero]; exact rfl)
          rotate_left 1
          · (refine Or.inl ⟨by rfl, ?_⟩; intro w hSw; (try dsimp only at hSw); go_simp <;> with_reducible rfl)
          rotate_right 1
          · exact fun _ _ _ h => h
          try simp only [Act.put, List.setIfInBounds_toArray, List.set_cons_zero, List.set_cons_succ]
          refine wpAnyH_take (i := 8) (oi := ?_) (v := ?_) ?_ (by kernel_rfl) (by kernel_rfl) (by kernel_rfl) ?_ ?_ (by assumption) ?_
          rotate_left 2
          · (simp only [List.getElem?_toArray, List.getElem?_cons_succ, List.getElem?_cons_zero]; exact rfl)
          rotate_left 1
          · (refine Or.inl ⟨by rfl, ?_⟩; intro w hSw; (try dsimp only at hSw); go_simp <;> with_reducible rfl)
          rotate_right 1
          · exact fun _ _ _ h => h
          try simp only [Act.put, List.setIfInBounds_toArray, List.set_cons_zero, List.set_cons_succ]
          refine wpAnyH_take (i := 9) (oi := ?_) (v := ?_) ?_ (by kernel_rfl) (by kernel_rfl) (by kernel_rfl) ?_ ?_ (by assumption) ?_
          rotate_left 2
          · (simp only [List.getElem?_toArray, List.getElem?_cons_succ, List.getElem?_cons_zero]; exact rfl)
          rotate_left 1
          · (refine Or.inl ⟨by rfl, ?_⟩; intro w hSw; (try dsimp only at hSw); go_simp <;> with_reducible rfl)
          rotate_right 1
          · exact fun _ _ _ h => h
          try simp only [Act.put, List.setIfInBounds_toArray, List.set_cons_zero, List.set_cons_succ]
          refine wpAnyH_take (i := 10) (oi := ?_) (v := ?_) ?_ (by kernel_rfl) (by kernel_rfl) (by kernel_rfl) ?_ ?_ (by assumption) ?_
          rotate_left 2
          · (simp only [List.getElem?_toArray, List.getElem?_cons_succ, List.getElem?_cons_zero]; exact rfl)
          rotate_left 1
          · (refine Or.inl ⟨by rfl, ?_⟩; intro w hSw; (try dsimp only at hSw); go_simp <;> with_reducible rfl)
          rotate_right 1
          · exact fun _ _ _ h => h
          try simp only [Act.put, List.setIfInBounds_toArray, List.set_cons_zero, List.set_cons_succ]
          refine wpAnyH_take (i := 11) (oi := ?_) (v := ?_) ?_ (by kernel_rfl) (by kernel_rfl) (by kernel_rfl) ?_ ?_ (by assumption) ?_
          rotate_left 2
          · (simp only [List.getElem?_toArray, List.getElem?_cons_succ, List.getElem?_cons_zero]; exact rfl)
          rotate_left 1
          · (refine Or.inl ⟨by rfl, ?_⟩; intro w hSw; (try dsimp only at hSw); go_simp <;> with_reducible rfl)
          rotate_right 1
          · exact fun _ _ _ h => h
          try simp only [Act.put, List.setIfInBounds_toArray, List.set_cons_zero, List.set_cons_succ]
          refine wpAnyH_take (i := 12) (oi := ?_) (v := ?_) ?_ (by kernel_rfl) (by kernel_rfl) (by kernel_rfl) ?_ ?_ (by assumption) ?_
          rotate_left 2
          · (simp only [List.getElem?_toArray, List.getElem?_cons_succ, List.getElem?_cons_zero]; exact rfl)
          rotate_left 1
          · (refine Or.inl ⟨by rfl, ?_⟩; intro w hSw; (try dsimp only at hSw); go_simp <;> with_reducible rfl)
          rotate_right 1
          · exact fun _ _ _ h => h
          try simp only [Act.put, List.setIfInBounds_toArray, List.set_cons_zero, List.set_cons_succ]
          refine wpAnyH_ready (rs := [13]) (by kernel_rfl) (by simp) ?_
          refine AllReadyH.cons (o := ?_) ?_ (fun K hK => ?_) AllReadyH.nil
          rotate_left 1
          · (simp only [List.getElem?_toArray, List.getElem?_cons_succ, List.getElem?_cons_zero]; exact rfl)
          go_simp
          go_at_call 29
          refine (AH.out _).mono ?_
          rintro e w6 ⟨rfl, hb6⟩
          have b6 := thenBelow (Below.refl _ V).drew hb6
          obtain ⟨_, _, _, ux3⟩ := FP.out.keep hgV b6
          obtain ⟨_, _, _, uy3⟩ := FQ.out.keep hgV b6
          obtain ⟨_, _, _, uk3, _⟩ := preCells (FC.out.keep b6)
          obtain ⟨ul0, ul1, ul2, _⟩ := addrCells (FL.out.keep b6)
          obtain ⟨uf0, uf1, uf2, _⟩ := addrCells (FF.out.keep b6)
          simp only at ux3 uy3
          try go_wp2_with fail
          refine hK.out _ _ ?_ (fun hHeld => ?_)
          · simp [go_sem, ux3, uy3, uk3, ul0, ul1, ul2, uf0, uf1, uf2]
          clear hK K
          try simp only [Act.put, List.setIfInBounds_toArray, List.set_cons_zero, List.set_cons_succ]
          refine wpAnyH_take (i := 14) (oi := ?_) (v := ?_) ?_ (by kernel_rfl) (by kernel_rfl) (by kernel_rfl) ?_ ?_ (by assumption) ?_
          rotate_left 2
          · (simp only [List.getElem?_toArray, List.getElem?_cons_succ, List.getElem?_cons_zero]; exact rfl)
          rotate_left 1
          · (refine Or.inl ⟨by rfl, ?_⟩; intro w hSw; (try dsimp only at hSw); go_simp <;> with_reducible rfl)
          rotate_right 1
          · exact fun _ _ _ h => h
          try simp only [Act.put, List.setIfInBounds_toArray, List.set_cons_zero, List.set_cons_succ]
          refine wpAnyH_take (i := 15) (oi := ?_) (v := ?_) ?_ (by kernel_rfl) (by kernel_rfl) (by kernel_rfl) ?_ ?_ (by assumption) ?_
          rotate_left 2
          · (simp only [List.getElem?_toArray, List.getElem?_cons_succ, List.getElem?_cons_zero]; exact rfl)
          rotate_left 1
          · (refine Or.inl ⟨by rfl, ?_⟩; intro w hSw; (try dsimp only at hSw); go_simp <;> with_reducible rfl)
          rotate_right 1
          · exact fun _ _ _ h => h
          try simp only [Act.put, List.setIfInBounds_toArray, List.set_cons_zero, List.set_cons_succ]
          refine wpAnyH_take (i := 16) (oi := ?_) (v := ?_) ?_ (by kernel_rfl) (by kernel_rfl) (by kernel_rfl) ?_ ?_ (by assumption) ?_
          rotate_left 2
          · (simp only [List.getElem?_toArray, List.getElem?_cons_succ, List.getElem?_cons_zero]; exact rfl)
          rotate_left 1
          · (refine Or.inl ⟨by rfl, ?_⟩; intro w hSw; (try dsimp only at hSw); go_simp <;> with_reducible rfl)
          rotate_right 1
          · exact fun _ _ _ h => h
          try simp only [Act.put, List.setIfInBounds_toArray, List.set_cons_zero, List.set_cons_succ]
          refine wpAnyH_take (i := 17) (oi := ?_) (v := ?_) ?_ (by kernel_rfl) (by kernel_rfl) (by kernel_rfl) ?_ ?_ (by assumption) ?_
          rotate_left 2
          · (simp only [List.getElem?_toArray, List.getElem?_cons_succ, List.getElem?_cons_zero]; exact rfl)
          rotate_left 1
          · (refine Or.inl ⟨by rfl, ?_⟩; intro w hSw; (try dsimp only at hSw); go_simp <;> with_reducible rfl)
          rotate_right 1
          · exact fun _ _ _ h => h
          try simp only [Act.put, List.setIfInBounds_toArray, List.set_cons_zero, List.set_cons_succ]
          refine wpAnyH_take (i := 18) (oi := ?_) (v := ?_) ?_ (by kernel_rfl) (by kernel_rfl) (by kernel_rfl) ?_ ?_ (by assumption) ?_
          rotate_left 2
          · (simp only [List.getElem?_toArray, List.getElem?_cons_succ, List.getElem?_cons_zero]; exact rfl)
          rotate_left 1
          · (refine Or.inl ⟨by rfl, ?_⟩; intro w hSw; (try dsimp only at hSw); go_simp <;> with_reducible rfl)
          rotate_right 1
          · exact fun _ _ _ h => h
          try simp only [Act.put, List.setIfInBounds_toArray, List.set_cons_zero, List.set_cons_succ]
          refine wpAnyH_take (i := 19) (oi := ?_) (v := ?_) ?_ (by kernel_rfl) (by kernel_rfl) (by kernel_rfl) ?_ ?_ (by assumption) ?_
          rotate_left 2
          · (simp only [List.getElem?_toArray, List.getElem?_cons_succ, List.getElem?_cons_zero]; exact rfl)
          rotate_left 1
          · (refine Or.inl ⟨by rfl, ?_⟩; intro w hSw; (try dsimp only at hSw); go_simp <;> with_reducible rfl)
          rotate_right 1
          · exact fun _ _ _ h => h
          try simp only [Act.put, List.setIfInBounds_toArray, List.set_cons_zero, List.set_cons_succ]
          refine wpAnyH_take (i := 20) (oi := ?_) (v := ?_) ?_ (by kernel_rfl) (by kernel_rfl) (by kernel_rfl) ?_ ?_ (by assumption) ?_
          rotate_left 2
          · (simp only [List.getElem?_toArray, List.getElem?_cons_succ, List.getElem?_cons_zero]; exact rfl)
          rotate_left 1
          · (refine Or.inl ⟨by rfl, ?_⟩; intro w hSw; (try dsimp only at hSw); go_simp <;> with_reducible rfl)
          rotate_right 1
          · exact fun _ _ _ h => h
          try simp only [Act.put, List.setIfInBounds_toArray, List.set_cons_zero, List.set_cons_succ]
          refine wpAnyH_take (i := 21) (oi := ?_) (v := ?_) ?_ (by kernel_rfl) (by kernel_rfl) (by kernel_rfl) ?_ ?_ (by assumption) ?_
          rotate_left 2
          · (simp only [List.getElem?_toArray, List.getElem?_cons_succ, List.getElem?_cons_zero]; exact rfl)
          rotate_left 1
          · (refine Or.inl ⟨by rfl, ?_⟩; intro w hSw; (try dsimp only at hSw); go_simp <;> with_reducible rfl)
          rotate_right 1
          · exact fun _ _ _ h => h
          try simp only [Act.put, List.setIfInBounds_toArray, List.set_cons_zero, List.set_cons_succ]
          refine wpAnyH_take (i := 22) (oi := ?_) (v := ?_) ?_ (by kernel_rfl) (by kernel_rfl) (by kernel_rfl) ?_ ?_ (by assumption) ?_
          rotate_left 2
          · (simp only [List.getElem?_toArray, List.getElem?_cons_succ, List.getElem?_cons_zero]; exact rfl)
          rotate_left 1
          · (refine Or.inl ⟨by rfl, ?_⟩; intro w hSw; (try dsimp only at hSw); go_simp <;> with_reducible rfl)
          rotate_right 1
          · exact fun _ _ _ h => h
          try simp only [Act.put, List.setIfInBounds_toArray, List.set_cons_zero, List.set_cons_succ]
          refine wpAnyH_take (i := 23) (oi := ?_) (v := ?_) ?_ (by kernel_rfl) (by kernel_rfl) (by kernel_rfl) ?_ ?_ (by assumption) ?_
          rotate_left 2
          · (simp only [List.getElem?_toArray, List.getElem?_cons_succ, List.getElem?_cons_zero]; exact rfl)
          rotate_left 1
          · (refine Or.inl ⟨by rfl, ?_⟩; intro w hSw; (try dsimp only at hSw); go_simp <;> with_reducible rfl)
          rotate_right 1
          · exact fun _ _ _ h => h
          try simp only [Act.put, List.setIfInBounds_toArray, List.set_cons_zero, List.set_cons_succ]
          refine wpAnyH_take (i := 24) (oi := ?_) (v := ?_) ?_ (by kernel_rfl) (by kernel_rfl) (by kernel_rfl) ?_ ?_ (by assumption) ?_
          rotate_left 2
          · (simp only [List.getElem?_toArray, List.getElem?_cons_succ, List.getElem?_cons_zero]; exact rfl)
          rotate_left 1
          · (refine Or.inl ⟨by rfl, ?_⟩; intro w hSw; (try dsimp only at hSw); go_simp <;> with_reducible rfl)
          rotate_right 1
          · exact fun _ _ _ h => h
          try simp only [Act.put, List.setIfInBounds_toArray, List.set_cons_zero, List.set_cons_succ]
          refine wpAnyH_take (i := 25) (oi := ?_) (v := ?_) ?_ (by kernel_rfl) (by kernel_rfl) (by kernel_rfl) ?_ ?_ (by assumption) ?_
          rotate_left 2
          · (simp only [List.getElem?_toArray, List.getElem?_cons_succ, List.getElem?_cons_zero]; exact rfl)
          rotate_left 1
          · (refine Or.inl ⟨by rfl, ?_⟩; intro w hSw; (try dsimp only at hSw); go_simp <;> with_reducible rfl)
          rotate_right 1
          · exact fun _ _ _ h => h
          try simp only [Act.put, List.setIfInBounds_toArray, List.set_cons_zero, List.set_cons_succ]
          refine wpAnyH_take (i := 26) (oi := ?_) (v := ?_) ?_ (by kernel_rfl) (by kernel_rfl) (by kernel_rfl) ?_ ?_ (by assumption) ?_
          rotate_left 2
          · (simp only [List.getElem?_toArray, List.getElem?_cons_succ, List.getElem?_cons_zero]; exact rfl)
          rotate_left 1
          · (refine Or.inl ⟨by rfl, ?_⟩; intro w hSw; (try dsimp only at hSw); go_simp <;> with_reducible rfl)
          rotate_right 1
          · exact fun _ _ _ h => h
          try simp only [Act.put, List.setIfInBounds_toArray, List.set_cons_zero, List.set_cons_succ]
          refine wpAnyH_take (i := 27) (oi := ?_) (v := ?_) ?_ (by kernel_rfl) (by kernel_rfl) (by kernel_rfl) ?_ ?_ (by assumption) ?_
          rotate_left 2
          · (simp only [List.getElem?_toArray, List.getElem?_cons_succ, List.getElem?_cons_zero]; exact rfl)
          rotate_left 1
          · (refine Or.inl ⟨by rfl, ?_⟩; intro w hSw; (try dsimp only at hSw); go_simp <;> with_reducible rfl)
          rotate_right 1
          · exact fun _ _ _ h => h
          try simp only [Act.put, List.setIfInBounds_toArray, List.set_cons_zero, List.set_cons_succ]
          refine wpAnyH_take (i := 28) (oi := ?_) (v := ?_) ?_ (by kernel_rfl) (by kernel_rfl) (by kernel_rfl) ?_ ?_ (by assumption) ?_
          rotate_left 2
          · (simp only [List.getElem?_toArray, List.getElem?_cons_succ, List.getElem?_cons_zero]; exact rfl)
          rotate_left 1
          · (refine Or.inl ⟨by rfl, ?_⟩; intro w hSw; (try dsimp only at hSw); go_simp <;> with_reducible rfl)
          rotate_right 1
          · exact fun _ _ _ h => h
          try simp only [Act.put, List.setIfInBounds_toArray, List.set_cons_zero, List.set_cons_succ]
          refine wpAnyH_take (i := 29) (oi := ?_) (v := ?_) ?_ (by kernel_rfl) (by kernel_rfl) (by kernel_rfl) ?_ ?_ (by assumption) ?_
          rotate_left 2
          · (simp only [List.getElem?_toArray, List.getElem?_cons_succ, List.getElem?_cons_zero]; exact rfl)
          rotate_left 1
          · (refine Or.inl ⟨by rfl, ?_⟩; intro w hSw; (try dsimp only at hSw); go_simp <;> with_reducible rfl)
          rotate_right 1
          · exact fun _ _ _ h => h
          try simp only [Act.put, List.setIfInBounds_toArray, List.set_cons_zero, List.set_cons_succ]
          refine wpAnyH_take (i := 30) (oi := ?_) (v := ?_) ?_ (by kernel_rfl) (by kernel_rfl) (by kernel_rfl) ?_ ?_ (by assumption) ?_
          rotate_left 2
          · (simp only [List.getElem?_toArray, List.getElem?_cons_succ, List.getElem?_cons_zero]; exact rfl)
          rotate_left 1
          · (refine Or.inr ⟨by rfl, ?_⟩; rfl)
          rotate_right 1
          · exact fun _ _ _ h => h
          try simp only [Act.put, List.setIfInBounds_toArray, List.set_cons_zero, List.set_cons_succ]
          refine wpAnyH_take (i := 31) (oi := ?_) (v := ?_) ?_ (by kernel_rfl) (by kernel_rfl) (by kernel_rfl) ?_ ?_ (by assumption) ?_
          rotate_left 2
          · (simp only [List.getElem?_toArray, List.getElem?_cons_succ, List.getElem?_cons_zero]; exact rfl)
          rotate_left 1
          · (refine Or.inr ⟨by rfl, ?_⟩; rfl)
          rotate_right 1
          · exact fun _ _ _ h => h
          try simp only [Act.put, List.setIfInBounds_toArray, List.set_cons_zero, List.set_cons_succ]
          refine wpAnyH_take (i := 32) (oi := ?_) (v := ?_) ?_ (by kernel_rfl) (by kernel_rfl) (by kernel_rfl) ?_ ?_ (by assumption) ?_
          rotate_left 2
          · (simp only [List.getElem?_toArray, List.getElem?_cons_succ, List.getElem?_cons_zero]; exact rfl)
          rotate_left 1
          · (refine Or.inr ⟨by rfl, ?_⟩; rfl)
          rotate_right 1
          · exact fun _ _ _ h => h
          try simp only [Act.put, List.setIfInBounds_toArray, List.set_cons_zero, List.set_cons_succ]
          refine wpAnyH_take (i := 33) (oi := ?_) (v := ?_) ?_ (by kernel_rfl) (by kernel_rfl) (by kernel_rfl) ?_ ?_ (by assumption) ?_
          rotate_left 2
          · (simp only [List.getElem?_toArray, List.getElem?_cons_succ, List.getElem?_cons_zero]; exact rfl)
          rotate_left 1
          · (refine Or.inr ⟨by rfl, ?_⟩; rfl)
          rotate_right 1
          · exact fun _ _ _ h => h
          try simp only [Act.put, List.setIfInBounds_toArray, List.set_cons_zero, List.set_cons_succ]
          refine wpAnyH_take (i := 34) (oi := ?_) (v := ?_) ?_ (by kernel_rfl) (by kernel_rfl) (by kernel_rfl) ?_ ?_ (by assumption) ?_
          rotate_left 2
          · (simp only [List.getElem?_toArray, List.getElem?_cons_succ, List.getElem?_cons_zero]; exact rfl)
          rotate_left 1
          · (refine Or.inr ⟨by rfl, ?_⟩; rfl)
          rotate_right 1
          · exact fun _ _ _ h => h
          try simp only [Act.put, List.setIfInBounds_toArray, List.set_cons_zero, List.set_cons_succ]
          refine wpAnyH_take (i := 35) (oi := ?_) (v := ?_) ?_ (by kernel_rfl) (by kernel_rfl) (by kernel_rfl) ?_ ?_ (by assumption) ?_
          rotate_left 2
          · (simp only [List.getElem?_toArray, List.getElem?_cons_succ, List.getElem?_cons_zero]; exact rfl)
          rotate_left 1
          · (refine Or.inr ⟨by rfl, ?_⟩; rfl)
          rotate_right 1
          · exact fun _ _ _ h => h
          try simp only [Act.put, List.setIfInBounds_toArray, List.set_cons_zero, List.set_cons_succ]
          refine wpAnyH_take (i := 36) (oi := ?_) (v := ?_) ?_ (by kernel_rfl) (by kernel_rfl) (by kernel_rfl) ?_ ?_ (by assumption) ?_
          rotate_left 2
          · (simp only [List.getElem?_toArray, List.getElem?_cons_succ, List.getElem?_cons_zero]; exact rfl)
          rotate_left 1
          · (refine Or.inr ⟨by rfl, ?_⟩; rfl)
          rotate_right 1
          · exact fun _ _ _ h => h
          try simp only [Act.put, List.setIfInBounds_toArray, List.set_cons_zero, List.set_cons_succ]
          refine wpAnyH_take (i := 37) (oi := ?_) (v := ?_) ?_ (by kernel_rfl) (by kernel_rfl) (by kernel_rfl) ?_ ?_ (by assumption) ?_
          rotate_left 2
          · (simp only [List.getElem?_toArray, List.getElem?_cons_succ, List.getElem?_cons_zero]; exact rfl)
          rotate_left 1
          · (refine Or.inr ⟨by rfl, ?_⟩; rfl)
          rotate_right 1
          · exact fun _ _ _ h => h
          try simp only [Act.put, List.setIfInBounds_toArray, List.set_cons_zero, List.set_cons_succ]
          refine wpAnyH_take (i := 38) (oi := ?_) (v := ?_) ?_ (by kernel_rfl) (by kernel_rfl) (by kernel_rfl) ?_ ?_ (by assumption) ?_
          rotate_left 2
          · (simp only [List.getElem?_toArray, List.getElem?_cons_succ, List.getElem?_cons_zero]; exact rfl)
          rotate_left 1
          · (refine Or.inr ⟨by rfl, ?_⟩; rfl)
          rotate_right 1
          · exact fun _ _ _ h => h
          try simp only [Act.put, List.setIfInBounds_toArray, List.set_cons_zero, List.set_cons_succ]
          refine wpAnyH_take (i := 39) (oi := ?_) (v := ?_) ?_ (by kernel_rfl) (by kernel_rfl) (by kernel_rfl) ?_ ?_ (by assumption) ?_
          rotate_left 2
          · (simp only [List.getElem?_toArray, List.getElem?_cons_succ, List.getElem?_cons_zero]; exact rfl)
          rotate_left 1
          · (refine Or.inl ⟨by rfl, ?_⟩; intro w hSw; (try dsimp only at hSw); go_simp <;> with_reducible rfl)
          rotate_right 1
          · exact fun _ _ _ h => h
          try simp only [Act.put, List.setIfInBounds_toArray, List.set_cons_zero, List.set_cons_succ]
          refine wpAnyH_take (i := 40) (oi := ?_) (v := ?_) ?_ (by kernel_rfl) (by kernel_rfl) (by kernel_rfl) ?_ ?_ (by assumption) ?_
          rotate_left 2
          · (simp only [List.getElem?_toArray, List.getElem?_cons_succ, List.getElem?_cons_zero]; exact rfl)
          rotate_left 1
          · (refine Or.inl ⟨by rfl, ?_⟩; intro w hSw; (try dsimp only at hSw); go_simp <;> with_reducible rfl)
          rotate_right 1
          · exact fun _ _ _ h => h
          try simp only [Act.put, List.setIfInBounds_toArray, List.set_cons_zero, List.set_cons_succ]
          refine wpAnyH_done (by kernel_rfl) ?_ _
          have b7 := thenBelow bV b6
          go_wp2
          go_roundw
          case rel => exact ⟨j + 1, .inr hlt, by go_num, b7⟩
          case measure => simp [intOf]; omega
    · have hl1 : ¬ (j : Int) + 1 < (l.length : Int) := by omega
      go_wp2
      go_ret
      exact ⟨rfl, hnx⟩
end Go.Proofs.YtnpcofaonimpcaaDoor
