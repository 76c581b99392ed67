/-
  Contract of the document's PreSpan.
-/
import Derived.Test.YtojdlhiibffnfaaDoorRefIn
namespace Go.Proofs.YtojdlhiibffnfaaDoor
open Go.RowKit
set_option linter.unusedVariables false
set_option linter.unusedSimpArgs false

set_option maxHeartbeats 400000 in
theorem refSpan_err (six : Bool) (x : Nat) (n e0 : Int) (hx : x < 2 ^ 128) (hc : chkE six x n = e0) (he : (e0 == 0) = false) (w : World) :
    Calls Tryd.prog 40 #[.agg #[.bool six, .int .u64 (aH x), .int .u64 (aL x), .int .i64 n]] w fun e w' => e = .returned (.tuple #[.agg #[.bool false, .int .u64 0, .int .u64 0], .agg #[.bool false, .int .u64 0, .int .u64 0], .int .i64 e0]) ∧ Below w.heap.size w w' := by
  have C := Lib.hid hc
  clear hc
  go_enter Tryd.func40, Tryd.ntmps40
  go_wp2_with fail
  refine (refFault_calls six x n hx _).mono ?_
  rw [C.out]
  rintro e w1 ⟨rfl, hb1⟩
  have b1 := thenBelow ((((Below.refl _ w).alloc (Nat.le_refl _) _).alloc (by simp) _).alloc (by simp; omega) _) hb1
  have R := ((AddrV.new (w.alloc (.cells #[.bool six, .int .u64 (aH x), .int .u64 (aL x), .int .i64 n] 44)) false 0 0 24).alloc _).keep hb1
  have T := (AddrV.new ((w.alloc (.cells #[.bool six, .int .u64 (aH x), .int .u64 (aL x), .int .i64 n] 44)).alloc (.cells #[.bool false, .int .u64 0, .int .u64 0] 24)) false 0 0 24).keep hb1
  obtain ⟨⟨r0, r1, r2, rl⟩, rf⟩ := R
  obtain ⟨⟨t0, t1, t2, tl⟩, tf⟩ := T
  simp at r0 r1 r2 rl rf t0 t1 t2 tl tf
  have f0 := rf 0; have f1 := rf 1; have f2 := rf 2
  have g0 := tf 0; have g1 := tf 1; have g2 := tf 2
  clear hb1 rf tf
  go_wp2
  try simp only [Exit.inBlock, Exit.then]
  refine bodyPost_ret (by simp [results, Tryd.results40, go_sem, r0, r1, r2, t0, t1, t2]; try rfl) rfl ?_
  exact ⟨rfl, (((((b1.setCell (by simp) _).setCell (by simp) _).setCell (by simp) _).setCell (by simp; omega) _).setCell (by simp; omega) _).setCell (by simp; omega) _⟩

/-- The bits from n on, k of them, are 1. -/
def upF (six : Bool) (x n k : Nat) (j : Nat) : Bool := decide (n ≤ j ∧ j < n + k) || fB six x j
set_option maxHeartbeats 2000000 in
set_option maxRecDepth 100000 in
theorem refSpan_ok (six : Bool) (x n T : Nat) (hx : x < 2 ^ wideN six) (hn : n ≤ wideN six) (hc : chkE six x n = 0) (hT : topN x (wideN six - n) = T) (w : World) :
    Calls Tryd.prog 40 #[.agg #[.bool six, .int .u64 (aH x), .int .u64 (aL x), .int .i64 n]] w fun e w' => e = .returned (.tuple #[.agg #[.bool six, .int .u64 (aH x), .int .u64 (aL x)], .agg #[.bool six, .int .u64 (aH T), .int .u64 (aL T)], .int .i64 0]) ∧ Below w.heap.size w w' := by
  have hW := wideN_le six
  have hx' := lt128 hx
  have hTl : T < 2 ^ wideN six := by rw [← hT]; exact topN_lt _ _ _ hx (by omega)
  have FT := Lib.hid (fun j (hj : j < wideN six) => (show fB six T j = (decide (n ≤ j) || fB six x j) by rw [← hT]; exact fB_top six x n j hn hj))
  have AO := Lib.hid (fun (g cap : Nat) (W : World) (h : BitsF W g (wideN six) (fB six T)) => addrOf_bits six T g cap hTl W h)
  have C := Lib.hid hc
  have BO := Lib.hid (fun W : World => bitsOf_num six x hx' W)
  obtain ⟨W, hWe⟩ : ∃ W, wideN six = W := ⟨_, rfl⟩
  rw [hWe] at hn hW FT AO BO
  clear hc hT hWe hTl
  go_enter Tryd.func40, Tryd.ntmps40
  go_wp2_with fail
  refine (refFault_calls six x n hx' _).mono ?_
  rw [C.out]
  rintro e w1 ⟨rfl, hb1⟩
  have b1 := thenBelow ((((Below.refl _ w).alloc (Nat.le_refl _) _).alloc (by simp) _).alloc (by simp; omega) _) hb1
  have P := (((PreV.new w six (aH x) (aL x) n 44).alloc _).alloc _).keep hb1
  have R := ((AddrV.new (w.alloc (.cells #[.bool six, .int .u64 (aH x), .int .u64 (aL x), .int .i64 n] 44)) false 0 0 24).alloc _).keep hb1
  have T' := (AddrV.new ((w.alloc (.cells #[.bool six, .int .u64 (aH x), .int .u64 (aL x), .int .i64 n] 44)).alloc (.cells #[.bool false, .int .u64 0, .int .u64 0] 24)) false 0 0 24).keep hb1
  simp only [World.size_alloc] at R T' P
  have HP := Lib.hid P
  have HR := Lib.hid R
  have HT := Lib.hid T'
  have zt := T'.1.2.2.2
  obtain ⟨⟨p0, p1, p2, p3, pl⟩, pf⟩ := P
  clear hb1 pf R T'
  go_wp2_with fail
  refine (BO.out _).mono ?_
  rintro e w2 ⟨g, cap, rfl, hB2, hg2, hc2, hb2⟩
  have b2 := thenBelow b1 hb2
  have HP := Lib.hid (HP.out.keep hb2)
  have HR := Lib.hid (HR.out.keep hb2)
  have HT := Lib.hid (HT.out.keep hb2)
  have HB := Lib.hid hB2
  have hg : w.heap.size + 1 + 1 < g := by omega
  obtain ⟨hc2a, hc2b⟩ := hc2
  unfold maxLen at hc2b
  clear p0 p1 p2 p3 pl hb2 hB2 hg2 zt b1
  have P := HP.out
  obtain ⟨⟨p0, p1, p2, p3, pl⟩, pf⟩ := P
  clear pf
  go_wp2
  go_loopw [7] (fun i wr => ∃ k : Nat, k ≤ W - n ∧ i = .int .i64 ((n + k : Nat) : Int) ∧ BitsF wr g W (upF six x n k) ∧ PreV wr w.heap.size six (aH x) (aL x) n ∧ AddrV wr (w.heap.size + 1) false 0 0 ∧ AddrV wr (w.heap.size + 1 + 1) false 0 0 ∧ Below w.heap.size w wr) (fun i _ => W - (intOf i).toNat)
  case atStart => exact ⟨0, Nat.zero_le _, rfl, HB.out.congr (fun j _ => by unfold upF; rw [decide_eq_false (by omega)]; rfl), HP.out, HR.out, HT.out, b2⟩
  case round =>
    clear p0 p1 p2 p3 pl HB HP HR HT b2
    obtain ⟨k, hk, rfl, hB, hP, hR, hT, hb⟩ := hrel
    by_cases hlt : k < W - n
    · have hcell := hB.1 (n + k) (by omega)
      have hfr := hB.2.1 (n + k)
      have HB := Lib.hid (hB.set (n + k) (by omega) true)
      have HP := Lib.hid (hP.far (p := ⟨g, n + k, none⟩) (by show w.heap.size ≠ g; omega) (.int .i64 1))
      have HR := Lib.hid (hR.far (p := ⟨g, n + k, none⟩) (by show w.heap.size + 1 ≠ g; omega) (.int .i64 1))
      have HT := Lib.hid (hT.far (p := ⟨g, n + k, none⟩) (by show w.heap.size + 1 + 1 ≠ g; omega) (.int .i64 1))
      have hb' := hb.setCell (p := ⟨g, n + k, none⟩) (by show w.heap.size ≤ g; omega) (.int .i64 1)
      clear hB hP hR hT hb
      go_wp2
      go_roundw
      case rel => exact ⟨k + 1, by omega, by go_num, HB.out.congr (fun j _ => by
        unfold upF
        by_cases e : j = n + k
        · rw [if_pos e, decide_eq_true (by omega)]; rfl
        · rw [if_neg e]
          congr 1
          exact decide_eq_decide.2 (by omega)), HP.out, HR.out, HT.out, hb'⟩
      case measure => simp [intOf]; omega
    · obtain rfl : k = W - n := by omega
      have HB := Lib.hid (hB.congr (f' := fB six T) (fun j hj => by
        rw [FT.out j hj]
        unfold upF
        congr 1
        exact decide_eq_decide.2 (by omega)))
      have HP := Lib.hid hP
      have HR := Lib.hid hR
      have HT := Lib.hid hT
      obtain ⟨⟨p0, p1, p2, p3, pl⟩, pf⟩ := hP
      obtain ⟨⟨r0, r1, r2, rl⟩, rf⟩ := hR
      have f0 := rf 0; have f1 := rf 1; have f2 := rf 2
      clear pf rf hT hB
      have hne2 : ¬ w.heap.size + 1 + 1 = w.heap.size := by omega
      go_wp2_with fail
      go_region_held3 (fun w' => w'.cell? ⟨w.heap.size, 0, none⟩ = some (.bool six) ∧ w'.cell? ⟨w.heap.size, 1, none⟩ = some (.int .u64 (aH x)) ∧ w'.cell? ⟨w.heap.size, 2, none⟩ = some (.int .u64 (aL x))) (first | (simp (disch := first | assumption | (simp; done)) [go_sem, World.cell?_setCell_far, p0, p1, p2]; done) | with_reducible exact ⟨c0, c1, c2⟩ | (simp (disch := first | assumption | (simp; done)) [go_sem, World.cell?_setCell_far, c0, c1, c2]; done))
        ((go_at_call 63; refine (AO.out g cap _ HB.out.drew).mono ?_; rintro e w3 ⟨rfl, hb3⟩; have P3 := HP.out.drew.keep hb3; have R3 := HR.out.drew.keep hb3; have T3 := HT.out.drew.keep hb3; have b3 := thenBelow hb.drew hb3; clear hb3; have ⟨⟨c0, c1, c2, _, _⟩, _⟩ := P3; have ⟨⟨d0, d1, d2, dl⟩, df⟩ := R3; have h0 := df 0; have h1 := df 1; have h2 := df 2; have ⟨⟨t0, t1, t2, tl⟩, tf⟩ := T3; have i0 := tf 0; have i1 := tf 1; have i2 := tf 2))
      have R7 := ((((R3.store six (aH x) (aL x)).far (p := ⟨w.heap.size + 1 + 1, 0, none⟩) (by simp) (.bool six)).far (p := ⟨w.heap.size + 1 + 1, 1, none⟩) (by simp) (.int .u64 (aH T))).far (p := ⟨w.heap.size + 1 + 1, 2, none⟩) (by simp) (.int .u64 (aL T)))
      have T7 := (((T3.far (p := ⟨w.heap.size + 1, 0, none⟩) (by simp) (.bool six)).far (p := ⟨w.heap.size + 1, 1, none⟩) (by simp) (.int .u64 (aH x))).far (p := ⟨w.heap.size + 1, 2, none⟩) (by simp) (.int .u64 (aL x))).store six (aH T) (aL T)
      have B7 := ((((((b3.setCell (p := ⟨w.heap.size + 1, 0, none⟩) (by show w.heap.size ≤ w.heap.size + 1; omega) (.bool six)).setCell (p := ⟨w.heap.size + 1, 1, none⟩) (by show w.heap.size ≤ w.heap.size + 1; omega) (.int .u64 (aH x))).setCell (p := ⟨w.heap.size + 1, 2, none⟩) (by show w.heap.size ≤ w.heap.size + 1; omega) (.int .u64 (aL x))).setCell (p := ⟨w.heap.size + 1 + 1, 0, none⟩) (by show w.heap.size ≤ w.heap.size + 1 + 1; omega) (.bool six)).setCell (p := ⟨w.heap.size + 1 + 1, 1, none⟩) (by show w.heap.size ≤ w.heap.size + 1 + 1; omega) (.int .u64 (aH T))).setCell (p := ⟨w.heap.size + 1 + 1, 2, none⟩) (by show w.heap.size ≤ w.heap.size + 1 + 1; omega) (.int .u64 (aL T)))
      clear P3 R3 T3 b3 c0 c1 c2 d0 d1 d2 dl df h0 h1 h2 t0 t1 t2 tl tf i0 i1 i2 p0 p1 p2 p3 pl r0 r1 r2 rl f0 f1 f2 HB HP HR HT hb
      revert R7 T7 B7
      generalize ((((((w3.setCell ⟨w.heap.size + 1, 0, none⟩ (.bool six)).setCell ⟨w.heap.size + 1, 1, none⟩ (.int .u64 (aH x))).setCell ⟨w.heap.size + 1, 2, none⟩ (.int .u64 (aL x))).setCell ⟨w.heap.size + 1 + 1, 0, none⟩ (.bool six)).setCell ⟨w.heap.size + 1 + 1, 1, none⟩ (.int .u64 (aH T))).setCell ⟨w.heap.size + 1 + 1, 2, none⟩ (.int .u64 (aL T))) = W7
      intro R7 T7 B7
      obtain ⟨⟨k0, k1, k2, _⟩, _⟩ := R7
      obtain ⟨⟨l0, l1, l2, _⟩, _⟩ := T7
      go_wp2
      try simp only [Exit.inBlock, Exit.then]
      exact bodyPost_ret (v := .tuple #[.agg #[.bool six, .int .u64 (aH x), .int .u64 (aL x)], .agg #[.bool six, .int .u64 (aH T), .int .u64 (aL T)], .int .i64 0]) (by simp [results, Tryd.results40, go_sem, k0, k1, k2, l0, l1, l2]) rfl ⟨rfl, B7⟩
end Go.Proofs.YtojdlhiibffnfaaDoor
