/-
  Contracts of pre.Span.
-/
import Derived.Test.YtepfcphhgmmlhaaG6
import Derived.Test.YtepfcphhgmmlhaaPreA2
namespace Go.Proofs.Ytepfcphhgmmlhaa
open Go.RowKit
set_option linter.unusedVariables false
set_option linter.unusedSimpArgs false

set_option maxHeartbeats 400000 in
theorem span_err (six : Bool) (x : Nat) (n e0 : Int) (hx : x < 2 ^ 128) (hc : chkE six x n = e0) (he : (e0 == 0) = false) (w : World) :
    Calls Try.prog 64 #[.agg #[.bool six, .int .u64 (aH x), .int .u64 (aL x), .int .i64 n]] w fun e w' => e = .returned (.tuple #[.agg #[.bool false, .int .u64 0, .int .u64 0], .agg #[.bool false, .int .u64 0, .int .u64 0], .int .i64 e0]) ∧ Below w.heap.size w w' := by
  have C := Lib.hid hc
  clear hc
  go_enter Try.func64, Try.ntmps64
  go_wp2_with fail
  refine (check_calls six x n hx _).mono ?_
  rw [C.out]
  rintro e w1 ⟨rfl, hb1⟩
  have b1 := thenBelow ((((Below.refl _ w).alloc (Nat.le_refl _) _).alloc (by simp) _).alloc (by simp; omega) _) hb1
  have R := ((AddrV.new (w.alloc (.cells #[.bool six, .int .u64 (aH x), .int .u64 (aL x), .int .i64 n] 51)) false 0 0 49).alloc _).keep hb1
  have T := (AddrV.new ((w.alloc (.cells #[.bool six, .int .u64 (aH x), .int .u64 (aL x), .int .i64 n] 51)).alloc (.cells #[.bool false, .int .u64 0, .int .u64 0] 49)) false 0 0 49).keep hb1
  obtain ⟨⟨r0, r1, r2, rl⟩, rf⟩ := R
  obtain ⟨⟨t0, t1, t2, tl⟩, tf⟩ := T
  simp at r0 r1 r2 rl rf t0 t1 t2 tl tf
  have f0 := rf 0; have f1 := rf 1; have f2 := rf 2
  have g0 := tf 0; have g1 := tf 1; have g2 := tf 2
  clear hb1 rf tf
  go_wp2
  try simp only [Exit.inBlock, Exit.then]
  refine bodyPost_ret (by simp [results, Try.results64, go_sem, r0, r1, r2, t0, t1, t2]; try rfl) rfl ?_
  exact ⟨rfl, (((((b1.setCell (by simp) _).setCell (by simp) _).setCell (by simp) _).setCell (by simp; omega) _).setCell (by simp; omega) _).setCell (by simp; omega) _⟩
set_option maxHeartbeats 400000 in
theorem span_ok (six : Bool) (x n : Nat) (hx : x < 2 ^ 128) (hn : n ≤ wideN six) (hc : chkE six x n = 0) (w : World) :
    Calls Try.prog 64 #[.agg #[.bool six, .int .u64 (aH x), .int .u64 (aL x), .int .i64 n]] w fun e w' => e = .returned (.tuple #[.agg #[.bool six, .int .u64 (aH x), .int .u64 (aL x)], .agg #[.bool six, .int .u64 (aH (topN x (wideN six - n))), .int .u64 (aL (topN x (wideN six - n)))], .int .i64 0]) ∧ Below w.heap.size w w' := by
  have C := Lib.hid hc
  clear hc
  go_enter Try.func64, Try.ntmps64
  go_wp2_with fail
  refine (check_calls six x n hx _).mono ?_
  rw [C.out]
  rintro e w1 ⟨rfl, hb1⟩
  have b1 := thenBelow ((((Below.refl _ w).alloc (Nat.le_refl _) _).alloc (by simp) _).alloc (by simp; omega) _) hb1
  have P := (((PreAt.new w six (aH x) (aL x) n 51).alloc _).alloc _).keep hb1
  have R := ((AddrV.new (w.alloc (.cells #[.bool six, .int .u64 (aH x), .int .u64 (aL x), .int .i64 n] 51)) false 0 0 49).alloc _).keep hb1
  have T := (AddrV.new ((w.alloc (.cells #[.bool six, .int .u64 (aH x), .int .u64 (aL x), .int .i64 n] 51)).alloc (.cells #[.bool false, .int .u64 0, .int .u64 0] 49)) false 0 0 49).keep hb1
  obtain ⟨p0, p1, p2, p3, pl⟩ := P
  have HR := Lib.hid R
  have HT := Lib.hid T
  obtain ⟨⟨r0, r1, r2, rl⟩, rf⟩ := R
  obtain ⟨⟨t0, t1, t2, tl⟩, tf⟩ := T
  simp at r0 r1 r2 rl rf t0 t1 t2 tl tf
  have f0 := rf 0; have f1 := rf 1; have f2 := rf 2
  have g0 := tf 0; have g1 := tf 1; have g2 := tf 2
  clear hb1 rf tf
  go_wp2_with fail
  go_region_held3 (fun w' => w'.cell? ⟨w.heap.size, 0, none⟩ = some (.bool six) ∧ w'.cell? ⟨w.heap.size, 1, none⟩ = some (.int .u64 (aH x)) ∧ w'.cell? ⟨w.heap.size, 2, none⟩ = some (.int .u64 (aL x)) ∧ w'.cell? ⟨w.heap.size, 3, none⟩ = some (.int .i64 n)) (simp (disch := first | assumption | (simp; done) | (simp; omega)) [go_sem, World.cell?_alloc_past, World.cell?_setCell_far, p0, p1, p2, p3])
      ((go_at_call 85; refine (pend_calls six x n hx hn _).mono ?_; rintro e w' ⟨rfl, rfl⟩))
  rename_i K hK hH
  clear hH
  refine hK _ _ (wp_ret ?_)
  have hs := b1.size
  have BW := (((((((((b1.setCell (p := ⟨w.heap.size + 1, 0, none⟩) (by simp) (.bool six)).setCell (p := ⟨w.heap.size + 1, 1, none⟩) (by simp) (.int .u64 (aH x))).setCell (p := ⟨w.heap.size + 1, 2, none⟩) (by simp) (.int .u64 (aL x))).setCell (p := ⟨w.heap.size + 1 + 1, 0, none⟩) (by simp; omega) (.bool six)).setCell (p := ⟨w.heap.size + 1 + 1, 1, none⟩) (by simp; omega) (.int .u64 (aH (topN x (wideN six - n))))).setCell (p := ⟨w.heap.size + 1 + 1, 2, none⟩) (by simp; omega) (.int .u64 (aL (topN x (wideN six - n))))).alloc (by simp; omega) (.cells #[.bool six, .int .u64 (aH (topN x (wideN six - n))), .int .u64 (aL (topN x (wideN six - n)))] 49)).alloc (by simp; omega) (.cells #[.bool six, .int .u64 (aH (topN x (wideN six - n))), .int .u64 (aL (topN x (wideN six - n)))] 49)).alloc (by simp; omega) (.cells #[.bool six, .int .u64 (aH x), .int .u64 (aL x)] 49)).drew
  have RW := ((((((((HR.out.store six (aH x) (aL x)).far (p := ⟨w.heap.size + 1 + 1, 0, none⟩) (by simp) (.bool six)).far (p := ⟨w.heap.size + 1 + 1, 1, none⟩) (by simp) (.int .u64 (aH (topN x (wideN six - n))))).far (p := ⟨w.heap.size + 1 + 1, 2, none⟩) (by simp) (.int .u64 (aL (topN x (wideN six - n))))).alloc (.cells #[.bool six, .int .u64 (aH (topN x (wideN six - n))), .int .u64 (aL (topN x (wideN six - n)))] 49)).alloc (.cells #[.bool six, .int .u64 (aH (topN x (wideN six - n))), .int .u64 (aL (topN x (wideN six - n)))] 49)).alloc (.cells #[.bool six, .int .u64 (aH x), .int .u64 (aL x)] 49)).drew)
  have TW := ((((((HT.out.far (p := ⟨w.heap.size + 1, 0, none⟩) (by simp) (.bool six)).far (p := ⟨w.heap.size + 1, 1, none⟩) (by simp) (.int .u64 (aH x))).far (p := ⟨w.heap.size + 1, 2, none⟩) (by simp) (.int .u64 (aL x))).store six (aH (topN x (wideN six - n))) (aL (topN x (wideN six - n)))).alloc (.cells #[.bool six, .int .u64 (aH (topN x (wideN six - n))), .int .u64 (aL (topN x (wideN six - n)))] 49)).alloc (.cells #[.bool six, .int .u64 (aH (topN x (wideN six - n))), .int .u64 (aL (topN x (wideN six - n)))] 49)).alloc (.cells #[.bool six, .int .u64 (aH x), .int .u64 (aL x)] 49)
  have TW := TW.drew
  simp only [World.size_alloc] at RW TW
  revert BW RW TW
  generalize World.drew _ = W
  intro BW RW TW
  obtain ⟨⟨k0, k1, k2, _⟩, _⟩ := RW
  obtain ⟨⟨l0, l1, l2, _⟩, _⟩ := TW
  refine bodyPost_ret (v := .tuple #[.agg #[.bool six, .int .u64 (aH x), .int .u64 (aL x)], .agg #[.bool six, .int .u64 (aH (topN x (wideN six - n))), .int .u64 (aL (topN x (wideN six - n)))], .int .i64 0]) (by simp [results, Try.results64, go_sem, k0, k1, k2, l0, l1, l2]) rfl ⟨rfl, BW⟩
end Go.Proofs.Ytepfcphhgmmlhaa
