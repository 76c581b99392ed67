/-
  Contracts of pre.Common.
-/
import Derived.Test.YtnpcofaonimpcaaDoorPreG
import Derived.Test.YtnpcofaonimpcaaDoorPreBothC
import Derived.Test.YtnpcofaonimpcaaDoorPreCut
namespace Go.Proofs.YtnpcofaonimpcaaDoor
open Go.RowKit
set_option linter.unusedVariables false
set_option linter.unusedSimpArgs false

set_option maxHeartbeats 400000 in
theorem common_err (s1 s2 : Bool) (x y : Nat) (n m e0 : Int) (hx : x < 2 ^ 128) (hy : y < 2 ^ 128) (hc : bothE s1 x n s2 y m = e0) (he : (e0 == 0) = false) (w : World) :
    Calls Tryd.prog 28 #[.agg #[.bool s1, .int .u64 (aH x), .int .u64 (aL x), .int .i64 n], .agg #[.bool s2, .int .u64 (aH y), .int .u64 (aL y), .int .i64 m]] w fun e w' => e = .returned (.tuple #[.agg #[.bool false, .int .u64 0, .int .u64 0, .int .i64 0], .int .i64 e0]) ∧ Below w.heap.size w w' := by
  have C := Lib.hid hc
  clear hc
  go_enter Tryd.func28, Tryd.ntmps28
  go_wp2_with fail
  refine (checkBoth_calls s1 s2 x y n m hx hy _).mono ?_
  rw [C.out]
  rintro e w1 ⟨rfl, hb1⟩
  have b1 := thenBelow ((((Below.refl _ w).alloc (Nat.le_refl _) _).alloc (by simp) _).alloc (by simp; omega) _) hb1
  have T := (PreV.new ((w.alloc (.cells #[.bool s1, .int .u64 (aH x), .int .u64 (aL x), .int .i64 n] 40)).alloc (.cells #[.bool s2, .int .u64 (aH y), .int .u64 (aL y), .int .i64 m] 40)) false 0 0 0 40).keep hb1
  simp only [World.size_alloc] at T
  obtain ⟨⟨t0, t1, t2, t3, tl⟩, tf⟩ := T
  have g0 := tf 0; have g1 := tf 1; have g2 := tf 2; have g3 := tf 3
  clear hb1 tf
  go_wp2
  try simp only [Exit.inBlock, Exit.then]
  refine bodyPost_ret (v := .tuple #[.agg #[.bool false, .int .u64 0, .int .u64 0, .int .i64 0], .int .i64 e0]) (by simp [results, Tryd.results28, go_sem, t0, t1, t2, t3]) rfl ?_
  exact ⟨rfl, ((((b1.setCell (p := ⟨w.heap.size + 1 + 1, 0, none⟩) (by show w.heap.size ≤ w.heap.size + 1 + 1; omega) (.bool false)).setCell (p := ⟨w.heap.size + 1 + 1, 1, none⟩) (by show w.heap.size ≤ w.heap.size + 1 + 1; omega) (.int .u64 0)).setCell (p := ⟨w.heap.size + 1 + 1, 2, none⟩) (by show w.heap.size ≤ w.heap.size + 1 + 1; omega) (.int .u64 0)).setCell (p := ⟨w.heap.size + 1 + 1, 3, none⟩) (by show w.heap.size ≤ w.heap.size + 1 + 1; omega) (.int .i64 0))⟩

/-- How many bits two prefixes have in common. -/
def comN (six : Bool) (x n y m : Nat) : Nat := min (min n m) (shared six x y)
set_option maxHeartbeats 1000000 in
theorem common_ok (six : Bool) (x n y m c : Nat) (hx : x < 2 ^ wideN six) (hy : y < 2 ^ wideN six) (hn : n ≤ wideN six) (hm : m ≤ wideN six) (hc : bothE six x n six y m = 0) (hk : comN six x n y m = c) (w : World) :
    Calls Tryd.prog 28 #[.agg #[.bool six, .int .u64 (aH x), .int .u64 (aL x), .int .i64 n], .agg #[.bool six, .int .u64 (aH y), .int .u64 (aL y), .int .i64 m]] w fun e w' => e = .returned (.tuple #[.agg #[.bool six, .int .u64 (aH (lowN x (wideN six - c))), .int .u64 (aL (lowN x (wideN six - c))), .int .i64 c], .int .i64 0]) ∧ Below w.heap.size w w' := by
  have hx' := lt128 hx
  have hy' := lt128 hy
  have hcl : c ≤ wideN six := by unfold comN at hk; omega
  have KK := Lib.hid hk
  clear hk
  have C := Lib.hid hc
  clear hc
  go_enter Tryd.func28, Tryd.ntmps28
  go_wp2_with fail
  refine (checkBoth_calls six six x y n m hx' hy' _).mono ?_
  rw [C.out]
  rintro e w1 ⟨rfl, hb1⟩
  have b1 := thenBelow ((((Below.refl _ w).alloc (Nat.le_refl _) _).alloc (by simp) _).alloc (by simp; omega) _) hb1
  have T := (PreV.new ((w.alloc (.cells #[.bool six, .int .u64 (aH x), .int .u64 (aL x), .int .i64 n] 40)).alloc (.cells #[.bool six, .int .u64 (aH y), .int .u64 (aL y), .int .i64 m] 40)) false 0 0 0 40).keep hb1
  have P := (((PreV.new w six (aH x) (aL x) n 40).alloc _).alloc _).keep hb1
  have Q := ((PreV.new (w.alloc (.cells #[.bool six, .int .u64 (aH x), .int .u64 (aL x), .int .i64 n] 40)) six (aH y) (aL y) m 40).alloc _).keep hb1
  simp only [World.size_alloc] at P Q T
  have HP := Lib.hid P
  have HT := Lib.hid T
  have HQ := Lib.hid Q
  obtain ⟨⟨p0, p1, p2, p3, pl⟩, pf⟩ := P
  obtain ⟨⟨q0, q1, q2, q3, ql⟩, qf⟩ := Q
  clear hb1 pf qf T
  go_wp2_with fail
  go_region_held3 (fun w' => (w'.cell? ⟨w.heap.size + 1, 0, none⟩ = some (.bool six) ∧ w'.cell? ⟨w.heap.size + 1, 1, none⟩ = some (.int .u64 (aH y)) ∧ w'.cell? ⟨w.heap.size + 1, 2, none⟩ = some (.int .u64 (aL y)) ∧ w'.cell? ⟨w.heap.size + 1, 3, none⟩ = some (.int .i64 m)) ∧ w'.cell? ⟨w.heap.size, 0, none⟩ = some (.bool six) ∧ w'.cell? ⟨w.heap.size, 1, none⟩ = some (.int .u64 (aH x)) ∧ w'.cell? ⟨w.heap.size, 2, none⟩ = some (.int .u64 (aL x)) ∧ w'.cell? ⟨w.heap.size, 3, none⟩ = some (.int .i64 n)) (first | (simp (disch := first | assumption | (simp; done) | (simp; omega)) [go_sem, World.cell?_alloc_past, World.cell?_setCell_far, q0, q1, q2, q3, p0, p1, p2, p3]; done) | exact ⟨⟨Q2.1.1, Q2.1.2.1, Q2.1.2.2.1, Q2.1.2.2.2.1⟩, P2.1.1, P2.1.2.1, P2.1.2.2.1, P2.1.2.2.2.1⟩)
      ((go_at_call 43; refine (sharedBits_calls six x y hx hy _).mono ?_; rintro e w2 ⟨rfl, hb2⟩; have P2 := HP.out.drew.keep hb2; have Q2 := HQ.out.drew.keep hb2; have T2 := HT.out.drew.keep hb2; have B2 := thenBelow b1.drew hb2; clear hb2))
  rw [show (if ((shared six x y : Nat) : Int) < (if m < n then (m : Int) else (n : Int)) then ((shared six x y : Nat) : Int) else (if m < n then (m : Int) else (n : Int))) = (c : Int) from by
    rw [← KK.out]; unfold comN; (repeat' split) <;> omega]
  clear p0 p1 p2 p3 pl q0 q1 q2 q3 ql HP HQ HT Q2
  have HP := Lib.hid P2
  have HT := Lib.hid T2
  obtain ⟨⟨p0, p1, p2, p3, pl⟩, pf⟩ := P2
  clear T2 pf
  go_wp2_with fail
  refine (cut_calls six x c hx' hcl _).mono ?_
  rintro e w3 ⟨rfl, hb3⟩
  have T3 := HT.out.keep hb3
  have B3 := thenBelow B2 hb3
  clear hb3 HP HT p0 p1 p2 p3 pl
  obtain ⟨⟨t0, t1, t2, t3, tl⟩, tf⟩ := T3
  have g0 := tf 0; have g1 := tf 1; have g2 := tf 2; have g3 := tf 3
  clear tf
  go_wp2
  try simp only [Exit.inBlock, Exit.then]
  refine bodyPost_ret (v := .tuple #[.agg #[.bool six, .int .u64 (aH (lowN x (wideN six - c))), .int .u64 (aL (lowN x (wideN six - c))), .int .i64 c], .int .i64 0]) (by simp [results, Tryd.results28, go_sem, t0, t1, t2, t3]) rfl ?_
  exact ⟨rfl, ((((B3.setCell (p := ⟨w.heap.size + 1 + 1, 0, none⟩) (by show w.heap.size ≤ w.heap.size + 1 + 1; omega) (.bool six)).setCell (p := ⟨w.heap.size + 1 + 1, 1, none⟩) (by show w.heap.size ≤ w.heap.size + 1 + 1; omega) (.int .u64 (aH (lowN x (wideN six - c))))).setCell (p := ⟨w.heap.size + 1 + 1, 2, none⟩) (by show w.heap.size ≤ w.heap.size + 1 + 1; omega) (.int .u64 (aL (lowN x (wideN six - c))))).setCell (p := ⟨w.heap.size + 1 + 1, 3, none⟩) (by show w.heap.size ≤ w.heap.size + 1 + 1; omega) (.int .i64 c))⟩
end Go.Proofs.YtnpcofaonimpcaaDoor
