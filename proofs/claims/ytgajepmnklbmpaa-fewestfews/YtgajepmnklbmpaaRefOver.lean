/-
  The document's PreHalves and preOver of blocks.
-/
import Derived.Test.YtgajepmnklbmpaaG4
import Derived.Test.YtgajepmnklbmpaaG18
import Derived.Test.YtgajepmnklbmpaaCidrE
namespace Go.Proofs.Ytgajepmnklbmpaa
open Go.RowKit
set_option linter.unusedVariables false
set_option linter.unusedSimpArgs false

theorem refHalves_al2 {six : Bool} {x k : Nat} (h : AL six x (k + 1)) (w : World) :
    Calls Try.prog 51 #[.agg #[.bool six, .int .u64 (aH x), .int .u64 (aL x), .int .i64 ((wideN six - (k + 1) : Nat) : Int)]] w fun e w' => e = .returned (.tuple #[.agg #[.bool six, .int .u64 (aH x), .int .u64 (aL x), .int .i64 ((wideN six - k : Nat) : Int)], .agg #[.bool six, .int .u64 (aH (x + 2 ^ k)), .int .u64 (aL (x + 2 ^ k)), .int .i64 ((wideN six - k : Nat) : Int)], .int .i64 0]) ∧ Below w.heap.size w w' := by
  have hk := h.1
  have c := refHalves_ok six x (wideN six - (k + 1)) (x + 2 ^ k) h.lt (by omega) h.chk (by rw [show wideN six - (wideN six - (k + 1)) = k + 1 by omega]; exact h.lowN) (by rw [show wideN six - (wideN six - (k + 1)) = k + 1 by omega, show wideN six - (wideN six - (k + 1) + 1) = k by omega, h.topN, h.halfTop]) w
  rw [show ((wideN six - (k + 1) : Nat) : Int) + 1 = ((wideN six - k : Nat) : Int) by omega] at c
  exact c
theorem refOver_long (six : Bool) (x y n m : Nat) (hm : m < n) (hn : n ≤ 128) (w : World) :
    Calls Try.prog 50 #[.agg #[.bool six, .int .u64 (aH x), .int .u64 (aL x), .int .i64 n], .agg #[.bool six, .int .u64 (aH y), .int .u64 (aL y), .int .i64 m]] w fun e w' => e = .returned (.bool false) ∧ Below w.heap.size w w' := by
  have b1 : Below w.heap.size w ((w.alloc (.cells #[.bool six, .int .u64 (aH x), .int .u64 (aL x), .int .i64 n] 63)).alloc (.cells #[.bool six, .int .u64 (aH y), .int .u64 (aL y), .int .i64 m] 63)) := ((Below.refl _ w).alloc (Nat.le_refl _) _).alloc (by simp) _
  go_enter Try.func50, Try.ntmps50
  go_wp2
  go_ret
  exact ⟨rfl, b1⟩
set_option maxHeartbeats 1000000 in
theorem refOver_short (six : Bool) (x y n m : Nat) (b : Bool) (hx : x < 2 ^ wideN six) (hy : y < 2 ^ wideN six) (hn : n ≤ wideN six) (hm : n ≤ m) (hb : decide (lowN y (wideN six - n) = lowN x (wideN six - n)) = b) (w : World) :
    Calls Try.prog 50 #[.agg #[.bool six, .int .u64 (aH x), .int .u64 (aL x), .int .i64 n], .agg #[.bool six, .int .u64 (aH y), .int .u64 (aL y), .int .i64 m]] w fun e w' => e = .returned (.bool b) ∧ Below w.heap.size w w' := by
  have IN := Lib.hid (fun W : World => refIn_calls six x y n b hx hy hn hb W)
  clear hb
  go_enter Try.func50, Try.ntmps50
  go_wp2_with fail
  refine (IN.out _).mono ?_
  rintro e w1 ⟨rfl, hb1⟩
  have b1 := thenBelow (((Below.refl _ w).alloc (Nat.le_refl _) _).alloc (by simp) _) hb1
  go_wp2
  go_ret
  exact ⟨rfl, b1⟩
theorem refOver_al {six : Bool} {x k y j : Nat} (hx : AL six x k) (hy : AL six y j) (b : Bool) (hb : cov x k y j = b) (w : World) :
    Calls Try.prog 50 #[.agg #[.bool six, .int .u64 (aH x), .int .u64 (aL x), .int .i64 ((wideN six - k : Nat) : Int)], .agg #[.bool six, .int .u64 (aH y), .int .u64 (aL y), .int .i64 ((wideN six - j : Nat) : Int)]] w fun e w' => e = .returned (.bool b) ∧ Below w.heap.size w w' := by
  rw [← covD_cov hx hy] at hb
  have hw := wideN_le six
  by_cases hm : wideN six - k ≤ wideN six - j
  · refine refOver_short six x y _ _ b hx.lt hy.lt (Nat.sub_le _ _) hm ?_ w
    rw [← hb, covD, decide_eq_true hm, Bool.true_and, show wideN six - (wideN six - k) = k by have := hx.1; omega, hx.lowN]
  · obtain rfl : b = false := by rw [← hb, covD, decide_eq_false hm]; rfl
    exact refOver_long six x y _ _ (by omega) (by omega) w
end Go.Proofs.Ytgajepmnklbmpaa
