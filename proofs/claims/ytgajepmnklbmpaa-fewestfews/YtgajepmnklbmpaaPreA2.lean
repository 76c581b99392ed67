/-
  Package pre: the last address of a prefix.
-/
import Derived.Test.YtgajepmnklbmpaaG3
namespace Go.Proofs.Ytgajepmnklbmpaa
open Go.RowKit
set_option linter.unusedVariables false
set_option linter.unusedSimpArgs false
set_option maxHeartbeats 400000 in
theorem pend_calls (six : Bool) (x n : Nat) (hx : x < 2 ^ 128) (hn : n ≤ wideN six) (w : World) :
    Calls Try.prog 63 #[.agg #[.bool six, .int .u64 (aH x), .int .u64 (aL x)], .int .i64 n] w fun e w' => e = .returned (.agg #[.bool six, .int .u64 (aH (topN x (wideN six - n))), .int .u64 (aL (topN x (wideN six - n)))]) ∧ ((w.alloc (.cells #[.bool six, .int .u64 (aH (topN x (wideN six - n))), .int .u64 (aL (topN x (wideN six - n)))] 61)).alloc (.cells #[.bool six, .int .u64 (aH (topN x (wideN six - n))), .int .u64 (aL (topN x (wideN six - n)))] 61)).alloc (.cells #[.bool six, .int .u64 (aH x), .int .u64 (aL x)] 61) = w' := by
  have hw := wideN_le six
  obtain ⟨m, hm⟩ : ∃ m, wideN six - n = m := ⟨_, rfl⟩
  have e : ((wideN six : Nat) : Int) - (n : Int) = (m : Int) := by omega
  have m1 : m ≤ 128 := by omega
  rw [hm]
  have E := Lib.hid e
  clear e hm
  go_enter Try.func63, Try.ntmps63
  go_wp2_with fail
  refine (pwidth_calls six _ _ _).mono ?_
  rintro e w1 ⟨rfl, rfl⟩
  go_wp2_with fail
  rw [E.out]
  refine (ones_calls m m1 _).mono ?_
  rintro e w1 ⟨rfl, rfl⟩
  go_wp2
  go_returns
  rw [aH_or x m hx m1, aL_or]
  exact ⟨rfl, rfl⟩
end Go.Proofs.Ytgajepmnklbmpaa
