/-
  addr.Bit, where there is such a bit, and where there is none.
-/
import Derived.Test.YtnmocjlleejijaaBit
namespace Go.Proofs.Ytnmocjlleejijaa
open Go.RowKit
set_option linter.unusedVariables false
set_option linter.unusedSimpArgs false

/-- addr.Bit, where there is such a bit. -/
theorem bit_in (six : Bool) (hi lo i : Int) (h0 : 0 ≤ hi) (h1 : hi ≤ 18446744073709551615) (l0 : 0 ≤ lo) (l1 : lo ≤ 18446744073709551615) (hm : mayB six hi lo = true) (i0 : 0 ≤ i) (i1 : i < wideB six) (w : World) :
    Calls Try.prog 11 #[.agg #[.bool six, .int .u64 hi, .int .u64 lo], .int .i64 i] w fun e w' => e = .returned (.tuple #[.int .i64 (bitAt six hi lo i.toNat), .int .i64 0]) ∧ Below w.heap.size w w' := by
  have h := bit_calls six hi lo i h0 h1 l0 l1 w
  have e1 : bitV six hi lo i = bitAt six hi lo i.toNat := by unfold bitV; rw [if_pos ⟨hm, i0, i1⟩]
  have e2 : bitE six hi lo i = 0 := by unfold bitE; rw [if_pos hm, if_pos ⟨i0, i1⟩]
  rw [e1, e2] at h
  exact h
theorem bit_out (six : Bool) (hi lo i : Int) (h0 : 0 ≤ hi) (h1 : hi ≤ 18446744073709551615) (l0 : 0 ≤ lo) (l1 : lo ≤ 18446744073709551615) (hm : mayB six hi lo = true) (i1 : wideB six ≤ i) (w : World) :
    Calls Try.prog 11 #[.agg #[.bool six, .int .u64 hi, .int .u64 lo], .int .i64 i] w fun e w' => e = .returned (.tuple #[.int .i64 0, .int .i64 2]) ∧ Below w.heap.size w w' := by
  have h := bit_calls six hi lo i h0 h1 l0 l1 w
  have e1 : bitV six hi lo i = 0 := by unfold bitV; rw [if_neg (by omega)]
  have e2 : bitE six hi lo i = 2 := by unfold bitE; rw [if_pos hm, if_neg (by omega)]
  rw [e1, e2] at h
  exact h
theorem bitAt_01 (six : Bool) (hi lo : Int) (j : Nat) : bitAt six hi lo j = 0 ∨ bitAt six hi lo j = 1 := by
  unfold bitAt
  repeat' split
  all_goals exact bitW_01 _ _
end Go.Proofs.Ytnmocjlleejijaa
