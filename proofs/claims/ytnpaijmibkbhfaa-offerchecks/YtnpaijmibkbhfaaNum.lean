/-
  Plain definitions and lemmas on the bits of numbers; what a pair of ints returns.
-/
import Derived.Test.YtnpaijmibkbhfaaBase
namespace Go.Proofs.Ytnpaijmibkbhfaa
open Go.RowKit
set_option linter.unusedVariables false
set_option linter.unusedSimpArgs false

/-- How many bits an address has. -/
def wideB (six : Bool) : Int := if six then 128 else 32
/-- The bit with the weight 2^k. -/
def bitW (x : Int) (k : Nat) : Int := x / 2 ^ k % 2
theorem bitW_01 (x : Int) (k : Nat) : bitW x k = 0 ∨ bitW x k = 1 := by unfold bitW; omega
/-- Bit i of an address, counted from the most significant one. -/
def bitAt (six : Bool) (hi lo : Int) (i : Nat) : Int := if six then (if i < 64 then bitW hi (63 - i) else bitW lo (127 - i)) else bitW lo (31 - i)

theorem shrAnd1 (x : Int) (k : Nat) (h0 : 0 ≤ x) (h1 : x ≤ 18446744073709551615) : wrap64 (bits .and .u64 (x / 2 ^ k) 1) = bitW x k := by
  have p0 : (0 : Int) < 2 ^ k := Int.pow_pos (by decide)
  have g0 : 0 ≤ x / 2 ^ k := Int.ediv_nonneg h0 (by omega)
  have g1 : x / 2 ^ k ≤ x := Int.ediv_le_self _ h0
  rw [and_one_u64 _ g0 (by omega)]
  have := bitW_01 x k
  unfold bitW at *
  unfold wrap64
  omega
theorem ret2 {a b c d : Int} {k l : IntKind} (h : a = b) (g : c = d) : Ending.returned (.tuple #[.int k a, .int l c]) = .returned (.tuple #[.int k b, .int l d]) := by rw [h, g]

end Go.Proofs.Ytnpaijmibkbhfaa
