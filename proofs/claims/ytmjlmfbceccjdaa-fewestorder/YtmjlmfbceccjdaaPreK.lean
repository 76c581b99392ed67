/-
  Contracts of whipcordkeep's helpers on prefixes: Wide, PreOf, preSure; AddrOf and addr.Next by the number.
-/
import Derived.Test.YtmjlmfbceccjdaaG4
import Derived.Test.YtmjlmfbceccjdaaNextYes
import Derived.Test.YtmjlmfbceccjdaaG12
namespace Go.Proofs.Ytmjlmfbceccjdaa
open Go.RowKit
set_option linter.unusedVariables false
set_option linter.unusedSimpArgs false

/-- The number of the address that AddrOf makes. -/
def numR (six : Bool) (hi lo : Int) : Nat := numA (ofH six hi) (ofL six lo)
theorem numR_lt (six : Bool) (hi lo : Int) (h0 : 0 ≤ hi) (h1 : hi ≤ 18446744073709551615) (l0 : 0 ≤ lo) (l1 : lo ≤ 18446744073709551615) : numR six hi lo < 2 ^ wideN six := by
  unfold numR numA
  cases six
  · simp [ofH, ofL, wideN]; omega
  · simp [ofH, ofL, wideN]; omega
/-- The length that PreOf picks. -/
def lenR (six : Bool) (n : Int) : Nat := (n % ((wideN six : Nat) + 1 : Int)).toNat
theorem lenR_le (six : Bool) (n : Int) : lenR six n ≤ wideN six := by
  unfold lenR
  have := Int.emod_lt_of_pos n (show (0 : Int) < (wideN six : Nat) + 1 by omega)
  omega
theorem lenR_eq (six : Bool) (n : Int) : n % ((wideN six : Nat) + 1 : Int) = ((lenR six n : Nat) : Int) := by
  unfold lenR
  have := Int.emod_nonneg n (show ((wideN six : Nat) + 1 : Int) ≠ 0 by omega)
  omega

theorem shlr (a j : Nat) (ha : a < 18446744073709551616) : IntKind.u64.wrap ((a : Int) / 2 ^ j * 2 ^ j) = ((lowN a j : Nat) : Int) := by
  have e : (a : Int) / 2 ^ j * 2 ^ j = ((lowN a j : Nat) : Int) := by unfold lowN; simp
  rw [e, wrap_nat64 _ (Nat.lt_of_le_of_lt (lowN_le a j) ha)]
theorem lowN_zero (a : Nat) : lowN a 0 = a := by unfold lowN; omega
theorem lowN_all (a : Nat) (ha : a < 18446744073709551616) : lowN a 64 = 0 := by unfold lowN; omega
theorem aL_shlr (x j : Nat) (hj : j ≤ 64) : IntKind.u64.wrap (aL x / 2 ^ j * 2 ^ j) = aL (lowN x j) := by
  rw [aL_low, Nat.min_eq_left hj]; exact shlr _ _ (by omega)
theorem aH_same (x j : Nat) (hj : j ≤ 64) : aH x = aH (lowN x j) := by
  rw [aH_low, show j - 64 = 0 from by omega, lowN_zero]; rfl
theorem aH_shlr (x j : Nat) (hx : x < 2 ^ 128) (hj : 64 ≤ j) : IntKind.u64.wrap (aH x / 2 ^ (j - 64) * 2 ^ (j - 64)) = aH (lowN x j) := by
  rw [aH_low]; exact shlr _ _ (by omega)
theorem aL_none (x j : Nat) (hj : 64 ≤ j) : 0 = aL (lowN x j) := by
  rw [aL_low, Nat.min_eq_right hj, lowN_all _ (by omega)]; rfl

end Go.Proofs.Ytmjlmfbceccjdaa
