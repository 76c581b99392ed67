/-
  Contract of whipcordkeep.AddrOf.
-/
import Derived.Test.YtmjlmfbceccjdaaG3
namespace Go.Proofs.Ytmjlmfbceccjdaa
open Go.RowKit
set_option linter.unusedVariables false
set_option linter.unusedSimpArgs false

/-- What AddrOf makes of raw numbers. -/
def ofH (six : Bool) (hi : Int) : Int := if six then hi else 0
def ofL (six : Bool) (lo : Int) : Int := if six then lo else lo % 4294967296
theorem of_ok (six : Bool) (hi lo : Int) (h0 : 0 ≤ hi) (h1 : hi ≤ 18446744073709551615) (l0 : 0 ≤ lo) (l1 : lo ≤ 18446744073709551615) :
    0 ≤ ofH six hi ∧ ofH six hi ≤ 18446744073709551615 ∧ 0 ≤ ofL six lo ∧ ofL six lo ≤ 18446744073709551615 ∧ mayB six (ofH six hi) (ofL six lo) = true := by
  cases six
  · simp [ofH, ofL, mayB]; omega
  · simp [ofH, ofL, mayB]; omega

end Go.Proofs.Ytmjlmfbceccjdaa
