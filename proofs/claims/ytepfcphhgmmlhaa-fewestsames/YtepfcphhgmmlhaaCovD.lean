/-
  pre.Covers of two valid prefixes of one family.
-/
import Derived.Test.YtepfcphhgmmlhaaPreD
namespace Go.Proofs.Ytepfcphhgmmlhaa
open Go.RowKit
set_option linter.unusedVariables false
set_option linter.unusedSimpArgs false
/-- Does the first cover the second? -/
def covD (six : Bool) (x n y m : Nat) : Bool := decide (n ≤ m) && decide (lowN y (wideN six - n) = x)
end Go.Proofs.Ytepfcphhgmmlhaa
