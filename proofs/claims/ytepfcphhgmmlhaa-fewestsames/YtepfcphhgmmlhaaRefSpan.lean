/-
  Contract of the document's PreSpan.
-/
import Derived.Test.YtepfcphhgmmlhaaG6
namespace Go.Proofs.Ytepfcphhgmmlhaa
open Go.RowKit
set_option linter.unusedVariables false
set_option linter.unusedSimpArgs false

/-- The bits from n on, k of them, are 1. -/
def upF (six : Bool) (x n k : Nat) (j : Nat) : Bool := decide (n ≤ j ∧ j < n + k) || fB six x j
end Go.Proofs.Ytepfcphhgmmlhaa
