/-
  Where an address goes: goesTo of the keep laws.
-/
import Derived.Test.YtepfcphhgmmlhaaActOwn
import Derived.Test.YtepfcphhgmmlhaaG4
import Derived.Deep.CutBlock
namespace Go.Proofs.Ytepfcphhgmmlhaa
open Go.ChangeShapes Go.WideShapes Go.ChangeAt Go.RowKit Go.Joins
set_option linter.unusedSimpArgs false
set_option linter.unusedVariables false
/-- Where goesTo says an address goes. -/
def goesZ (l : List RT) (s : Bool) (y : Nat) : Int := if lookE l s y = 0 then (lookA l s y).1 else -1
end Go.Proofs.Ytepfcphhgmmlhaa
