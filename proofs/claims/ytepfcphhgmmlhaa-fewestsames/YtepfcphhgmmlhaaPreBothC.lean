/-
  Contracts of pre.checkBoth.
-/
import Derived.Test.YtepfcphhgmmlhaaG6
namespace Go.Proofs.Ytepfcphhgmmlhaa
open Go.RowKit
set_option linter.unusedVariables false
set_option linter.unusedSimpArgs false

/-- What checkBoth answers. -/
def bothE (s1 : Bool) (x : Nat) (n : Int) (s2 : Bool) (y : Nat) (m : Int) : Int := if chkE s1 x n = 0 then (if chkE s2 y m = 0 then (if s1 = s2 then 0 else 6) else chkE s2 y m) else chkE s1 x n

end Go.Proofs.Ytepfcphhgmmlhaa
