/-
  Contract of pre.cut.
-/
import Derived.Test.YtepfcphhgmmlhaaPreA
namespace Go.Proofs.Ytepfcphhgmmlhaa
open Go.RowKit
set_option linter.unusedVariables false
set_option linter.unusedSimpArgs false

end Go.Proofs.Ytepfcphhgmmlhaa
