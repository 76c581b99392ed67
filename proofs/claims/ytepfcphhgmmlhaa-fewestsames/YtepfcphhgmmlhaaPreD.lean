/-
  Contracts of pre.Covers.
-/
import Derived.Test.YtepfcphhgmmlhaaPreBothC
namespace Go.Proofs.Ytepfcphhgmmlhaa
open Go.RowKit
set_option linter.unusedVariables false
set_option linter.unusedSimpArgs false

end Go.Proofs.Ytepfcphhgmmlhaa
