/-
  The contracts of the document's Check and of layer 3's; for all arrays.
-/
import Derived.Test.YtfhcdhkdcegieaaOwnN
namespace Go.Proofs.Ytfhcdhkdcegieaa
open Go.ChangeShapes Go.WideShapes Go.ChangeAt Go.RowKit
set_option linter.unusedVariables false
end Go.Proofs.Ytfhcdhkdcegieaa
