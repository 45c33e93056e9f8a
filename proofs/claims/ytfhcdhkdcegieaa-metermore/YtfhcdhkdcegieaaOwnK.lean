/-
  The contract of the document's Cell; for all cells.
-/
import Derived.Test.YtfhcdhkdcegieaaOwnJ
namespace Go.Proofs.Ytfhcdhkdcegieaa
open Go.ChangeShapes Go.WideShapes Go.ChangeAt Go.RowKit
set_option linter.unusedVariables false
end Go.Proofs.Ytfhcdhkdcegieaa
