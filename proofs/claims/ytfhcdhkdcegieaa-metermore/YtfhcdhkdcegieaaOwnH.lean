/-
  The contracts of layer 3's Cmp and Cell; for all arrays and cells.
-/
import Derived.Test.YtfhcdhkdcegieaaOwnG
import Derived.Deep.RegionWith
namespace Go.Proofs.Ytfhcdhkdcegieaa
open Go.ChangeShapes Go.WideShapes Go.ChangeAt Go.RowKit
set_option linter.unusedVariables false
end Go.Proofs.Ytfhcdhkdcegieaa
