/-
  The contracts of layer 3's Cmp and Cell, and of the comparison of numbers and of things one by one that they rest on; for all arrays and cells.
-/
import Derived.Test.YtfhcdhkdcegieaaOwnF
import Derived.Test.YtfhcdhkdcegieaaOwnD
namespace Go.Proofs.Ytfhcdhkdcegieaa
open Go.ChangeShapes Go.WideShapes Go.ChangeAt Go.RowKit
end Go.Proofs.Ytfhcdhkdcegieaa
