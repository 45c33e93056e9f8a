/-
  The contracts of layer 3's Cmp and Cell; for all arrays and cells.
-/
import Derived.Test.YtmjncdhahdpplaaOwnG
import Derived.Deep.RegionWith
namespace Go.Proofs.Ytmjncdhahdpplaa
open Go.ChangeShapes Go.WideShapes Go.ChangeAt Go.RowKit
set_option linter.unusedVariables false
end Go.Proofs.Ytmjncdhahdpplaa
