/-
  The contract of the document's Cmp and Same; for all arrays.
-/
import Derived.Test.YtfhcdhkdcegieaaOwnK
namespace Go.Proofs.Ytfhcdhkdcegieaa
open Go.ChangeShapes Go.WideShapes Go.ChangeAt Go.RowKit
set_option linter.unusedVariables false
theorem hide {p : Prop} (h : p) : Hid p := h
theorem firstUp_zero {f : Nat → Int} {m : Nat} (h : firstUp f m = 0) (j : Nat) (hj : j ≤ m) : firstUp f j = 0 :=
  Decidable.byContradiction fun h' => h' (by rw [← firstUp_stays h' m hj]; exact h)
end Go.Proofs.Ytfhcdhkdcegieaa
