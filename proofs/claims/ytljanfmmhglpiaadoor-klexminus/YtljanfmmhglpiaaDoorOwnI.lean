/-
  The contracts of layer 3's Cmp and Cell, one in the other; for all arrays and cells.
-/
import Derived.Test.YtljanfmmhglpiaaDoorOwnF
import Derived.Test.YtljanfmmhglpiaaDoorRows
import Derived.WalkKit
import Derived.ProofKit
import Derived.Below
import Derived.Deep.OwnRows
import Derived.Deep.QuietTactic
import Derived.BigQuiet
import Derived.Deep.RegionWith
namespace Go.Proofs.YtljanfmmhglpiaaDoor
open Go.ChangeShapes Go.WideShapes Go.ChangeAt Go.RowKit
set_option maxRecDepth 100000
set_option linter.unusedVariables false
/-- What a comparison of arrays promises. -/
def CmpC (k n : Nat) : Prop := ∀ x y lo lo' va vb w, ArIn n lo w x va → ArIn n lo' w y vb → Calls Tryd.prog k #[va, vb] w fun e w' => e = .returned (.int .i64 (cmpA n x y)) ∧ Below w.heap.size w w'
theorem two_allocs (w : World) (o1 o2 : Obj) : Below w.heap.size w ((w.alloc o1).alloc o2) := ((Below.refl _ _).alloc (Nat.le_refl _) _).alloc (by simp) _
theorem cell_two {w : World} {b off : Nat} {v : Value} (h : w.cell? ⟨b, off, none⟩ = some v) (hb : b < w.heap.size) (o1 o2 : Obj) : ((w.alloc o1).alloc o2).cell? ⟨b, off, none⟩ = some v :=
  ((two_allocs w o1 o2).cell (p := ⟨b, off, none⟩) hb).trans h
theorem cmp3_self (a : Int) : cmp3 a a = 0 := by simp [cmp3]
theorem cmp3_ne {a b : Int} : cmp3 a b ≠ 0 ↔ a ≠ b := by
  unfold cmp3
  constructor
  · intro h e; subst e; simp at h
  · intro h
    by_cases h1 : a < b
    · simp [h1]
    · have : b < a := by omega
      simp [h1, this]
end Go.Proofs.YtljanfmmhglpiaaDoor
