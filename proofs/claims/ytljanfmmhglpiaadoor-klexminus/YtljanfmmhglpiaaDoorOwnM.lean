/-
  The contracts of what layer 3's Check and the document's rest on: whether there is a sign of a number, and whether a cell may be; for all numbers and cells.
-/
import Derived.Test.YtljanfmmhglpiaaDoorOwnF
import Derived.Test.YtljanfmmhglpiaaDoorRows
import Derived.WalkKit
import Derived.ProofKit
import Derived.Below
import Derived.Deep.OwnRows
import Derived.Deep.QuietTactic
import Derived.BigQuiet
import Derived.Deep.RegionWith
namespace Go.Proofs.YtljanfmmhglpiaaDoor
open Go.ChangeShapes Go.WideShapes Go.ChangeAt Go.RowKit
set_option maxRecDepth 100000
set_option linter.unusedVariables false
def Good (z : Int) : Prop := (0 ≤ z ∧ z < 55296) ∨ (57343 < z ∧ z < 1114112)
instance (z : Int) : Decidable (Good z) := inferInstanceAs (Decidable (_ ∨ _))
set_option maxHeartbeats 1000000 in
theorem validRune_any (z : Int) (w : World) : Calls Tryd.prog 69 #[.int .i32 z] w fun e w' => e = .returned (.bool (decide (Good z))) ∧ w' = w := by
  by_cases h1 : z < 0
  · have hr : decide (Good z) = false := decide_eq_false (by unfold Good; omega)
    rw [hr]
    clear hr
    have : ¬ 0 ≤ z := by omega
    have : ¬ 57343 < z := by omega
    go_enter Tryd.func69, Tryd.ntmps69
    go_wp2
    go_ret
    exact ⟨rfl, rfl⟩
  · have h1' : 0 ≤ z := by omega
    clear h1
    by_cases h2 : z < 55296
    · have hr : decide (Good z) = true := decide_eq_true (by unfold Good; omega)
      rw [hr]
      clear hr
      go_enter Tryd.func69, Tryd.ntmps69
      go_wp2
      go_ret
      exact ⟨rfl, rfl⟩
    · by_cases h3 : 57343 < z
      · by_cases h4 : z ≤ 1114111
        · have hr : decide (Good z) = true := decide_eq_true (by unfold Good; omega)
          rw [hr]
          clear hr
          go_enter Tryd.func69, Tryd.ntmps69
          go_wp2
          go_ret
          exact ⟨rfl, rfl⟩
        · have hr : decide (Good z) = false := decide_eq_false (by unfold Good; omega)
          rw [hr]
          clear hr
          go_enter Tryd.func69, Tryd.ntmps69
          go_wp2
          go_ret
          exact ⟨rfl, rfl⟩
      · have hr : decide (Good z) = false := decide_eq_false (by unfold Good; omega)
        rw [hr]
        clear hr
        go_enter Tryd.func69, Tryd.ntmps69
        go_wp2
        go_ret
        exact ⟨rfl, rfl⟩
set_option maxHeartbeats 1000000 in
theorem rgood_any (z : Int) (w : World) : Calls Tryd.prog 10 #[.int .i64 z] w fun e w' => e = .returned (.bool (decide (Good z))) ∧ w' = w := by
  by_cases h1 : z < 0
  · have hr : decide (Good z) = false := decide_eq_false (by unfold Good; omega)
    rw [hr]
    clear hr
    have : ¬ 0 ≤ z := by omega
    have : ¬ 57343 < z := by omega
    go_enter Tryd.func10, Tryd.ntmps10
    go_wp2
    go_ret
    exact ⟨rfl, rfl⟩
  · have h1' : 0 ≤ z := by omega
    clear h1
    by_cases h2 : z < 55296
    · have hr : decide (Good z) = true := decide_eq_true (by unfold Good; omega)
      rw [hr]
      clear hr
      go_enter Tryd.func10, Tryd.ntmps10
      go_wp2
      go_ret
      exact ⟨rfl, rfl⟩
    · by_cases h3 : 57343 < z
      · by_cases h4 : z < 1114112
        · have hr : decide (Good z) = true := decide_eq_true (by unfold Good; omega)
          rw [hr]
          clear hr
          go_enter Tryd.func10, Tryd.ntmps10
          go_wp2
          go_ret
          exact ⟨rfl, rfl⟩
        · have hr : decide (Good z) = false := decide_eq_false (by unfold Good; omega)
          rw [hr]
          clear hr
          go_enter Tryd.func10, Tryd.ntmps10
          go_wp2
          go_ret
          exact ⟨rfl, rfl⟩
      · have hr : decide (Good z) = false := decide_eq_false (by unfold Good; omega)
        rw [hr]
        clear hr
        go_enter Tryd.func10, Tryd.ntmps10
        go_wp2
        go_ret
        exact ⟨rfl, rfl⟩
/-- Whether a cell may be, given the same of the array in its box. -/
def chkC (f : Ar → Int) (c : Ce) : Int :=
  if c.1 = 2 ∧ c.2.1 = 0 ∧ c.2.2.length = 1 then f (bAt c.2.2 0) else if c.2.2.length = 0 ∧ (c.1 = 0 ∨ c.1 = 1 ∧ Good c.2.1) then 0 else 1
def chkF (f : Ar → Int) (x : Ar) (i : Nat) : Int := chkC f (cAt x.cells i)
/-- Whether an array may be, given the same of the arrays in its boxes. -/
def chkB (f : Ar → Int) (x : Ar) : Int :=
  if sizeE x.shape ≠ 0 then sizeE x.shape else if sizeV x.shape ≠ x.cells.length then 1 else if hasLong x.shape then 12 else firstUp (chkF f x) x.cells.length
/-- Whether an array may be that may bear so many boxes within one another. -/
def chkA : Nat → Ar → Int
  | 0, x => chkB (fun _ => 15) x
  | r + 1, x => chkB (chkA r) x
/-- What the look into the next box promises. -/
def InnerC (k n B : Nat) (f : Ar → Int) : Prop := B ≤ 8 ∧ (B = 8 → f = fun _ => 15) ∧ (B < 8 → ∀ y lo vb w, ArIn n lo w y vb → Calls Tryd.prog k #[vb, .int .i64 ((B : Int) + 1)] w fun e w' => e = .returned (.int .i64 (f y)) ∧ Below w.heap.size w w')
theorem one_alloc (w : World) (o : Obj) : Below w.heap.size w (w.alloc o) := (Below.refl _ _).alloc (Nat.le_refl _) _
theorem cell_one {w : World} {b off : Nat} {v : Value} (h : w.cell? ⟨b, off, none⟩ = some v) (hb : b < w.heap.size) (o : Obj) : (w.alloc o).cell? ⟨b, off, none⟩ = some v :=
  ((one_alloc w o).cell (p := ⟨b, off, none⟩) hb).trans h
end Go.Proofs.YtljanfmmhglpiaaDoor
