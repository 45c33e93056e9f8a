/-
  The contract of layer 3's Cmp and Same; for all arrays.
-/
import Derived.Test.YtljanfmmhglpiaaDoorOwnF
import Derived.Test.YtljanfmmhglpiaaDoorRows
import Derived.WalkKit
import Derived.ProofKit
import Derived.Below
import Derived.Deep.OwnRows
import Derived.Deep.QuietTactic
import Derived.BigQuiet
import Derived.Deep.RegionWith
namespace Go.Proofs.YtljanfmmhglpiaaDoor
open Go.ChangeShapes Go.WideShapes Go.ChangeAt Go.RowKit
set_option maxRecDepth 100000
set_option linter.unusedVariables false
theorem cell_new (w : World) (cs : Array Value) (t : TypeId) (fr : Nat × Nat) (i : Nat) (v : Value) (h : cs[i]? = some v) : (w.alloc (.cells cs t fr)).cell? ⟨w.heap.size, i, none⟩ = some v := by
  have : (w.alloc (.cells cs t fr)).heap[w.heap.size]? = some (.cells cs t fr) := by
    show (w.heap.push _)[w.heap.size]? = _
    simp
  unfold World.cell?
  simp only [this, h]
  rfl
theorem cell_new1 (w : World) (cs : Array Value) (t : TypeId) (fr : Nat × Nat) (o2 : Obj) (i : Nat) (v : Value) (h : cs[i]? = some v) : ((w.alloc (.cells cs t fr)).alloc o2).cell? ⟨w.heap.size, i, none⟩ = some v :=
  (((Below.refl _ _).alloc (Nat.le_refl _) o2).cell (p := ⟨w.heap.size, i, none⟩) (by simp)).trans (cell_new w cs t fr i v h)
theorem cell_new2 (w : World) (cs : Array Value) (t : TypeId) (fr : Nat × Nat) (o1 : Obj) (i : Nat) (v : Value) (h : cs[i]? = some v) : ((w.alloc o1).alloc (.cells cs t fr)).cell? ⟨w.heap.size + 1, i, none⟩ = some v := by
  have := cell_new (w.alloc o1) cs t fr i v h
  simpa using this
theorem size_two (w : World) (o1 o2 : Obj) : ((w.alloc o1).alloc o2).heap.size = w.heap.size + 2 := by simp
end Go.Proofs.YtljanfmmhglpiaaDoor
