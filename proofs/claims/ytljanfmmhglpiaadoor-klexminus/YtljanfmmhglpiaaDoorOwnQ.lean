/-
  The contracts of layer 3's Atom and of the document's, and of layer 3's trial run: it answers true.
-/
import Derived.Test.YtljanfmmhglpiaaDoorOwnP
import Derived.Test.YtljanfmmhglpiaaDoorRows
import Derived.WalkKit
import Derived.ProofKit
import Derived.Below
import Derived.Deep.OwnRows
import Derived.Deep.QuietTactic
import Derived.BigQuiet
import Derived.Deep.RegionWith
import Derived.Laws.MakeOwn
import Derived.Deep.RegionHeld3
namespace Go.Proofs.YtljanfmmhglpiaaDoor
open Go.ChangeShapes Go.WideShapes Go.ChangeAt Go.RowKit
set_option maxRecDepth 100000
set_option linter.unusedVariables false
theorem row_nil (lo : Nat) (w : World) (a : Option Addr) : Row lo w a [] := ⟨by simp, Or.inl rfl⟩
theorem row_new (w : World) (zs : List Int) (e : TypeId) (m : Nat × Nat) (hz : zs.length ≤ 140737488355328) : Row w.heap.size (w.alloc (.cells (zs.map (Value.int .i64)).toArray e m)) (some ⟨w.heap.size, 0, none⟩) zs := by
  refine ⟨hz, Or.inr ⟨_, _, rfl, Nat.le_refl _, by simp, ?_⟩⟩
  intro i hi
  refine cell_new w _ e m (0 + i) _ ?_
  simp [List.getElem?_eq_getElem hi]
theorem atom_cells (n : Nat) (z : Int) (w : World) (o : Obj) : ArIn (n + 1) w.heap.size ((w.alloc o).alloc (.cells #[.int .i64 0, .int .i64 z, .slice none 0 0] 42)) (atomA z) (.agg #[.slice none 0 0, .slice (some ⟨w.heap.size + 1, 0, none⟩) 1 1]) := by
  refine arIn_mk (x := atomA z) (row_nil _ _ _) (by simp [atomA, Ar.cells, numCs]) ?_ rfl (by simp [atomA, Ar.cells, numCs])
  refine Or.inr ⟨w.heap.size + 1, 0, rfl, by omega, by simp, ?_⟩
  intro i hi
  have : i = 0 := by simpa [atomA, Ar.cells, numCs] using hi
  subst this
  refine ⟨_, _, _, cell_new2 w #[.int .i64 0, .int .i64 z, .slice none 0 0] 42 (0, 0) o 0 _ rfl, cell_new2 w #[.int .i64 0, .int .i64 z, .slice none 0 0] 42 (0, 0) o 1 _ rfl, cell_new2 w #[.int .i64 0, .int .i64 z, .slice none 0 0] 42 (0, 0) o 2 _ rfl, rfl, rfl, none, 0, rfl, by simp [atomA, Ar.cells, numCs, cAt], Or.inl rfl⟩
set_option maxHeartbeats 1000000 in
theorem atom_any (n : Nat) (z : Int) (w : World) : Calls Tryd.prog 33 #[.int .i64 z] w fun e w' => GivesA (n + 1) (atomA z) w e w' := by
  go_enter Tryd.func33, Tryd.ntmps33
  go_wp2
  exact bodyPost_ret (v := .agg #[.slice none 0 0, .slice (some ⟨w.heap.size + 1, 0, none⟩) 1 1]) (by simp [results, Tryd.results33, go_sem]) rfl ⟨⟨_, rfl, atom_cells n z w _⟩, two_allocs _ _ _⟩
theorem nums_at (n : Nat) (l : List Int) (k : Nat) (hk : l.length = k) {lo : Nat} (a : Option Addr) (cap : Nat) (w : World) (R : Row lo w a l) (hl : l.length ≤ 5864062014805) :
    Calls Tryd.prog 34 #[.slice a k cap] w fun e w' => GivesA (n + 1) (numsA l) w e w' := by
  subst hk
  exact nums_any n l a cap w R hl
theorem plc_works : plcV [2, 3] [1, 2] = 5 ∧ plcE [2, 3] [1, 2] = 0 := by
  have h : inAxes [2, 3] [1, 2] := by simp [inAxes]
  have s : sizeE [2, 3] = 0 := by decide
  refine ⟨?_, by simp [plcE, s, h]⟩
  unfold plcV
  rw [if_pos ⟨s, h⟩]
  rfl
theorem chk_works : chkA 8 (numsA [1, 2]) = 0 := by
  have h1 : sizeE [2] = 0 := by decide
  have h2 : sizeV [2] = 2 := by decide
  have h3 : ¬ hasLong [2] := by decide
  simp [chkA, chkB, numsA, Ar.shape, Ar.cells, numCs, h1, h2, h3, firstUp, chkF, chkC, cAt]
theorem chk_works2 : chkA 8 (.mk [3] []) = 1 := by
  have h1 : sizeE [3] = 0 := by decide
  have h2 : sizeV [3] = 3 := by decide
  simp [chkA, chkB, Ar.shape, Ar.cells, h1, h2]
theorem cmp_works : cmpA 1 (numsA [1, 2]) (atomA 5) = 1 := by
  simp [cmpA, numsA, atomA, Ar.shape, cmp3]
end Go.Proofs.YtljanfmmhglpiaaDoor
