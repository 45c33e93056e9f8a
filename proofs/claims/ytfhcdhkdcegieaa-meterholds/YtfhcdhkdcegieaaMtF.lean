/-
  A meter beside other memory; a variable that holds the document's meter.
-/
import Derived.Test.YtfhcdhkdcegieaaMtE
namespace Go.Proofs.Ytfhcdhkdcegieaa
open Go.ChangeShapes Go.WideShapes Go.ChangeAt Go.RowKit
set_option linter.unusedVariables false
set_option maxRecDepth 100000
/-- The document's meter in a variable. -/
structure Rv (w : World) (B : Nat) (U F R : Int) : Prop where
  lt : B < w.heap.size
  c0 : w.cell? ⟨B, 0, none⟩ = some (.int .i64 U)
  c1 : w.cell? ⟨B, 1, none⟩ = some (.int .i64 F)
  c2 : w.cell? ⟨B, 2, none⟩ = some (.int .i64 R)
  f0 : w.frozen? ⟨B, 0, none⟩ = false
  f1 : w.frozen? ⟨B, 1, none⟩ = false
  f2 : w.frozen? ⟨B, 2, none⟩ = false
theorem Rv.block {w w' : World} {B : Nat} {U F R : Int} (h : Rv w B U F R) (hs : w.heap.size ≤ w'.heap.size) (hb : w'.heap[B]? = w.heap[B]?) : Rv w' B U F R := by
  have hc : ∀ i, w'.cell? ⟨B, i, none⟩ = w.cell? ⟨B, i, none⟩ := fun i => World.cell?_of_block (w := w) hb
  have hf : ∀ i, w'.frozen? ⟨B, i, none⟩ = w.frozen? ⟨B, i, none⟩ := fun i => World.frozen?_of_block (w := w) (a := ⟨B, i, none⟩) hb
  exact ⟨Nat.lt_of_lt_of_le h.lt hs, (hc 0).trans h.c0, (hc 1).trans h.c1, (hc 2).trans h.c2, (hf 0).trans h.f0, (hf 1).trans h.f1, (hf 2).trans h.f2⟩
theorem Rv.next {w w' : World} {B B' : Nat} {U F R : Int} (h : Rv w B U F R) (hb : Below B' w w') (hB : B < B') : Rv w' B U F R := h.block hb.size (hb.block B hB)
theorem Rv.other {w : World} {B b i : Nat} {U F R : Int} (h : Rv w B U F R) (hb : b ≠ B) (v : Value) : Rv (w.setCell ⟨b, i, none⟩ v) B U F R := h.block (by simp) (Below.heap_setCell _ _ _ _ (by show B ≠ b; omega))
theorem Mt.other {w : World} {B b i : Nat} {F U R : Int} (h : Mt w b F U R) (hb : B ≠ b) (v : Value) : Mt (w.setCell ⟨B, i, none⟩ v) b F U R := h.block (by simp) (Below.heap_setCell _ _ _ _ (by show b ≠ B; omega))
theorem Rv.put {w : World} {B : Nat} {U F R : Int} (h : Rv w B U F R) (u f r : Int) : Rv (((w.setCell ⟨B, 0, none⟩ (.int .i64 u)).setCell ⟨B, 1, none⟩ (.int .i64 f)).setCell ⟨B, 2, none⟩ (.int .i64 r)) B u f r := by
  refine ⟨by simpa using h.lt, ?_, ?_, ?_, ?_, ?_, ?_⟩
  · rw [World.cell?_setCell_other _ _ _ _ (by simp), World.cell?_setCell_other _ _ _ _ (by simp)]
    exact World.cell?_setCell_same' _ _ _ (by rw [h.c0]; rfl)
  · rw [World.cell?_setCell_other _ _ _ _ (by simp)]
    exact World.cell?_setCell_same' _ _ _ (by rw [World.cell?_setCell_other _ _ _ _ (by simp), h.c1]; rfl)
  · exact World.cell?_setCell_same' _ _ _ (by rw [World.cell?_setCell_other _ _ _ _ (by simp), World.cell?_setCell_other _ _ _ _ (by simp), h.c2]; rfl)
  · exact frozen_set _ _ _ _ (frozen_set _ _ _ _ (frozen_set _ _ _ _ h.f0))
  · exact frozen_set _ _ _ _ (frozen_set _ _ _ _ (frozen_set _ _ _ _ h.f1))
  · exact frozen_set _ _ _ _ (frozen_set _ _ _ _ (frozen_set _ _ _ _ h.f2))
theorem rv_new (w : World) (U F R : Int) : Rv (w.alloc (.cells #[.int .i64 U, .int .i64 F, .int .i64 R] 25)) w.heap.size U F R :=
  ⟨by simp, cell_new0 w _ 25 0 _ rfl, cell_new0 w _ 25 1 _ rfl, cell_new0 w _ 25 2 _ rfl, frozen_new _ _ _ _, frozen_new _ _ _ _, frozen_new _ _ _ _⟩
end Go.Proofs.Ytfhcdhkdcegieaa
