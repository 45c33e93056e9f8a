/-
  The contracts of the document's look at a cell, and of layer 3's Check and the document's; for all arrays.
-/
import Derived.Test.YtljanfmmhglpiaaDoorOwnJ
import Derived.Test.YtljanfmmhglpiaaDoorRows
import Derived.WalkKit
import Derived.ProofKit
import Derived.Below
import Derived.Deep.OwnRows
import Derived.Deep.QuietTactic
import Derived.BigQuiet
import Derived.Deep.RegionWith
namespace Go.Proofs.YtljanfmmhglpiaaDoor
open Go.ChangeShapes Go.WideShapes Go.ChangeAt Go.RowKit
set_option maxRecDepth 100000
set_option linter.unusedVariables false
theorem cells_at {n lo : Nat} {w : World} {a2 : Option Addr} {cs : List Ce} (hc : cs = [] ∨ ∃ b off, a2 = some ⟨b, off, none⟩ ∧ lo ≤ b ∧ b < w.heap.size ∧
      ∀ i, i < cs.length → ∃ v0 v1 v2, w.cell? ⟨b, off + i * 3, none⟩ = some v0 ∧ w.cell? ⟨b, off + i * 3 + 1, none⟩ = some v1 ∧ w.cell? ⟨b, off + i * 3 + 2, none⟩ = some v2 ∧ CeIn (ArIn n lo w) lo w (cAt cs i) v0 v1 v2) (i : Nat) (hi : i < cs.length) :
    ∃ b off z0 z1 ab nb cb, a2 = some ⟨b, off, none⟩ ∧ ∀ wr, Below w.heap.size w wr → wr.cell? ⟨b, off + i * 3, none⟩ = some (.int .i64 z0) ∧ wr.cell? ⟨b, off + i * 3 + 1, none⟩ = some (.int .i64 z1) ∧ wr.cell? ⟨b, off + i * 3 + 2, none⟩ = some (.slice ab nb cb) ∧ CeIn (ArIn n lo wr) lo wr (cAt cs i) (.int .i64 z0) (.int .i64 z1) (.slice ab nb cb) := by
  rcases hc with hc | ⟨b, off, ha, hlo, hb, hc⟩
  · rw [hc] at hi; simp at hi
  obtain ⟨v0, v1, v2, e0, e1, e2, e3⟩ := hc i hi
  have e4 := e3
  obtain ⟨rfl, rfl, ab, cb, rfl, -⟩ := e4
  exact ⟨b, off, _, _, ab, _, cb, ha, fun wr hw => ⟨(hw.cell (p := ⟨b, off + i * 3, none⟩) hb).trans e0, (hw.cell (p := ⟨b, off + i * 3 + 1, none⟩) hb).trans e1, (hw.cell (p := ⟨b, off + i * 3 + 2, none⟩) hb).trans e2, e3.mono (Nat.le_refl _) hw fun x v h => h.next hw⟩⟩
theorem cell_new0 (w : World) (cs : Array Value) (t : TypeId) (i : Nat) (v : Value) (h : cs[i]? = some v) : (w.alloc (.cells cs t)).cell? ⟨w.heap.size, i, none⟩ = some v := cell_new w cs t (0, 0) i v h
end Go.Proofs.YtljanfmmhglpiaaDoor
