/-
  The contracts of layer 3's Places and of the document's: where a cell stands, axis by axis, in memory of its own; for all shapes and numbers.
-/
import Derived.Test.YtljanfmmhglpiaaDoorOwnD
import Derived.Test.YtljanfmmhglpiaaDoorRows
import Derived.WalkKit
import Derived.ProofKit
import Derived.Below
import Derived.Deep.OwnRows
import Derived.Deep.QuietTactic
import Derived.BigQuiet
namespace Go.Proofs.YtljanfmmhglpiaaDoor
open Go.ChangeShapes Go.WideShapes Go.ChangeAt Go.RowKit
theorem places_bad {l : List Int} {n : Int} {w w' : World} (hs : ¬ sizeE l = 0) (hb : Below w.heap.size w w') : PlacesIs l n w (.returned (.tuple #[.slice none 0 0, .int .i64 (sizeE l)])) w' :=
  ⟨hb, fun _ => rfl, fun h => absurd h hs, fun h => absurd h hs⟩
theorem places_out {l : List Int} {n : Int} {w w' : World} (hs : sizeE l = 0) (ho : ¬ (0 ≤ n ∧ n < sizeV l)) (hb : Below w.heap.size w w') : PlacesIs l n w (.returned (.tuple #[.slice none 0 0, .int .i64 8])) w' :=
  ⟨hb, fun h => absurd hs h, fun _ _ => rfl, fun _ h1 h2 => absurd ⟨h1, h2⟩ ho⟩
theorem places_in {l : List Int} {n : Int} {w w' : World} (hs : sizeE l = 0) (h0 : 0 ≤ n) (h1 : n < sizeV l) (hb : Below w.heap.size w w') (f : Nat → Value) (hr : w'.rowIs w.heap.size 3 l.length f) (hf : ∀ i, i < l.length → f i = .int .i64 ((digits l n)[i]?.getD 0)) : PlacesIs l n w (.returned (.tuple #[.slice (some ⟨w.heap.size, 0, none⟩) l.length l.length, .int .i64 0])) w' := by
  obtain ⟨a, b, c, d⟩ := sizeV_in hs h0 h1
  exact ⟨hb, fun h => absurd hs h, fun _ h => absurd ⟨h0, h1⟩ h, fun _ _ _ => ⟨_, rfl, row_made hr (digits_length l n) (Nat.le_refl _) (by omega) hf, b, by omega⟩⟩
theorem cell_apart {w : World} {p q : Addr} {v : Value} (h : p.block ≠ q.block) (x : Value) (hc : w.cell? p = some v) : (w.setCell q x).cell? p = some v := by
  rw [World.cell?_of_block (w := w) (Below.heap_setCell w q x p.block h)]
  exact hc
end Go.Proofs.YtljanfmmhglpiaaDoor
