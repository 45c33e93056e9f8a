/-
  The contracts of layer 3's Deep and of the document's: how many boxes lie within one another; for all arrays that are thin.
-/
import Derived.Test.YtkgpoibnilgaeaaOwnT
import Derived.Test.YtkgpoibnilgaeaaRows
import Derived.WalkKit
import Derived.ProofKit
import Derived.Below
import Derived.Deep.OwnRows
import Derived.Deep.QuietTactic
import Derived.BigQuiet
import Derived.Deep.RegionWith
import Derived.Laws.MakeOwn
import Derived.Deep.RegionHeld3
import Derived.Deep.LoopGhost
namespace Go.Proofs.Ytkgpoibnilgaeaa
open Go.ChangeShapes Go.WideShapes Go.ChangeAt Go.RowKit
set_option linter.unusedVariables false
/-- The greatest of 0 and the first m. -/
def maxUp (f : Nat → Int) : Nat → Int
  | 0 => 0
  | m + 1 => max (maxUp f m) (f m)
def deepF (g : Ar → Int) (x : Ar) (i : Nat) : Int := if 0 < (cAt x.cells i).2.2.length then 1 + g (bAt (cAt x.cells i).2.2 0) else 0
/-- How many boxes lie within one another. -/
def deepA : Nat → Ar → Int
  | 0, _ => 0
  | n + 1, x => maxUp (deepF (deepA n) x) x.cells.length
theorem maxUp_le {f : Nat → Int} {m : Nat} {B : Int} (hB : 0 ≤ B) (h : ∀ i, i < m → f i ≤ B) : maxUp f m ≤ B := by
  induction m with
  | zero => exact hB
  | succ m ih =>
    have := ih fun i hi => h i (by omega)
    have := h m (by omega)
    simp only [maxUp]
    omega
theorem maxUp_nonneg (f : Nat → Int) (m : Nat) : 0 ≤ maxUp f m := by
  induction m with
  | zero => simp [maxUp]
  | succ m ih => simp only [maxUp]; omega
theorem deep_nonneg (n : Nat) (x : Ar) : 0 ≤ deepA n x := by
  cases n with
  | zero => simp [deepA]
  | succ n => exact maxUp_nonneg _ _
theorem deep_thin (n d : Nat) (x : Ar) (h : Thin d x) : deepA n x ≤ (d : Int) := by
  induction n generalizing d x with
  | zero => simp [deepA]
  | succ n ih =>
    refine maxUp_le (by omega) fun i hi => ?_
    unfold deepF
    by_cases hb : 0 < (cAt x.cells i).2.2.length
    · rw [if_pos hb]
      cases d with
      | zero => exact (h i hi 0 hb).elim
      | succ d =>
        have := ih d _ (h i hi 0 hb)
        omega
    · rw [if_neg hb]; omega
/-- What the reckoning of the depth promises. -/
def DeepC (k n : Nat) : Prop := ∀ (d : Nat) x lo va w, d ≤ 16 → Thin d x → ArIn n lo w x va → Calls Try.prog k #[va] w fun e w' => e = .returned (.int .i64 (deepA n x)) ∧ Below w.heap.size w w'
theorem deep_cells {k n lo d : Nat} {w : World} {x : Ar} {a2 : Option Addr} (IH : DeepC k n) (hd : d ≤ 16) (ht : Thin d x) (hc : CellsIn n lo w x.cells a2) (i : Nat) (hi : i < x.cells.length) :
    ∃ b off z0 z1 ab nb cb, a2 = some ⟨b, off, none⟩ ∧ (∀ wr, Below w.heap.size w wr → wr.cell? ⟨b, off + i * 3, none⟩ = some (.int .i64 z0) ∧ wr.cell? ⟨b, off + i * 3 + 1, none⟩ = some (.int .i64 z1) ∧ wr.cell? ⟨b, off + i * 3 + 2, none⟩ = some (.slice ab nb cb)) ∧ nb ≤ 5864062014805 ∧
      (nb = 0 → deepF (deepA n) x i = 0) ∧ (0 < nb → ∃ bb ob u0 u1 r, ab = some ⟨bb, ob, none⟩ ∧ deepF (deepA n) x i = 1 + r ∧ 0 ≤ r ∧ r ≤ 16 ∧ ∀ wr, Below w.heap.size w wr → wr.cell? ⟨bb, ob, none⟩ = some u0 ∧ wr.cell? ⟨bb, ob + 1, none⟩ = some u1 ∧ Calls Try.prog k #[.agg #[u0, u1]] wr fun e w' => e = .returned (.int .i64 r) ∧ Below wr.heap.size wr w') := by
  rcases hc with hc | ⟨b, off, ha, hlo, hb, hc⟩
  · rw [hc] at hi; simp at hi
  obtain ⟨v0, v1, v2, e0, e1, e2, rfl, rfl, ab, cb, rfl, hl, hx⟩ := hc i hi
  refine ⟨b, off, _, _, ab, _, cb, ha, fun wr hw => ⟨(hw.cell (p := ⟨b, off + i * 3, none⟩) hb).trans e0, (hw.cell (p := ⟨b, off + i * 3 + 1, none⟩) hb).trans e1, (hw.cell (p := ⟨b, off + i * 3 + 2, none⟩) hb).trans e2⟩, hl, fun h => by unfold deepF; rw [if_neg (by omega)], ?_⟩
  intro hnb
  rcases hx with hx | ⟨bb, ob, rfl, hlo', hbb, hx⟩
  · rw [hx] at hnb; simp at hnb
  obtain ⟨u0, u1, g0, g1, g2⟩ := hx 0 hnb
  simp only [Nat.zero_mul, Nat.add_zero] at g0 g1
  cases d with
  | zero => exact (ht i hi 0 hnb).elim
  | succ d =>
    have ht' : Thin d (bAt (cAt x.cells i).2.2 0) := ht i hi 0 hnb
    refine ⟨bb, ob, u0, u1, deepA n (bAt (cAt x.cells i).2.2 0), rfl, by unfold deepF; rw [if_pos hnb], deep_nonneg _ _, ?_, ?_⟩
    · have := deep_thin n d _ ht'
      omega
    · intro wr hw
      exact ⟨(hw.cell (p := ⟨bb, ob, none⟩) hbb).trans g0, (hw.cell (p := ⟨bb, ob + 1, none⟩) hbb).trans g1, IH d _ lo _ wr (by omega) ht' (g2.next hw)⟩
end Go.Proofs.Ytkgpoibnilgaeaa
