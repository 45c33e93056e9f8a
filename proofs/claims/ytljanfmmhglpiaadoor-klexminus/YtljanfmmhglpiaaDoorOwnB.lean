/-
  A slice of integers as a row of numbers; the contracts of layer 3's Size and of the document's: how many cells a shape has, for all shapes.
-/
import Derived.Test.YtljanfmmhglpiaaDoorOwnA
import Derived.Test.YtljanfmmhglpiaaDoorRows
import Derived.WalkKit
import Derived.ProofKit
import Derived.Below
namespace Go.Proofs.YtljanfmmhglpiaaDoor
open Go.ChangeShapes Go.WideShapes Go.ChangeAt Go.RowKit
/-- A slice of integers, as a row of numbers, all of it in blocks from lo on. -/
def Row (lo : Nat) (w : World) (a : Option Addr) (zs : List Int) : Prop :=
  zs.length ≤ 140737488355328 ∧ (zs = [] ∨ ∃ b off, a = some ⟨b, off, none⟩ ∧ lo ≤ b ∧ b < w.heap.size ∧ ∀ i, i < zs.length → w.cell? ⟨b, off + i, none⟩ = some (.int .i64 (zs[i]?.getD 0)))
theorem Row.next {lo : Nat} {w w1 : World} {a : Option Addr} {zs : List Int} (h : Row lo w a zs) (hb : Below w.heap.size w w1) : Row lo w1 a zs := by
  obtain ⟨h2, h3⟩ := h
  refine ⟨h2, ?_⟩
  rcases h3 with h3 | ⟨b, off, ha, hlo, hbb, hc⟩
  · exact Or.inl h3
  · exact Or.inr ⟨b, off, ha, hlo, Nat.lt_of_lt_of_le hbb hb.size, fun i hi => (hb.cell (p := ⟨b, off + i, none⟩) hbb).trans (hc i hi)⟩
theorem Row.low {lo lo' : Nat} {w : World} {a : Option Addr} {zs : List Int} (h : Row lo w a zs) (hl : lo' ≤ lo) : Row lo' w a zs := by
  obtain ⟨h2, h3⟩ := h
  refine ⟨h2, ?_⟩
  rcases h3 with h3 | ⟨b, off, ha, hlo, hbb, hc⟩
  · exact Or.inl h3
  · exact Or.inr ⟨b, off, ha, Nat.le_trans hl hlo, hbb, hc⟩
theorem row_at {lo : Nat} {w : World} {a : Option Addr} {l : List Int} (R : Row lo w a l) {j : Nat} (h : j < l.length) : ∃ b off, a = some ⟨b, off, none⟩ ∧ b < w.heap.size ∧ w.cell? ⟨b, off + j, none⟩ = some (.int .i64 (l[j]?.getD 0)) := by
  rcases R.2 with h0 | ⟨b, off, ha, _, hb, hc⟩
  · subst h0; simp at h
  · exact ⟨b, off, ha, hb, hc j h⟩
theorem retB {a b : Bool} (h : a = b) : Ending.returned (.bool a) = .returned (.bool b) := by rw [h]
theorem retI {k : IntKind} {a b : Int} (h : a = b) : Ending.returned (.int k a) = .returned (.int k b) := by rw [h]
theorem retII {a b c d : Int} (h : a = c ∧ b = d) : Ending.returned (.tuple #[.int .i64 a, .int .i64 b]) = .returned (.tuple #[.int .i64 c, .int .i64 d]) := by rw [h.1, h.2]
theorem min_if (p z : Int) : min p z = if z < p then z else p := by split <;> omega
theorem max_if (q z : Int) : max q z = if q < z then z else q := by split <;> omega
theorem ends_step (l : List Int) (j : Nat) (hlt : j < l.length) : leastL (l.take (j + 1)) = min (leastL (l.take j)) (l[j]?.getD 0) ∧ mostL (l.take (j + 1)) = max (mostL (l.take j)) (l[j]?.getD 0) := by
  unfold leastL mostL
  rw [foldl_snoc _ _ _ _ hlt, foldl_snoc _ _ _ _ hlt]
  simp [hlt]
theorem size_take_bound {l : List Int} (hp : ∀ z ∈ l, 0 < z) (hm : ¬ hasLong l) {j : Nat} (hj : j < l.length) (h : prodL (l.take j) ≤ 16384) : 1 ≤ prodL (l.take j) ∧ 1 ≤ l[j]?.getD 0 ∧ l[j]?.getD 0 ≤ 16384 ∧ 0 ≤ prodL (l.take j) * l[j]?.getD 0 ∧ prodL (l.take j) * l[j]?.getD 0 ≤ 268435456 := by
  have h1 := prodL_pos (l := l.take j) fun z hz => hp z (List.mem_of_mem_take hz)
  have h2 := hp _ (getD_mem hj)
  have h3 : ¬ 16384 < l[j]?.getD 0 := fun h => hm ⟨_, getD_mem hj, h⟩
  have h4 := Int.mul_nonneg (a := prodL (l.take j)) (b := l[j]?.getD 0) (by omega) (by omega)
  have h5 := Int.mul_le_mul (a := prodL (l.take j)) (b := l[j]?.getD 0) (c := 16384) (d := 16384) h (by omega) (by omega) (by omega)
  exact ⟨h1, by omega, by omega, h4, by omega⟩
end Go.Proofs.YtljanfmmhglpiaaDoor
