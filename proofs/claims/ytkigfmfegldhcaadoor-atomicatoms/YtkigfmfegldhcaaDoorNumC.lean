/-
  The contract of Sum of layer 1: the sum of the numbers if it fits, else 0 and ErrOverflow; memory stays as it was; conditions: the numbers fit int64, and there are at most 2^47 of them.
-/
import Derived.Test.YtkigfmfegldhcaaDoorNumB
namespace Go.Proofs.YtkigfmfegldhcaaDoor.Num
open Go.ChangeShapes Go.WideShapes Go.ChangeAt Go.RowKit
/-- A slice of int64: its numbers fit, and its cells hold them. -/
def Row (w : World) (a : Option Addr) (zs : List Int) : Prop :=
  (∀ z ∈ zs, In64 z) ∧ zs.length ≤ 140737488355328 ∧ (zs = [] ∨ ∃ b off, a = some ⟨b, off, none⟩ ∧ b < w.heap.size ∧ ∀ k, k < zs.length → w.cell? ⟨b, off + k, none⟩ = some (.int .i64 (zs.getD k 0)))
theorem take_sum (zs : List Int) (k : Nat) (h : k < zs.length) : (zs.take (k + 1)).sum = (zs.take k).sum + zs[k]?.getD 0 := by
  rw [List.take_succ_eq_append_getElem h, List.sum_append]
  simp [h]
theorem row_in {w : World} {a : Option Addr} {zs : List Int} (h : Row w a zs) (k : Nat) : In64 (zs[k]?.getD 0) := by
  by_cases hk : k < zs.length
  · simp only [hk, List.getElem?_eq_getElem, Option.getD_some]; exact h.1 _ (List.getElem_mem hk)
  · have : zs[k]? = none := by simp; omega
    rw [this]; constructor <;> decide
theorem wrap_in (n : Int) : In64 (wrap64 n) := by unfold In64 wrap64; omega
/-- The whole is what is held and 2^64 times the rounds. -/
theorem rounds_step {S z r : Int} (hS : S = wrap64 S + 18446744073709551616 * r) (hz : In64 z) : wrap64 (wrap64 S + z) = wrap64 (S + z) ∧ S + z = wrap64 (S + z) + 18446744073709551616 * (r + rnd (wrap64 S + z)) := by
  have hw := wrap_in S
  obtain ⟨h1, h2⟩ := hz
  obtain ⟨h3, h4⟩ := hw
  have e : wrap64 (wrap64 S + z) = wrap64 (S + z) := by
    generalize hT : wrap64 S = T at *
    unfold wrap64
    omega
  refine ⟨e, ?_⟩
  rw [← e]
  generalize wrap64 S = T at *
  unfold rnd wrap64
  split
  · omega
  · split <;> omega
theorem rnd_le (s : Int) : -1 ≤ rnd s ∧ rnd s ≤ 1 := by unfold rnd; split <;> (try split) <;> omega
end Go.Proofs.YtkigfmfegldhcaaDoor.Num
