/-
  The contract of Prod of layer 1: the product of the numbers if it fits, else 0 and ErrOverflow; memory stays as it was; conditions: the numbers fit int64, and there are at most 2^47 of them.
-/
import Derived.Test.YtkigfmfegldhcaaDoorNumC
namespace Go.Proofs.YtkigfmfegldhcaaDoor.Num
open Go.ChangeShapes Go.WideShapes Go.ChangeAt Go.RowKit
theorem row_at {w : World} {a : Option Addr} {zs : List Int} (h : Row w a zs) {k : Nat} (hk : k < zs.length) : ∃ b off, a = some ⟨b, off, none⟩ ∧ b < w.heap.size ∧ w.cell? ⟨b, off + k, none⟩ = some (.int .i64 (zs[k]?.getD 0)) := by
  obtain ⟨_, _, h⟩ := h
  rcases h with rfl | ⟨b, off, ha, hb, hc⟩
  · simp at hk
  · exact ⟨b, off, ha, hb, by rw [hc k hk, List.getD_eq_getElem?_getD]⟩
theorem retB {a b : Bool} (h : a = b) : Ending.returned (.bool a) = .returned (.bool b) := by rw [h]
def hasZ (zs : List Int) : Bool := zs.any (fun z => decide (z = 0))
theorem hasZ_yes {zs : List Int} {k : Nat} (hk : k < zs.length) (h : zs[k]?.getD 0 = 0) : hasZ zs = true := by
  simp only [hasZ, List.any_eq_true, decide_eq_true_eq]
  exact ⟨zs[k], List.getElem_mem hk, by simpa [hk] using h⟩
theorem hasZ_no {zs : List Int} (h : ∀ j, j < zs.length → zs[j]?.getD 0 ≠ 0) : hasZ zs = false := by
  simp only [hasZ, List.any_eq_false, decide_eq_true_eq]
  intro z hz e
  obtain ⟨j, hj, rfl⟩ := List.getElem_of_mem hz
  exact h j hj (by simpa [hj] using e)
def prodL : List Int → Int
  | [] => 1
  | x :: l => x * prodL l
theorem prodL_append (l m : List Int) : prodL (l ++ m) = prodL l * prodL m := by
  induction l with
  | nil => simp [prodL]
  | cons x l ih => simp [prodL, ih, Int.mul_assoc]
theorem take_prod (zs : List Int) (k : Nat) (h : k < zs.length) : prodL (zs.take (k + 1)) = prodL (zs.take k) * zs[k]?.getD 0 := by
  rw [List.take_succ_eq_append_getElem h, prodL_append]
  simp [h, prodL]
theorem prod_zero {zs : List Int} (h : hasZ zs = true) : prodL zs = 0 := by
  induction zs with
  | nil => simp [hasZ] at h
  | cons x l ih =>
    simp only [hasZ, List.any_cons, Bool.or_eq_true, decide_eq_true_eq] at h
    rcases h with h | h
    · simp [prodL, h]
    · have := ih h
      simp [prodL, this]
theorem prod_ne {zs : List Int} (h : hasZ zs = false) : prodL zs ≠ 0 := by
  induction zs with
  | nil => simp [prodL]
  | cons x l ih =>
    simp only [hasZ, List.any_cons, Bool.or_eq_false_iff, decide_eq_false_iff_not] at h
    exact Int.mul_ne_zero h.1 (ih h.2)
theorem hasZ_append (l m : List Int) : hasZ (l ++ m) = (hasZ l || hasZ m) := by simp [hasZ]
theorem hasZ_take {zs : List Int} (h : hasZ zs = false) (k : Nat) : hasZ (zs.take k) = false ∧ hasZ (zs.drop k) = false := by
  have e : hasZ (zs.take k ++ zs.drop k) = false := by rw [List.take_append_drop]; exact h
  rw [hasZ_append] at e
  simpa using e
theorem hasZ_get {zs : List Int} (h : hasZ zs = false) {k : Nat} (hk : k < zs.length) : zs[k]?.getD 0 ≠ 0 := by
  intro e
  rw [hasZ_yes hk e] at h
  cases h
/-- Without a nought a product's size never shrinks. -/
theorem prod_grows {zs : List Int} (h : hasZ zs = false) (k : Nat) : (prodL (zs.take k)).natAbs ≤ (prodL zs).natAbs := by
  have e : prodL zs = prodL (zs.take k) * prodL (zs.drop k) := by rw [← prodL_append, List.take_append_drop]
  have h2 := prod_ne (hasZ_take h k).2
  rw [e, Int.natAbs_mul]
  exact Nat.le_mul_of_pos_right _ (by omega)
theorem neg_mul_iff {p z : Int} (hp : p ≠ 0) (hz : z ≠ 0) : (!(decide (p < 0) == decide (z < 0))) = decide (p * z < 0) := by
  rcases Int.lt_or_gt_of_ne hp with h1 | h1 <;> rcases Int.lt_or_gt_of_ne hz with h2 | h2
  · have := Int.mul_pos_of_neg_of_neg h1 h2
    have n : ¬ p * z < 0 := by omega
    simp [h1, h2, n]
  · have := Int.mul_neg_of_neg_of_pos h1 h2
    have n : ¬ z < 0 := by omega
    simp [h1, n, this]
  · have := Int.mul_neg_of_pos_of_neg h1 h2
    have n : ¬ p < 0 := by omega
    simp [h2, n, this]
  · have := Int.mul_pos h1 h2
    have n : ¬ p < 0 := by omega
    have n2 : ¬ z < 0 := by omega
    have n3 : ¬ p * z < 0 := by omega
    simp [n, n2, n3]
theorem sgd_self (p : Int) : sgdI (p.natAbs : Int) (decide (p < 0)) = p := by
  unfold sgdI
  by_cases h : p < 0
  · simp [h]; omega
  · simp [h]; omega
end Go.Proofs.YtkigfmfegldhcaaDoor.Num
