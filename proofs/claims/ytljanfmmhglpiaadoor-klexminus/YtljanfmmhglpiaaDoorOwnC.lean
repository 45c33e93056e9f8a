/-
  The contracts of layer 3's Place and Places, and of the document's: which cell stands at places, where a cell stands, for all shapes; and of the statements' own comparison of two lists of numbers.
-/
import Derived.Test.YtljanfmmhglpiaaDoorOwnA
import Derived.Test.YtljanfmmhglpiaaDoorRows
import Derived.WalkKit
import Derived.ProofKit
import Derived.Below
namespace Go.Proofs.YtljanfmmhglpiaaDoor
open Go.ChangeShapes Go.WideShapes Go.ChangeAt Go.RowKit
theorem inAxes_iff (l at' : List Int) : inAxes l at' ↔ at'.length = l.length ∧ ∀ i, i < l.length → 0 ≤ at'[i]?.getD 0 ∧ at'[i]?.getD 0 < l[i]?.getD 0 := by
  induction l generalizing at' with
  | nil => cases at' <;> simp [inAxes]
  | cons s ss ih =>
    cases at' with
    | nil => simp [inAxes]
    | cons a ms =>
      simp only [inAxes, ih, List.length_cons]
      constructor
      · rintro ⟨h1, h2, h3⟩
        refine ⟨by omega, ?_⟩
        intro i hi
        cases i with
        | zero => simpa using h1
        | succ i => simpa using h3 i (by omega)
      · rintro ⟨h1, h2⟩
        refine ⟨by simpa using h2 0 (by omega), by omega, ?_⟩
        intro i hi
        simpa using h2 (i + 1) (by omega)
noncomputable instance (l at' : List Int) : Decidable (inAxes l at') := Classical.propDecidable _
theorem place_snoc (l m : List Int) (s a : Int) (h : l.length = m.length) : place (l ++ [s]) (m ++ [a]) = place l m * s + a := by
  induction l generalizing m with
  | nil =>
    cases m with
    | nil => simp [place, prodL]
    | cons y m => simp at h
  | cons x l ih =>
    cases m with
    | nil => simp at h
    | cons y m =>
      simp only [List.cons_append, place, prodL_append, ih m (by simpa using h), prodL]
      rw [Int.add_mul, Int.mul_one, Int.mul_assoc]
      omega
theorem place_take (l m : List Int) (h : m.length = l.length) (j : Nat) (hj : j < l.length) : place (l.take (j + 1)) (m.take (j + 1)) = place (l.take j) (m.take j) * l[j]?.getD 0 + m[j]?.getD 0 := by
  rw [List.take_succ_eq_append_getElem hj, List.take_succ_eq_append_getElem (l := m) (by omega), place_snoc _ _ _ _ (by simp; omega)]
  simp [hj, h]
theorem inAxes_take {l m : List Int} (h : m.length = l.length) {j : Nat} (hj : j ≤ l.length) (hi : ∀ i, i < j → 0 ≤ m[i]?.getD 0 ∧ m[i]?.getD 0 < l[i]?.getD 0) : inAxes (l.take j) (m.take j) := by
  rw [inAxes_iff]
  refine ⟨by simp; omega, ?_⟩
  intro i hi'
  have : i < j := by simp at hi'; omega
  simpa [this] using hi i this
/-- Place's answer. -/
noncomputable def plcV (l m : List Int) : Int := if sizeE l = 0 ∧ inAxes l m then place l m else 0
noncomputable def plcE (l m : List Int) : Int := if sizeE l ≠ 0 then sizeE l else if m.length ≠ l.length then 6 else if inAxes l m then 0 else 8
theorem sizeE_ok {l : List Int} (h : sizeE l = 0) : ¬ 8 < l.length ∧ ¬ hasNeg l ∧ (hasZero l ∨ (¬ hasZero l ∧ prodL l ≤ 16384)) := by
  unfold sizeE at h
  by_cases h8 : 8 < l.length
  · simp [h8] at h
  · by_cases hn : hasNeg l
    · simp [h8, hn] at h
    · by_cases hz : hasZero l
      · exact ⟨h8, hn, Or.inl hz⟩
      · by_cases hm : 16384 < prodL l
        · simp [h8, hn, hz, hm] at h
        · exact ⟨h8, hn, Or.inr ⟨hz, by omega⟩⟩
theorem place_facts {l m : List Int} (hs : sizeE l = 0) (h : m.length = l.length) (hz : ¬ hasZero l) {j : Nat} (hj : j < l.length) (hi : ∀ i, i < j → 0 ≤ m[i]?.getD 0 ∧ m[i]?.getD 0 < l[i]?.getD 0) (h1 : 0 ≤ m[j]?.getD 0) (h2 : m[j]?.getD 0 < l[j]?.getD 0) :
    0 ≤ place (l.take j) (m.take j) ∧ place (l.take j) (m.take j) ≤ 16384 ∧ l[j]?.getD 0 ≤ 16384 ∧ 0 ≤ place (l.take j) (m.take j) * l[j]?.getD 0 ∧ place (l.take j) (m.take j) * l[j]?.getD 0 ≤ 268435456 := by
  obtain ⟨_, hn, h3⟩ := sizeE_ok hs
  have hp := all_pos hn hz
  rcases h3 with h3 | ⟨_, h3⟩
  · exact absurd h3 hz
  · obtain ⟨_, b2, b3, _⟩ := place_bound (inAxes_take h (Nat.le_of_lt hj) hi)
    have b4 := prodL_take_le hp j
    have b5 := prod_of_mem hp (getD_mem hj)
    have b6 := Int.mul_nonneg (a := place (l.take j) (m.take j)) (b := l[j]?.getD 0) b2 (by omega)
    have b7 := Int.mul_le_mul (a := place (l.take j) (m.take j)) (b := l[j]?.getD 0) (c := 16384) (d := 16384) (by omega) (by omega) (by omega) (by omega)
    exact ⟨b2, by omega, by omega, b6, by omega⟩
theorem plc_out {l m : List Int} (hs : sizeE l = 0) (h : m.length = l.length) {j : Nat} (hj : j < l.length) (ho : m[j]?.getD 0 < 0 ∨ l[j]?.getD 0 ≤ m[j]?.getD 0) : plcV l m = 0 ∧ plcE l m = 8 := by
  have : ¬ inAxes l m := by
    intro hx
    have := ((inAxes_iff l m).1 hx).2 j hj
    omega
  simp [plcV, plcE, hs, h, this]
theorem plc_in {l m : List Int} (hs : sizeE l = 0) (h : m.length = l.length) (hi : ∀ i, i < l.length → 0 ≤ m[i]?.getD 0 ∧ m[i]?.getD 0 < l[i]?.getD 0) : plcV l m = place l m ∧ plcE l m = 0 ∧ ¬ hasZero l := by
  have : inAxes l m := (inAxes_iff l m).2 ⟨h, hi⟩
  refine ⟨by simp [plcV, hs, this], by simp [plcE, hs, h, this], ?_⟩
  rintro ⟨z, hz, rfl⟩
  obtain ⟨k, hk, e⟩ := mem_getD hz
  have := hi k hk
  omega
theorem plc_len {l m : List Int} (hs : sizeE l = 0) (h : ¬ m.length = l.length) : plcV l m = 0 ∧ plcE l m = 6 := by
  refine ⟨?_, by simp [plcE, hs, h]⟩
  unfold plcV
  rw [if_neg]
  rintro ⟨_, hx⟩
  exact h ((inAxes_iff l m).1 hx).1
theorem plc_bad {l m : List Int} (hs : ¬ sizeE l = 0) : plcV l m = 0 ∧ plcE l m = sizeE l := ⟨by simp [plcV, hs], by simp [plcE, hs]⟩
end Go.Proofs.YtljanfmmhglpiaaDoor
