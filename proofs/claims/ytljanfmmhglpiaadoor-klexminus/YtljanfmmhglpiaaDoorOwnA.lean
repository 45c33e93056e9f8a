/-
  The plain mathematics of layer 3's shapes: how many cells a shape has, which cell stands at places, where a cell stands; no program is named.
-/
import Derived.WalkKit
namespace Go.Proofs.YtljanfmmhglpiaaDoor
def prodL : List Int → Int
  | [] => 1
  | z :: r => z * prodL r
theorem prodL_append (l m : List Int) : prodL (l ++ m) = prodL l * prodL m := by
  induction l with
  | nil => simp [prodL]
  | cons x l ih => simp [prodL, ih, Int.mul_assoc]
theorem prodL_pos {l : List Int} (h : ∀ z ∈ l, 0 < z) : 1 ≤ prodL l := by
  induction l with
  | nil => simp [prodL]
  | cons x l ih =>
    have h1 := ih fun z hz => h z (List.mem_cons_of_mem _ hz)
    have h2 := h x List.mem_cons_self
    have := Int.mul_le_mul (a := 1) (b := 1) (c := x) (d := prodL l) (by omega) h1 (by omega) (by omega)
    simpa [prodL] using this
theorem prodL_take_le {l : List Int} (h : ∀ z ∈ l, 0 < z) (k : Nat) : prodL (l.take k) ≤ prodL l := by
  have e := prodL_append (l.take k) (l.drop k)
  rw [List.take_append_drop] at e
  have h1 := prodL_pos (l := l.take k) fun z hz => h z (List.mem_of_mem_take hz)
  have h2 := prodL_pos (l := l.drop k) fun z hz => h z (List.mem_of_mem_drop hz)
  have := Int.mul_le_mul (a := prodL (l.take k)) (b := 1) (c := prodL (l.take k)) (d := prodL (l.drop k)) (by omega) h2 (by omega) (by omega)
  omega
theorem prodL_take_succ (l : List Int) (k : Nat) (h : k < l.length) : prodL (l.take (k + 1)) = prodL (l.take k) * l[k]?.getD 0 := by
  rw [List.take_succ_eq_append_getElem h, prodL_append]
  simp [prodL, h]
def hasNeg (l : List Int) : Prop := ∃ z ∈ l, z < 0
def hasZero (l : List Int) : Prop := ∃ z ∈ l, z = 0
instance (l : List Int) : Decidable (hasNeg l) := inferInstanceAs (Decidable (∃ z ∈ l, z < 0))
instance (l : List Int) : Decidable (hasZero l) := inferInstanceAs (Decidable (∃ z ∈ l, z = 0))
/-- Size's answer: how many, and the error. -/
def sizeV (l : List Int) : Int := if 8 < l.length ∨ hasNeg l ∨ hasZero l ∨ 16384 < prodL l then 0 else prodL l
def sizeE (l : List Int) : Int := if 8 < l.length then 6 else if hasNeg l then 1 else if hasZero l then 0 else if 16384 < prodL l then 12 else 0
theorem all_pos {l : List Int} (h1 : ¬ hasNeg l) (h2 : ¬ hasZero l) : ∀ z ∈ l, 0 < z := by
  intro z hz
  have a : ¬ z < 0 := fun h => h1 ⟨z, hz, h⟩
  have b : ¬ z = 0 := fun h => h2 ⟨z, hz, h⟩
  omega
theorem size_long {l : List Int} (h : 8 < l.length) : sizeV l = 0 ∧ sizeE l = 6 := by simp [sizeV, sizeE, h]
theorem size_neg {l : List Int} (h : ¬ 8 < l.length) (h1 : hasNeg l) : sizeV l = 0 ∧ sizeE l = 1 := by simp [sizeV, sizeE, h, h1]
theorem size_zero {l : List Int} (h : ¬ 8 < l.length) (h1 : ¬ hasNeg l) (h2 : hasZero l) : sizeV l = 0 ∧ sizeE l = 0 := by simp [sizeV, sizeE, h, h1, h2]
theorem size_many {l : List Int} (h : ¬ 8 < l.length) (h1 : ¬ hasNeg l) (h2 : ¬ hasZero l) (h3 : 16384 < prodL l) : sizeV l = 0 ∧ sizeE l = 12 := by simp [sizeV, sizeE, h, h1, h2, h3]
theorem size_ok {l : List Int} (h : ¬ 8 < l.length) (h1 : ¬ hasNeg l) (h2 : ¬ hasZero l) (h3 : ¬ 16384 < prodL l) : sizeV l = prodL l ∧ sizeE l = 0 := by simp [sizeV, sizeE, h, h1, h2, h3]
/-- The least, and the greatest, of 1 and the numbers. -/
def leastL (l : List Int) : Int := l.foldl min 1
def mostL (l : List Int) : Int := l.foldl max 1
theorem foldl_snoc {α β : Type} (f : β → α → β) (a : β) (l : List α) (k : Nat) (h : k < l.length) : (l.take (k + 1)).foldl f a = f ((l.take k).foldl f a) l[k] := by
  rw [List.take_succ_eq_append_getElem h, List.foldl_append]; rfl
theorem least_le (l : List Int) (a : Int) : l.foldl min a ≤ a ∧ ∀ z ∈ l, l.foldl min a ≤ z := by
  induction l generalizing a with
  | nil => simp
  | cons x l ih =>
    obtain ⟨h1, h2⟩ := ih (min a x)
    simp only [List.foldl_cons]
    refine ⟨by omega, fun z hz => ?_⟩
    rcases List.mem_cons.1 hz with rfl | hz
    · omega
    · exact h2 z hz
theorem least_is (l : List Int) (a : Int) : l.foldl min a = a ∨ l.foldl min a ∈ l := by
  induction l generalizing a with
  | nil => simp
  | cons x l ih =>
    simp only [List.foldl_cons]
    rcases ih (min a x) with h | h
    · rw [h]
      by_cases hx : a ≤ x
      · left; omega
      · right; have : min a x = x := by omega
        rw [this]; exact List.mem_cons_self
    · right; exact List.mem_cons_of_mem _ h
theorem most_le (l : List Int) (a : Int) : a ≤ l.foldl max a ∧ ∀ z ∈ l, z ≤ l.foldl max a := by
  induction l generalizing a with
  | nil => simp
  | cons x l ih =>
    obtain ⟨h1, h2⟩ := ih (max a x)
    simp only [List.foldl_cons]
    refine ⟨by omega, fun z hz => ?_⟩
    rcases List.mem_cons.1 hz with rfl | hz
    · omega
    · exact h2 z hz
theorem most_is (l : List Int) (a : Int) : l.foldl max a = a ∨ l.foldl max a ∈ l := by
  induction l generalizing a with
  | nil => simp
  | cons x l ih =>
    simp only [List.foldl_cons]
    rcases ih (max a x) with h | h
    · rw [h]
      by_cases hx : x ≤ a
      · left; omega
      · right; have : max a x = x := by omega
        rw [this]; exact List.mem_cons_self
    · right; exact List.mem_cons_of_mem _ h
theorem least_neg {l : List Int} : leastL l < 0 ↔ hasNeg l := by
  constructor
  · intro h
    rcases least_is l 1 with e | e
    · unfold leastL at h; omega
    · exact ⟨_, e, h⟩
  · rintro ⟨z, hz, h⟩
    have := (least_le l 1).2 z hz
    unfold leastL; omega
theorem least_zero {l : List Int} (hn : ¬ hasNeg l) : leastL l = 0 ↔ hasZero l := by
  constructor
  · intro h
    rcases least_is l 1 with e | e
    · unfold leastL at h; omega
    · exact ⟨_, e, h⟩
  · rintro ⟨z, hz, h⟩
    have h1 := (least_le l 1).2 z hz
    have h2 : ¬ leastL l < 0 := fun h => hn (least_neg.1 h)
    unfold leastL at *; omega
def hasLong (l : List Int) : Prop := ∃ z ∈ l, 16384 < z
instance (l : List Int) : Decidable (hasLong l) := inferInstanceAs (Decidable (∃ z ∈ l, 16384 < z))
theorem most_long {l : List Int} : 16384 < mostL l ↔ hasLong l := by
  constructor
  · intro h
    rcases most_is l 1 with e | e
    · unfold mostL at h; omega
    · exact ⟨_, e, h⟩
  · rintro ⟨z, hz, h⟩
    have := (most_le l 1).2 z hz
    unfold mostL; omega
theorem prod_of_mem {l : List Int} (h : ∀ z ∈ l, 0 < z) {z : Int} (hz : z ∈ l) : z ≤ prodL l := by
  induction l with
  | nil => simp at hz
  | cons x l ih =>
    have h1 := prodL_pos (l := l) fun z hz => h z (List.mem_cons_of_mem _ hz)
    have hx := h x List.mem_cons_self
    rcases List.mem_cons.1 hz with rfl | hz
    · have := Int.mul_le_mul (a := z) (b := 1) (c := z) (d := prodL l) (by omega) h1 (by omega) (by omega)
      simp only [prodL]; omega
    · have h2 := ih (fun z hz => h z (List.mem_cons_of_mem _ hz)) hz
      have := Int.mul_le_mul (a := 1) (b := prodL l) (c := x) (d := prodL l) (by omega) (by omega) (by omega) (by omega)
      simp only [prodL]; omega
theorem long_many {l : List Int} (h : ∀ z ∈ l, 0 < z) (hl : hasLong l) : 16384 < prodL l := by
  obtain ⟨z, hz, hz'⟩ := hl
  have := prod_of_mem h hz
  omega
theorem getD_mem {l : List Int} {k : Nat} (h : k < l.length) : l[k]?.getD 0 ∈ l := by
  simp [h]
theorem mem_getD {l : List Int} {z : Int} (h : z ∈ l) : ∃ k, k < l.length ∧ l[k]?.getD 0 = z := by
  obtain ⟨k, hk, e⟩ := List.getElem_of_mem h
  exact ⟨k, hk, by simp [hk, e]⟩
/-- Which cell stands at places: the last axis fastest. -/
def inAxes : List Int → List Int → Prop
  | s :: ss, a :: ms => (0 ≤ a ∧ a < s) ∧ inAxes ss ms
  | [], [] => True
  | _, _ => False
def place : List Int → List Int → Int
  | _ :: ss, a :: ms => a * prodL ss + place ss ms
  | _, _ => 0
theorem place_bound {l at' : List Int} (h : inAxes l at') : (∀ z ∈ l, 0 < z) ∧ 0 ≤ place l at' ∧ place l at' < prodL l ∧ at'.length = l.length := by
  induction l generalizing at' with
  | nil =>
    cases at' with
    | nil => simp [place, prodL]
    | cons a ms => simp [inAxes] at h
  | cons s ss ih =>
    cases at' with
    | nil => simp [inAxes] at h
    | cons a ms =>
      simp only [inAxes] at h
      obtain ⟨⟨h1, h2⟩, h3⟩ := h
      obtain ⟨i1, i2, i3, i4⟩ := ih h3
      have hp := prodL_pos i1
      have a1 : 0 ≤ a * prodL ss := Int.mul_nonneg h1 (by omega)
      have a2 : (a + 1) * prodL ss ≤ s * prodL ss := Int.mul_le_mul_of_nonneg_right (by omega) (by omega)
      rw [Int.add_mul] at a2
      refine ⟨?_, ?_, ?_, by simp [i4]⟩
      · intro z hz
        rcases List.mem_cons.1 hz with rfl | hz
        · omega
        · exact i1 z hz
      · simp only [place]; omega
      · simp only [place, prodL]; omega
/-- Where a cell stands. -/
def digits : List Int → Int → List Int
  | [], _ => []
  | _ :: ss, n => n / prodL ss :: digits ss (n % prodL ss)
theorem digits_length (l : List Int) (n : Int) : (digits l n).length = l.length := by
  induction l generalizing n with
  | nil => rfl
  | cons s ss ih => simp [digits, ih]
theorem digits_in {l : List Int} (h : ∀ z ∈ l, 0 < z) {n : Int} (h0 : 0 ≤ n) (h1 : n < prodL l) : inAxes l (digits l n) ∧ place l (digits l n) = n := by
  induction l generalizing n with
  | nil => simp [prodL] at h1; simp [digits, inAxes, place]; omega
  | cons s ss ih =>
    have hp := prodL_pos (l := ss) fun z hz => h z (List.mem_cons_of_mem _ hz)
    have m0 := Int.emod_nonneg n (show prodL ss ≠ 0 by omega)
    have m1 := Int.emod_lt_of_pos n (show 0 < prodL ss by omega)
    obtain ⟨i1, i2⟩ := ih (fun z hz => h z (List.mem_cons_of_mem _ hz)) m0 m1
    have d0 : 0 ≤ n / prodL ss := Int.ediv_nonneg h0 (by omega)
    have d1 : n / prodL ss < s := by
      apply Int.ediv_lt_of_lt_mul (by omega)
      simpa [prodL] using h1
    refine ⟨⟨⟨d0, d1⟩, i1⟩, ?_⟩
    simp only [digits, place, i2]
    have := Int.mul_ediv_add_emod n (prodL ss)
    rw [Int.mul_comm] at this
    exact this
theorem digits_place {l at' : List Int} (h : inAxes l at') : digits l (place l at') = at' := by
  induction l generalizing at' with
  | nil =>
    cases at' with
    | nil => rfl
    | cons a ms => simp [inAxes] at h
  | cons s ss ih =>
    cases at' with
    | nil => simp [inAxes] at h
    | cons a ms =>
      simp only [inAxes] at h
      obtain ⟨h1, h3⟩ := h
      obtain ⟨i1, i2, i3, i4⟩ := place_bound h3
      have hp := prodL_pos i1
      have e : a * prodL ss + place ss ms = place ss ms + prodL ss * a := by rw [Int.mul_comm]; omega
      simp only [digits, place]
      rw [e, Int.add_mul_ediv_left _ _ (by omega), Int.ediv_eq_zero_of_lt i2 i3, Int.add_mul_emod_self_left, Int.emod_eq_of_lt i2 i3, ih h3]
      simp
end Go.Proofs.YtljanfmmhglpiaaDoor
