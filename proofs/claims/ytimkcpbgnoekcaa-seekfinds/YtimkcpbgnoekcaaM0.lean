/-
  The plain mathematics of layer 3's shapes: how many cells a shape has, which cell stands at places, where a cell stands; no program is named.
  A slice of integers as a row of numbers; the contracts of layer 3's Size and of the document's: how many cells a shape has, for all shapes.
  The contracts of layer 3's Place and Places, and of the document's: which cell stands at places, where a cell stands, for all shapes; and of the statements' own comparison of two lists of numbers.
  The contracts of the document's Place, of layer 3's Places and the document's, and of the statements' own comparison of two lists of numbers; for all shapes.
  The contracts of layer 3's Places and of the document's: where a cell stands, axis by axis, in memory of its own; for all shapes and numbers.
  Arrays as plain data, how they lie in memory, and their order: the plain mathematics of it; no program is named.
  The contract of layer 3's Cmp and Same; for all arrays.
  The contracts of layer 3's Cmp and Cell, and of the comparison of numbers and of things one by one that they rest on; for all arrays and cells.
  The contracts of layer 3's Cmp and Cell, one in the other; for all arrays and cells.
  The contract of the document's Cell; for all cells.
  The contract of the document's Cmp and Same; for all arrays.
  The contracts of what layer 3's Check and the document's rest on: whether there is a sign of a number, and whether a cell may be; for all numbers and cells.
  The contracts of the document's look at a cell, and of layer 3's Check and the document's; for all arrays.
  The contracts of layer 3's Atom, Nums and Text: numbers and signs as arrays, in memory of their own; the numbers not more than a machine holds.
  Memory that a call made and that may be written: no cell from the old memory's end on is frozen, and none of the old ones turned in that; kept by every step.
-/
import Derived.Test.YtimkcpbgnoekcaaRows
import Derived.Test.YtimkcpbgnoekcaaChecked
import GoSem.Claim
import GoSem.ClaimJoined
import GoSem.ClaimMapViews
import Derived.JoinedTies
import Derived.KernelRfl
import Derived.WalkKit
import Derived.ProofKit
import Derived.Below
import Derived.Deep.OwnRows
import Derived.Deep.QuietTactic
import Derived.BigQuiet
import Derived.Deep.RegionWith
import Derived.Laws.MakeOwn
import Derived.Deep.RegionHeld3
import Derived.Laws.IdiomCopy
import Derived.Deep.Cut
import Derived.Deep.LoopGhost
import Derived.OpenShut
import Derived.ChangeOld
import Derived.SizedLaws
import Derived.Deep.Slices
import Derived.Deep.Strs
import Derived.Laws.AppendOwn
import Derived.BigFrame
import Derived.Deep.CutRange
import Derived.Deep.RegionLaw
import Derived.Laws.OwnMore
import Derived.Lib.SliceRun
import Derived.Laws.CopyOwn
import Derived.Lib.Mul64
import Derived.Lib.Overlaps
import Derived.Laws.EntriesVeiled
namespace Go.Proofs.Ytimkcpbgnoekcaa
def prodL : List Int → Int
  | [] => 1
  | z :: r => z * prodL r
theorem prodL_append (l m : List Int) : prodL (l ++ m) = prodL l * prodL m := by
  induction l with
  | nil => simp [prodL]
  | cons x l ih => simp [prodL, ih, Int.mul_assoc]
theorem prodL_pos {l : List Int} (h : ∀ z ∈ l, 0 < z) : 1 ≤ prodL l := by
  induction l with
  | nil => simp [prodL]
  | cons x l ih =>
    have h1 := ih fun z hz => h z (List.mem_cons_of_mem _ hz)
    have h2 := h x List.mem_cons_self
    have := Int.mul_le_mul (a := 1) (b := 1) (c := x) (d := prodL l) (by omega) h1 (by omega) (by omega)
    simpa [prodL] using this
theorem prodL_take_le {l : List Int} (h : ∀ z ∈ l, 0 < z) (k : Nat) : prodL (l.take k) ≤ prodL l := by
  have e := prodL_append (l.take k) (l.drop k)
  rw [List.take_append_drop] at e
  have h1 := prodL_pos (l := l.take k) fun z hz => h z (List.mem_of_mem_take hz)
  have h2 := prodL_pos (l := l.drop k) fun z hz => h z (List.mem_of_mem_drop hz)
  have := Int.mul_le_mul (a := prodL (l.take k)) (b := 1) (c := prodL (l.take k)) (d := prodL (l.drop k)) (by omega) h2 (by omega) (by omega)
  omega
theorem prodL_take_succ (l : List Int) (k : Nat) (h : k < l.length) : prodL (l.take (k + 1)) = prodL (l.take k) * l[k]?.getD 0 := by
  rw [List.take_succ_eq_append_getElem h, prodL_append]
  simp [prodL, h]
def hasNeg (l : List Int) : Prop := ∃ z ∈ l, z < 0
def hasZero (l : List Int) : Prop := ∃ z ∈ l, z = 0
instance (l : List Int) : Decidable (hasNeg l) := inferInstanceAs (Decidable (∃ z ∈ l, z < 0))
instance (l : List Int) : Decidable (hasZero l) := inferInstanceAs (Decidable (∃ z ∈ l, z = 0))
/-- Size's answer: how many, and the error. -/
def sizeV (l : List Int) : Int := if 8 < l.length ∨ hasNeg l ∨ hasZero l ∨ 16384 < prodL l then 0 else prodL l
def sizeE (l : List Int) : Int := if 8 < l.length then 6 else if hasNeg l then 1 else if hasZero l then 0 else if 16384 < prodL l then 12 else 0
theorem all_pos {l : List Int} (h1 : ¬ hasNeg l) (h2 : ¬ hasZero l) : ∀ z ∈ l, 0 < z := by
  intro z hz
  have a : ¬ z < 0 := fun h => h1 ⟨z, hz, h⟩
  have b : ¬ z = 0 := fun h => h2 ⟨z, hz, h⟩
  omega
theorem size_long {l : List Int} (h : 8 < l.length) : sizeV l = 0 ∧ sizeE l = 6 := by simp [sizeV, sizeE, h]
theorem size_neg {l : List Int} (h : ¬ 8 < l.length) (h1 : hasNeg l) : sizeV l = 0 ∧ sizeE l = 1 := by simp [sizeV, sizeE, h, h1]
theorem size_zero {l : List Int} (h : ¬ 8 < l.length) (h1 : ¬ hasNeg l) (h2 : hasZero l) : sizeV l = 0 ∧ sizeE l = 0 := by simp [sizeV, sizeE, h, h1, h2]
theorem size_many {l : List Int} (h : ¬ 8 < l.length) (h1 : ¬ hasNeg l) (h2 : ¬ hasZero l) (h3 : 16384 < prodL l) : sizeV l = 0 ∧ sizeE l = 12 := by simp [sizeV, sizeE, h, h1, h2, h3]
theorem size_ok {l : List Int} (h : ¬ 8 < l.length) (h1 : ¬ hasNeg l) (h2 : ¬ hasZero l) (h3 : ¬ 16384 < prodL l) : sizeV l = prodL l ∧ sizeE l = 0 := by simp [sizeV, sizeE, h, h1, h2, h3]
/-- The least, and the greatest, of 1 and the numbers. -/
def leastL (l : List Int) : Int := l.foldl min 1
def mostL (l : List Int) : Int := l.foldl max 1
theorem foldl_snoc {α β : Type} (f : β → α → β) (a : β) (l : List α) (k : Nat) (h : k < l.length) : (l.take (k + 1)).foldl f a = f ((l.take k).foldl f a) l[k] := by
  rw [List.take_succ_eq_append_getElem h, List.foldl_append]; rfl
theorem least_le (l : List Int) (a : Int) : l.foldl min a ≤ a ∧ ∀ z ∈ l, l.foldl min a ≤ z := by
  induction l generalizing a with
  | nil => simp
  | cons x l ih =>
    obtain ⟨h1, h2⟩ := ih (min a x)
    simp only [List.foldl_cons]
    refine ⟨by omega, fun z hz => ?_⟩
    rcases List.mem_cons.1 hz with rfl | hz
    · omega
    · exact h2 z hz
theorem least_is (l : List Int) (a : Int) : l.foldl min a = a ∨ l.foldl min a ∈ l := by
  induction l generalizing a with
  | nil => simp
  | cons x l ih =>
    simp only [List.foldl_cons]
    rcases ih (min a x) with h | h
    · rw [h]
      by_cases hx : a ≤ x
      · left; omega
      · right; have : min a x = x := by omega
        rw [this]; exact List.mem_cons_self
    · right; exact List.mem_cons_of_mem _ h
theorem most_le (l : List Int) (a : Int) : a ≤ l.foldl max a ∧ ∀ z ∈ l, z ≤ l.foldl max a := by
  induction l generalizing a with
  | nil => simp
  | cons x l ih =>
    obtain ⟨h1, h2⟩ := ih (max a x)
    simp only [List.foldl_cons]
    refine ⟨by omega, fun z hz => ?_⟩
    rcases List.mem_cons.1 hz with rfl | hz
    · omega
    · exact h2 z hz
theorem most_is (l : List Int) (a : Int) : l.foldl max a = a ∨ l.foldl max a ∈ l := by
  induction l generalizing a with
  | nil => simp
  | cons x l ih =>
    simp only [List.foldl_cons]
    rcases ih (max a x) with h | h
    · rw [h]
      by_cases hx : x ≤ a
      · left; omega
      · right; have : max a x = x := by omega
        rw [this]; exact List.mem_cons_self
    · right; exact List.mem_cons_of_mem _ h
theorem least_neg {l : List Int} : leastL l < 0 ↔ hasNeg l := by
  constructor
  · intro h
    rcases least_is l 1 with e | e
    · unfold leastL at h; omega
    · exact ⟨_, e, h⟩
  · rintro ⟨z, hz, h⟩
    have := (least_le l 1).2 z hz
    unfold leastL; omega
theorem least_zero {l : List Int} (hn : ¬ hasNeg l) : leastL l = 0 ↔ hasZero l := by
  constructor
  · intro h
    rcases least_is l 1 with e | e
    · unfold leastL at h; omega
    · exact ⟨_, e, h⟩
  · rintro ⟨z, hz, h⟩
    have h1 := (least_le l 1).2 z hz
    have h2 : ¬ leastL l < 0 := fun h => hn (least_neg.1 h)
    unfold leastL at *; omega
def hasLong (l : List Int) : Prop := ∃ z ∈ l, 16384 < z
instance (l : List Int) : Decidable (hasLong l) := inferInstanceAs (Decidable (∃ z ∈ l, 16384 < z))
theorem most_long {l : List Int} : 16384 < mostL l ↔ hasLong l := by
  constructor
  · intro h
    rcases most_is l 1 with e | e
    · unfold mostL at h; omega
    · exact ⟨_, e, h⟩
  · rintro ⟨z, hz, h⟩
    have := (most_le l 1).2 z hz
    unfold mostL; omega
theorem prod_of_mem {l : List Int} (h : ∀ z ∈ l, 0 < z) {z : Int} (hz : z ∈ l) : z ≤ prodL l := by
  induction l with
  | nil => simp at hz
  | cons x l ih =>
    have h1 := prodL_pos (l := l) fun z hz => h z (List.mem_cons_of_mem _ hz)
    have hx := h x List.mem_cons_self
    rcases List.mem_cons.1 hz with rfl | hz
    · have := Int.mul_le_mul (a := z) (b := 1) (c := z) (d := prodL l) (by omega) h1 (by omega) (by omega)
      simp only [prodL]; omega
    · have h2 := ih (fun z hz => h z (List.mem_cons_of_mem _ hz)) hz
      have := Int.mul_le_mul (a := 1) (b := prodL l) (c := x) (d := prodL l) (by omega) (by omega) (by omega) (by omega)
      simp only [prodL]; omega
theorem long_many {l : List Int} (h : ∀ z ∈ l, 0 < z) (hl : hasLong l) : 16384 < prodL l := by
  obtain ⟨z, hz, hz'⟩ := hl
  have := prod_of_mem h hz
  omega
theorem getD_mem {l : List Int} {k : Nat} (h : k < l.length) : l[k]?.getD 0 ∈ l := by
  simp [h]
theorem mem_getD {l : List Int} {z : Int} (h : z ∈ l) : ∃ k, k < l.length ∧ l[k]?.getD 0 = z := by
  obtain ⟨k, hk, e⟩ := List.getElem_of_mem h
  exact ⟨k, hk, by simp [hk, e]⟩
/-- Which cell stands at places: the last axis fastest. -/
def inAxes : List Int → List Int → Prop
  | s :: ss, a :: ms => (0 ≤ a ∧ a < s) ∧ inAxes ss ms
  | [], [] => True
  | _, _ => False
def place : List Int → List Int → Int
  | _ :: ss, a :: ms => a * prodL ss + place ss ms
  | _, _ => 0
theorem place_bound {l at' : List Int} (h : inAxes l at') : (∀ z ∈ l, 0 < z) ∧ 0 ≤ place l at' ∧ place l at' < prodL l ∧ at'.length = l.length := by
  induction l generalizing at' with
  | nil =>
    cases at' with
    | nil => simp [place, prodL]
    | cons a ms => simp [inAxes] at h
  | cons s ss ih =>
    cases at' with
    | nil => simp [inAxes] at h
    | cons a ms =>
      simp only [inAxes] at h
      obtain ⟨⟨h1, h2⟩, h3⟩ := h
      obtain ⟨i1, i2, i3, i4⟩ := ih h3
      have hp := prodL_pos i1
      have a1 : 0 ≤ a * prodL ss := Int.mul_nonneg h1 (by omega)
      have a2 : (a + 1) * prodL ss ≤ s * prodL ss := Int.mul_le_mul_of_nonneg_right (by omega) (by omega)
      rw [Int.add_mul] at a2
      refine ⟨?_, ?_, ?_, by simp [i4]⟩
      · intro z hz
        rcases List.mem_cons.1 hz with rfl | hz
        · omega
        · exact i1 z hz
      · simp only [place]; omega
      · simp only [place, prodL]; omega
/-- Where a cell stands. -/
def digits : List Int → Int → List Int
  | [], _ => []
  | _ :: ss, n => n / prodL ss :: digits ss (n % prodL ss)
theorem digits_length (l : List Int) (n : Int) : (digits l n).length = l.length := by
  induction l generalizing n with
  | nil => rfl
  | cons s ss ih => simp [digits, ih]
theorem digits_in {l : List Int} (h : ∀ z ∈ l, 0 < z) {n : Int} (h0 : 0 ≤ n) (h1 : n < prodL l) : inAxes l (digits l n) ∧ place l (digits l n) = n := by
  induction l generalizing n with
  | nil => simp [prodL] at h1; simp [digits, inAxes, place]; omega
  | cons s ss ih =>
    have hp := prodL_pos (l := ss) fun z hz => h z (List.mem_cons_of_mem _ hz)
    have m0 := Int.emod_nonneg n (show prodL ss ≠ 0 by omega)
    have m1 := Int.emod_lt_of_pos n (show 0 < prodL ss by omega)
    obtain ⟨i1, i2⟩ := ih (fun z hz => h z (List.mem_cons_of_mem _ hz)) m0 m1
    have d0 : 0 ≤ n / prodL ss := Int.ediv_nonneg h0 (by omega)
    have d1 : n / prodL ss < s := by
      apply Int.ediv_lt_of_lt_mul (by omega)
      simpa [prodL] using h1
    refine ⟨⟨⟨d0, d1⟩, i1⟩, ?_⟩
    simp only [digits, place, i2]
    have := Int.mul_ediv_add_emod n (prodL ss)
    rw [Int.mul_comm] at this
    exact this
theorem digits_place {l at' : List Int} (h : inAxes l at') : digits l (place l at') = at' := by
  induction l generalizing at' with
  | nil =>
    cases at' with
    | nil => rfl
    | cons a ms => simp [inAxes] at h
  | cons s ss ih =>
    cases at' with
    | nil => simp [inAxes] at h
    | cons a ms =>
      simp only [inAxes] at h
      obtain ⟨h1, h3⟩ := h
      obtain ⟨i1, i2, i3, i4⟩ := place_bound h3
      have hp := prodL_pos i1
      have e : a * prodL ss + place ss ms = place ss ms + prodL ss * a := by rw [Int.mul_comm]; omega
      simp only [digits, place]
      rw [e, Int.add_mul_ediv_left _ _ (by omega), Int.ediv_eq_zero_of_lt i2 i3, Int.add_mul_emod_self_left, Int.emod_eq_of_lt i2 i3, ih h3]
      simp
end Go.Proofs.Ytimkcpbgnoekcaa
namespace Go.Proofs.Ytimkcpbgnoekcaa
open Go.ChangeShapes Go.WideShapes Go.ChangeAt Go.RowKit
/-- A slice of integers, as a row of numbers, all of it in blocks from lo on. -/
def Row (lo : Nat) (w : World) (a : Option Addr) (zs : List Int) : Prop :=
  zs.length ≤ 140737488355328 ∧ (zs = [] ∨ ∃ b off, a = some ⟨b, off, none⟩ ∧ lo ≤ b ∧ b < w.heap.size ∧ ∀ i, i < zs.length → w.cell? ⟨b, off + i, none⟩ = some (.int .i64 (zs[i]?.getD 0)))
theorem Row.next {lo : Nat} {w w1 : World} {a : Option Addr} {zs : List Int} (h : Row lo w a zs) (hb : Below w.heap.size w w1) : Row lo w1 a zs := by
  obtain ⟨h2, h3⟩ := h
  refine ⟨h2, ?_⟩
  rcases h3 with h3 | ⟨b, off, ha, hlo, hbb, hc⟩
  · exact Or.inl h3
  · exact Or.inr ⟨b, off, ha, hlo, Nat.lt_of_lt_of_le hbb hb.size, fun i hi => (hb.cell (p := ⟨b, off + i, none⟩) hbb).trans (hc i hi)⟩
theorem Row.low {lo lo' : Nat} {w : World} {a : Option Addr} {zs : List Int} (h : Row lo w a zs) (hl : lo' ≤ lo) : Row lo' w a zs := by
  obtain ⟨h2, h3⟩ := h
  refine ⟨h2, ?_⟩
  rcases h3 with h3 | ⟨b, off, ha, hlo, hbb, hc⟩
  · exact Or.inl h3
  · exact Or.inr ⟨b, off, ha, Nat.le_trans hl hlo, hbb, hc⟩
theorem row_at {lo : Nat} {w : World} {a : Option Addr} {l : List Int} (R : Row lo w a l) {j : Nat} (h : j < l.length) : ∃ b off, a = some ⟨b, off, none⟩ ∧ b < w.heap.size ∧ w.cell? ⟨b, off + j, none⟩ = some (.int .i64 (l[j]?.getD 0)) := by
  rcases R.2 with h0 | ⟨b, off, ha, _, hb, hc⟩
  · subst h0; simp at h
  · exact ⟨b, off, ha, hb, hc j h⟩
theorem retB {a b : Bool} (h : a = b) : Ending.returned (.bool a) = .returned (.bool b) := by rw [h]
theorem retI {k : IntKind} {a b : Int} (h : a = b) : Ending.returned (.int k a) = .returned (.int k b) := by rw [h]
theorem retII {a b c d : Int} (h : a = c ∧ b = d) : Ending.returned (.tuple #[.int .i64 a, .int .i64 b]) = .returned (.tuple #[.int .i64 c, .int .i64 d]) := by rw [h.1, h.2]
theorem min_if (p z : Int) : min p z = if z < p then z else p := by split <;> omega
theorem max_if (q z : Int) : max q z = if q < z then z else q := by split <;> omega
theorem ends_step (l : List Int) (j : Nat) (hlt : j < l.length) : leastL (l.take (j + 1)) = min (leastL (l.take j)) (l[j]?.getD 0) ∧ mostL (l.take (j + 1)) = max (mostL (l.take j)) (l[j]?.getD 0) := by
  unfold leastL mostL
  rw [foldl_snoc _ _ _ _ hlt, foldl_snoc _ _ _ _ hlt]
  simp [hlt]
set_option maxHeartbeats 1000000 in
theorem ends_any {lo : Nat} (l : List Int) (a : Option Addr) (cap : Nat) (w : World) (R : Row lo w a l) :
    Calls Try.prog 70 #[.slice a l.length cap] w fun e w' => e = .returned (.tuple #[.int .i64 (leastL l), .int .i64 (mostL l)]) ∧ w' = w := by
  have hrow := @row_at _ _ _ _ R
  have hl := R.1
  clear R
  go_enter Try.func70, Try.ntmps70
  go_wp2
  go_loop [4, 5, 10] (fun x y i => ∃ j : Nat, j ≤ l.length ∧ i = .int .i64 j ∧ x = .int .i64 (leastL (l.take j)) ∧ y = .int .i64 (mostL (l.take j))) (fun _ _ i => l.length - (intOf i).toNat)
  case atStart => exact ⟨0, Nat.zero_le _, rfl, by simp [leastL], by simp [mostL]⟩
  case round =>
    obtain ⟨j, hj, rfl, rfl, rfl⟩ := hrel
    by_cases hlt : j < l.length
    · obtain ⟨b, off, ha, hb, hck⟩ := hrow hlt
      subst ha
      have e1 : Hid (leastL (l.take (j + 1)) = min (leastL (l.take j)) (l[j]?.getD 0) ∧ mostL (l.take (j + 1)) = max (mostL (l.take j)) (l[j]?.getD 0)) := by
        exact ends_step l j hlt
      obtain ⟨z, hz⟩ : ∃ z, l[j]?.getD 0 = z := ⟨_, rfl⟩
      rw [hz] at hck e1
      clear hrow hz
      generalize leastL (l.take j) = p at e1
      generalize mostL (l.take j) = q at e1
      go_wp2
      go_round
      case rel => exact ⟨j + 1, by omega, by go_num, by rw [e1.out.1, min_if], by rw [e1.out.2, max_if]⟩
      case measure => simp [intOf]; omega
    · have hje : j = l.length := by omega
      subst hje
      rw [List.take_length]
      go_wp2
      go_ret2
      exact ⟨rfl, rfl⟩
theorem size_take_bound {l : List Int} (hp : ∀ z ∈ l, 0 < z) (hm : ¬ hasLong l) {j : Nat} (hj : j < l.length) (h : prodL (l.take j) ≤ 16384) : 1 ≤ prodL (l.take j) ∧ 1 ≤ l[j]?.getD 0 ∧ l[j]?.getD 0 ≤ 16384 ∧ 0 ≤ prodL (l.take j) * l[j]?.getD 0 ∧ prodL (l.take j) * l[j]?.getD 0 ≤ 268435456 := by
  have h1 := prodL_pos (l := l.take j) fun z hz => hp z (List.mem_of_mem_take hz)
  have h2 := hp _ (getD_mem hj)
  have h3 : ¬ 16384 < l[j]?.getD 0 := fun h => hm ⟨_, getD_mem hj, h⟩
  have h4 := Int.mul_nonneg (a := prodL (l.take j)) (b := l[j]?.getD 0) (by omega) (by omega)
  have h5 := Int.mul_le_mul (a := prodL (l.take j)) (b := l[j]?.getD 0) (c := 16384) (d := 16384) h (by omega) (by omega) (by omega)
  exact ⟨h1, by omega, by omega, h4, by omega⟩
set_option maxHeartbeats 1000000 in
theorem size_any {lo : Nat} (l : List Int) (a : Option Addr) (cap : Nat) (w : World) (R : Row lo w a l) :
    Calls Try.prog 69 #[.slice a l.length cap] w fun e w' => e = .returned (.tuple #[.int .i64 (sizeV l), .int .i64 (sizeE l)]) ∧ w' = w := by
  have C := ends_any l a cap w R
  have hrow := @row_at _ _ _ _ R
  have hl := R.1
  clear R
  by_cases h8 : 8 < l.length
  · rw [(size_long h8).1, (size_long h8).2]
    go_enter Try.func69, Try.ntmps69
    go_wp2
    go_ret2
    exact ⟨rfl, rfl⟩
  · have H8 : Hid (¬ 8 < l.length) := h8
    by_cases hn : hasNeg l
    · have h0 := least_neg.2 hn
      rw [(size_neg h8 hn).1, (size_neg h8 hn).2]
      generalize leastL l = p at C h0
      generalize mostL l = q at C
      clear hn
      go_enter Try.func69, Try.ntmps69
      go_wp2_with (go_at_call 70; refine C.mono ?_; rintro e w' ⟨rfl, hw⟩; rw [hw])
      go_ret2
      exact ⟨rfl, rfl⟩
    · have h0 : ¬ leastL l < 0 := fun h => hn (least_neg.1 h)
      by_cases hz : hasZero l
      · have h1 := (least_zero hn).2 hz
        rw [(size_zero h8 hn hz).1, (size_zero h8 hn hz).2]
        generalize leastL l = p at C h0 h1
        generalize mostL l = q at C
        clear hn hz
        go_enter Try.func69, Try.ntmps69
        go_wp2_with (go_at_call 70; refine C.mono ?_; rintro e w' ⟨rfl, hw⟩; rw [hw])
        go_ret2
        exact ⟨rfl, rfl⟩
      · have h1 : ¬ leastL l = 0 := fun h => hz ((least_zero hn).1 h)
        have hp := all_pos hn hz
        by_cases hm : hasLong l
        · have h2 := most_long.2 hm
          have h3 := long_many hp hm
          rw [(size_many h8 hn hz h3).1, (size_many h8 hn hz h3).2]
          generalize leastL l = p at C h0 h1
          generalize mostL l = q at C h2
          clear hn hz hp hm h3
          go_enter Try.func69, Try.ntmps69
          go_wp2_with (go_at_call 70; refine C.mono ?_; rintro e w' ⟨rfl, hw⟩; rw [hw])
          go_ret2
          exact ⟨rfl, rfl⟩
        · have h2 : ¬ 16384 < mostL l := fun h => hm (most_long.1 h)
          have FM : Hid (∀ j, prodL (l.take j) > 16384 → sizeV l = 0 ∧ sizeE l = 12) := fun j h => size_many h8 hn hz (Int.lt_of_lt_of_le h (prodL_take_le hp j))
          have FO : Hid (prodL l ≤ 16384 → sizeV l = prodL l ∧ sizeE l = 0) := fun h => size_ok h8 hn hz (by omega)
          have FB : Hid (∀ j, j < l.length → prodL (l.take j) ≤ 16384 → 1 ≤ prodL (l.take j) ∧ 1 ≤ l[j]?.getD 0 ∧ l[j]?.getD 0 ≤ 16384 ∧ 0 ≤ prodL (l.take j) * l[j]?.getD 0 ∧ prodL (l.take j) * l[j]?.getD 0 ≤ 268435456) := fun j hj h => size_take_bound hp hm hj h
          generalize sizeV l = V at FM FO
          generalize sizeE l = E at FM FO
          generalize leastL l = p at C h0 h1
          generalize mostL l = q at C h2
          clear hn hz hp hm
          go_enter Try.func69, Try.ntmps69
          go_wp2_with (go_at_call 70; refine C.mono ?_; rintro e w' ⟨rfl, hw⟩; rw [hw])
          clear C
          go_loop [6, 28] (fun x i => ∃ j : Nat, j ≤ l.length ∧ i = .int .i64 j ∧ x = .int .i64 (prodL (l.take j)) ∧ prodL (l.take j) ≤ 16384) (fun _ i => l.length - (intOf i).toNat)
          case atStart => exact ⟨0, Nat.zero_le _, rfl, by simp [prodL], by simp [prodL]⟩
          case round =>
            obtain ⟨j, hj, rfl, rfl, hpj⟩ := hrel
            by_cases hlt : j < l.length
            · obtain ⟨b, off, ha, hb, hck⟩ := hrow hlt
              subst ha
              obtain ⟨f1, f2, f3, f4, f5⟩ := FB.out j hlt hpj
              have e1 : Hid (prodL (l.take (j + 1)) = prodL (l.take j) * l[j]?.getD 0) := prodL_take_succ l j hlt
              obtain ⟨z, hz⟩ : ∃ z, l[j]?.getD 0 = z := ⟨_, rfl⟩
              rw [hz] at hck e1 f2 f3 f4 f5
              clear hrow hz FB
              generalize prodL (l.take j) = r at e1 f1 hpj f4 f5
              obtain ⟨m, hm⟩ : ∃ m, r * z = m := ⟨_, rfl⟩
              rw [hm] at e1 f4 f5
              by_cases hbig : m ≤ 16384
              · go_wp2
                go_round
                case rel => exact ⟨j + 1, by omega, by go_num, by rw [e1.out], by rw [e1.out]; exact hbig⟩
                case measure => simp [intOf]; omega
              · have fm : Hid (V = 0 ∧ E = 12) := FM.out (j + 1) (by rw [e1.out]; omega)
                go_wp2
                go_ret2
                exact ⟨retII ⟨fm.out.1.symm, fm.out.2.symm⟩, rfl⟩
            · have hje : j = l.length := by omega
              subst hje
              rw [List.take_length] at hpj ⊢
              have fo : Hid (V = prodL l ∧ E = 0) := FO.out hpj
              go_wp2
              go_ret2
              exact ⟨retII ⟨fo.out.1.symm, fo.out.2.symm⟩, rfl⟩
set_option maxHeartbeats 1000000 in
theorem rsize_any {lo : Nat} (l : List Int) (a : Option Addr) (cap : Nat) (w : World) (R : Row lo w a l) :
    Calls Try.prog 44 #[.slice a l.length cap] w fun e w' => e = .returned (.tuple #[.int .i64 (sizeV l), .int .i64 (sizeE l)]) ∧ w' = w := by
  have hrow := @row_at _ _ _ _ R
  have hl := R.1
  clear R
  by_cases h8 : 8 < l.length
  · rw [(size_long h8).1, (size_long h8).2]
    go_enter Try.func44, Try.ntmps44
    go_wp2
    go_ret2
    exact ⟨rfl, rfl⟩
  · have FN : Hid (hasNeg l → sizeV l = 0 ∧ sizeE l = 1) := fun h => size_neg h8 h
    have FZ : Hid (¬ hasNeg l → hasZero l → sizeV l = 0 ∧ sizeE l = 0) := fun h h' => size_zero h8 h h'
    have FM : Hid (¬ hasNeg l → ¬ hasZero l → ∀ j, prodL (l.take j) > 16384 → sizeV l = 0 ∧ sizeE l = 12) := fun hn hz j h => size_many h8 hn hz (Int.lt_of_lt_of_le h (prodL_take_le (all_pos hn hz) j))
    have FL : Hid (¬ hasNeg l → ¬ hasZero l → hasLong l → sizeV l = 0 ∧ sizeE l = 12) := fun hn hz h => size_many h8 hn hz (long_many (all_pos hn hz) h)
    have FO : Hid (¬ hasNeg l → ¬ hasZero l → prodL l ≤ 16384 → sizeV l = prodL l ∧ sizeE l = 0) := fun hn hz h => size_ok h8 hn hz (by omega)
    have FB : Hid (¬ hasNeg l → ¬ hasZero l → ∀ j, j < l.length → prodL (l.take j) ≤ 16384 → l[j]?.getD 0 ≤ 16384 → 1 ≤ prodL (l.take j) ∧ 1 ≤ l[j]?.getD 0 ∧ 0 ≤ prodL (l.take j) * l[j]?.getD 0 ∧ prodL (l.take j) * l[j]?.getD 0 ≤ 268435456) := by
      intro hn hz j hj h hle
      have hp := all_pos hn hz
      have h1 := prodL_pos (l := l.take j) fun z hz => hp z (List.mem_of_mem_take hz)
      have h2 := hp _ (getD_mem hj)
      have h4 := Int.mul_nonneg (a := prodL (l.take j)) (b := l[j]?.getD 0) (by omega) (by omega)
      have h5 := Int.mul_le_mul (a := prodL (l.take j)) (b := l[j]?.getD 0) (c := 16384) (d := 16384) h hle (by omega) (by omega)
      exact ⟨h1, by omega, h4, by omega⟩
    have D1 : Hid (∀ j, j < l.length → l[j]?.getD 0 < 0 → hasNeg l) := fun j hj h => ⟨_, getD_mem hj, h⟩
    have D2 : Hid (∀ j, j < l.length → l[j]?.getD 0 = 0 → hasZero l) := fun j hj h => ⟨_, getD_mem hj, h⟩
    have D3 : Hid (∀ j, j < l.length → l[j]?.getD 0 > 16384 → hasLong l) := fun j hj h => ⟨_, getD_mem hj, h⟩
    have D4 : Hid ((∀ i, i < l.length → ¬ l[i]?.getD 0 < 0) → ¬ hasNeg l) := by
      rintro h ⟨z, hz, hz'⟩
      obtain ⟨k, hk, e⟩ := mem_getD hz
      exact h k hk (by omega)
    have D5 : Hid ((∀ i, i < l.length → ¬ l[i]?.getD 0 = 0) → ¬ hasZero l) := by
      rintro h ⟨z, hz, hz'⟩
      obtain ⟨k, hk, e⟩ := mem_getD hz
      exact h k hk (by omega)
    generalize sizeV l = V at FN FZ FM FL FO
    generalize sizeE l = E at FN FZ FM FL FO
    go_enter Try.func44, Try.ntmps44
    go_wp2
    go_loop [4, 5] (fun x i => ∃ j : Nat, ∃ b : Bool, j ≤ l.length ∧ i = .int .i64 j ∧ x = .bool b ∧ (∀ i, i < j → ¬ l[i]?.getD 0 < 0) ∧ (b = true → hasZero l) ∧ (b = false → ∀ i, i < j → ¬ l[i]?.getD 0 = 0)) (fun _ i => l.length - (intOf i).toNat)
    case atStart => exact ⟨0, false, Nat.zero_le _, rfl, rfl, by simp, by simp, by simp⟩
    case round =>
      obtain ⟨j, bb, hj, rfl, rfl, g1, g2, g3⟩ := hrel
      have G : Hid ((∀ i, i < j → ¬ l[i]?.getD 0 < 0) ∧ (bb = true → hasZero l) ∧ (bb = false → ∀ i, i < j → ¬ l[i]?.getD 0 = 0)) := ⟨g1, g2, g3⟩
      clear g1 g2 g3
      by_cases hlt : j < l.length
      · obtain ⟨b, off, ha, hb, hck⟩ := hrow hlt
        subst ha
        obtain ⟨z, hz⟩ : ∃ z, l[j]?.getD 0 = z := ⟨_, rfl⟩
        have HZ : Hid (l[j]?.getD 0 = z) := hz
        rw [hz] at hck
        clear hrow hz
        by_cases hneg : z < 0
        · have fm : Hid (V = 0 ∧ E = 1) := FN.out (D1.out j hlt (by rw [HZ.out]; exact hneg))
          go_wp2
          go_ret2
          exact ⟨retII ⟨fm.out.1.symm, fm.out.2.symm⟩, rfl⟩
        · have HN : Hid (¬ z < 0) := hneg
          by_cases hzz : z = 0
          · have HY : Hid (hasZero l) := D2.out j hlt (by rw [HZ.out]; exact hzz)
            go_wp2
            go_round
            case rel =>
              refine ⟨j + 1, true, by omega, by go_num, rfl, ?_, fun _ => HY.out, by simp⟩
              intro i hi
              rcases Nat.lt_succ_iff_lt_or_eq.1 hi with h | rfl
              · exact G.out.1 i h
              · rw [HZ.out]; exact HN.out
            case measure => simp [intOf]; omega
          · have HNZ : Hid (¬ z = 0) := hzz
            go_wp2
            go_round
            case rel =>
              refine ⟨j + 1, bb, by omega, by go_num, rfl, ?_, G.out.2.1, ?_⟩
              · intro i hi
                rcases Nat.lt_succ_iff_lt_or_eq.1 hi with h | rfl
                · exact G.out.1 i h
                · rw [HZ.out]; exact HN.out
              · intro hb i hi
                rcases Nat.lt_succ_iff_lt_or_eq.1 hi with h | rfl
                · exact G.out.2.2 hb i h
                · rw [HZ.out]; exact HNZ.out
            case measure => simp [intOf]; omega
      · have hje : j = l.length := by omega
        subst hje
        have hn : ¬ hasNeg l := D4.out (by intro i hi; have := G.out.1 i hi; omega)
        cases bb with
        | true =>
          have fm : Hid (V = 0 ∧ E = 0) := FZ.out hn (G.out.2.1 rfl)
          clear hn
          go_wp2
          go_ret2
          exact ⟨retII ⟨fm.out.1.symm, fm.out.2.symm⟩, rfl⟩
        | false =>
          have hz : ¬ hasZero l := D5.out (by intro i hi; have := G.out.2.2 rfl i hi; omega)
          have FM' : Hid (∀ j, prodL (l.take j) > 16384 → V = 0 ∧ E = 12) := FM.out hn hz
          have FL' : Hid (hasLong l → V = 0 ∧ E = 12) := FL.out hn hz
          have FO' : Hid (prodL l ≤ 16384 → V = prodL l ∧ E = 0) := FO.out hn hz
          have FB' : Hid (∀ j, j < l.length → prodL (l.take j) ≤ 16384 → l[j]?.getD 0 ≤ 16384 → 1 ≤ prodL (l.take j) ∧ 1 ≤ l[j]?.getD 0 ∧ 0 ≤ prodL (l.take j) * l[j]?.getD 0 ∧ prodL (l.take j) * l[j]?.getD 0 ≤ 268435456) := FB.out hn hz
          clear FM FL FO FB FN FZ D1 D2 D4 D5 G hn hz
          go_wp2
          go_loop [6, 7] (fun x i => ∃ j : Nat, j ≤ l.length ∧ i = .int .i64 j ∧ x = .int .i64 (prodL (l.take j)) ∧ prodL (l.take j) ≤ 16384) (fun _ i => l.length - (intOf i).toNat)
          case atStart => exact ⟨0, Nat.zero_le _, rfl, by simp [prodL], by simp [prodL]⟩
          case round =>
            obtain ⟨j, hj, rfl, rfl, hpj⟩ := hrel
            by_cases hlt : j < l.length
            · obtain ⟨b, off, ha, hb, hck⟩ := hrow hlt
              subst ha
              have e1 : Hid (prodL (l.take (j + 1)) = prodL (l.take j) * l[j]?.getD 0) := prodL_take_succ l j hlt
              have FBj : Hid (l[j]?.getD 0 ≤ 16384 → 1 ≤ prodL (l.take j) ∧ 1 ≤ l[j]?.getD 0 ∧ 0 ≤ prodL (l.take j) * l[j]?.getD 0 ∧ prodL (l.take j) * l[j]?.getD 0 ≤ 268435456) := FB'.out j hlt hpj
              have FLj : Hid (l[j]?.getD 0 > 16384 → V = 0 ∧ E = 12) := fun h => FL'.out (D3.out j hlt h)
              obtain ⟨z, hz⟩ : ∃ z, l[j]?.getD 0 = z := ⟨_, rfl⟩
              rw [hz] at hck e1 FBj FLj
              clear hrow hz FB' D3
              generalize prodL (l.take j) = r at e1 hpj FBj
              by_cases hlong : z ≤ 16384
              · obtain ⟨f1, f2, f4, f5⟩ := FBj.out hlong
                obtain ⟨m, hm⟩ : ∃ m, r * z = m := ⟨_, rfl⟩
                rw [hm] at e1 f4 f5
                clear FBj FLj
                by_cases hbig : m ≤ 16384
                · go_wp2
                  go_round
                  case rel => exact ⟨j + 1, by omega, by go_num, by rw [e1.out], by rw [e1.out]; exact hbig⟩
                  case measure => simp [intOf]; omega
                · have fm : Hid (V = 0 ∧ E = 12) := FM'.out (j + 1) (by rw [e1.out]; omega)
                  go_wp2
                  go_ret2
                  exact ⟨retII ⟨fm.out.1.symm, fm.out.2.symm⟩, rfl⟩
              · have fm : Hid (V = 0 ∧ E = 12) := FLj.out (by omega)
                clear FBj FLj
                go_wp2
                go_ret2
                exact ⟨retII ⟨fm.out.1.symm, fm.out.2.symm⟩, rfl⟩
            · have hje : j = l.length := by omega
              subst hje
              rw [List.take_length] at hpj ⊢
              have fo : Hid (V = prodL l ∧ E = 0) := FO'.out hpj
              go_wp2
              go_ret2
              exact ⟨retII ⟨fo.out.1.symm, fo.out.2.symm⟩, rfl⟩
end Go.Proofs.Ytimkcpbgnoekcaa
namespace Go.Proofs.Ytimkcpbgnoekcaa
open Go.ChangeShapes Go.WideShapes Go.ChangeAt Go.RowKit
noncomputable instance (l at' : List Int) : Decidable (inAxes l at') := Classical.propDecidable _
/-- Place's answer. -/
noncomputable def plcV (l m : List Int) : Int := if sizeE l = 0 ∧ inAxes l m then place l m else 0
noncomputable def plcE (l m : List Int) : Int := if sizeE l ≠ 0 then sizeE l else if m.length ≠ l.length then 6 else if inAxes l m then 0 else 8
theorem sizeE_ok {l : List Int} (h : sizeE l = 0) : ¬ 8 < l.length ∧ ¬ hasNeg l ∧ (hasZero l ∨ (¬ hasZero l ∧ prodL l ≤ 16384)) := by
  unfold sizeE at h
  by_cases h8 : 8 < l.length
  · simp [h8] at h
  · by_cases hn : hasNeg l
    · simp [h8, hn] at h
    · by_cases hz : hasZero l
      · exact ⟨h8, hn, Or.inl hz⟩
      · by_cases hm : 16384 < prodL l
        · simp [h8, hn, hz, hm] at h
        · exact ⟨h8, hn, Or.inr ⟨hz, by omega⟩⟩
end Go.Proofs.Ytimkcpbgnoekcaa
namespace Go.Proofs.Ytimkcpbgnoekcaa
open Go.ChangeShapes Go.WideShapes Go.ChangeAt Go.RowKit
theorem drewN_below {B : Nat} {w wr : World} (h : Below B w wr) (m : Nat) : Below B w (wr.drewN m) := ⟨h.os, h.tape, h.output, h.size, h.block⟩
theorem int3 : (Try.prog.info? 3).map (fun i => (i.zero, i.size, i.bytes)) = some (some (.int .i64 0), 1, 8) := by kernel_rfl
theorem sizeV_in {l : List Int} {n : Int} (hs : sizeE l = 0) (h0 : 0 ≤ n) (h1 : n < sizeV l) : ¬ 8 < l.length ∧ (∀ z ∈ l, 0 < z) ∧ sizeV l = prodL l ∧ prodL l ≤ 16384 := by
  obtain ⟨a, b, c⟩ := sizeE_ok hs
  rcases c with c | ⟨c, d⟩
  · rw [(size_zero a b c).1] at h1
    omega
  · exact ⟨a, all_pos b c, (size_ok a b c (by omega)).1, d⟩
end Go.Proofs.Ytimkcpbgnoekcaa
namespace Go.Proofs.Ytimkcpbgnoekcaa
open Go.ChangeShapes Go.WideShapes Go.ChangeAt Go.RowKit
theorem cell_apart {w : World} {p q : Addr} {v : Value} (h : p.block ≠ q.block) (x : Value) (hc : w.cell? p = some v) : (w.setCell q x).cell? p = some v := by
  rw [World.cell?_of_block (w := w) (Below.heap_setCell w q x p.block h)]
  exact hc
end Go.Proofs.Ytimkcpbgnoekcaa
namespace Go.Proofs.Ytimkcpbgnoekcaa
open Go.ChangeShapes Go.WideShapes Go.ChangeAt Go.RowKit
/-- An array: its shape, and its cells: kind, number, what is in the box. -/
inductive Ar where
  | mk (shape : List Int) (cells : List (Int × Int × List Ar))
abbrev Ce := Int × Int × List Ar
def Ar.shape : Ar → List Int
  | .mk s _ => s
def Ar.cells : Ar → List Ce
  | .mk _ c => c
instance : Inhabited Ar := ⟨.mk [] []⟩
/-- A number of 64 bits; an array all of whose numbers are such, boxes gone into. -/
def I64 (a : Int) : Prop := -9223372036854775808 ≤ a ∧ a ≤ 9223372036854775807
inductive Snd : Ar → Prop where
  | mk {s : List Int} {cs : List (Int × Int × List Ar)} (hs : ∀ z ∈ s, I64 z) (hn : ∀ c ∈ cs, I64 c.1 ∧ I64 c.2.1) (hb : ∀ c ∈ cs, ∀ y ∈ c.2.2, Snd y) : Snd (.mk s cs)
def SndC (c : Ce) : Prop := I64 c.1 ∧ I64 c.2.1 ∧ ∀ y ∈ c.2.2, Snd y
theorem Snd.of {s : List Int} {cs : List Ce} (hs : ∀ z ∈ s, I64 z) (hc : ∀ c ∈ cs, SndC c) : Snd (.mk s cs) := .mk hs (fun c h => ⟨(hc c h).1, (hc c h).2.1⟩) fun c h => (hc c h).2.2
theorem Snd.cell {x : Ar} (h : Snd x) {c : Ce} (hc : c ∈ x.cells) : SndC c := by
  cases h with
  | mk hs hn hb => exact ⟨(hn c hc).1, (hn c hc).2, hb c hc⟩
theorem Snd.axis {x : Ar} (h : Snd x) {z : Int} (hz : z ∈ x.shape) : I64 z := by
  cases h with
  | mk hs hn hb => exact hs z hz
/-- The cell at a place, the array at a place of a box. -/
def cAt (l : List Ce) (i : Nat) : Ce := l[i]?.getD (0, 0, [])
def bAt (l : List Ar) (i : Nat) : Ar := l[i]?.getD (.mk [] [])
/-- A cell's value: its three cells of memory; a box's arrays lie in a row, two cells of memory each. -/
def CeIn (P : Ar → Value → Prop) (lo : Nat) (w : World) (c : Ce) (v0 v1 v2 : Value) : Prop :=
  v0 = .int .i64 c.1 ∧ v1 = .int .i64 c.2.1 ∧ ∃ a cap, v2 = .slice a c.2.2.length cap ∧ c.2.2.length ≤ 5864062014805 ∧ (c.2.2 = [] ∨ ∃ b off, a = some ⟨b, off, none⟩ ∧ lo ≤ b ∧ b < w.heap.size ∧
    ∀ j, j < c.2.2.length → ∃ u0 u1, w.cell? ⟨b, off + j * 2, none⟩ = some u0 ∧ w.cell? ⟨b, off + j * 2 + 1, none⟩ = some u1 ∧ P (bAt c.2.2 j) (.agg #[u0, u1]))
/-- An array's value, no deeper than n boxes; all its memory in blocks from lo on. -/
def ArIn : Nat → Nat → World → Ar → Value → Prop
  | 0, _, _, _, _ => False
  | n + 1, lo, w, x, v => ∃ a1 c1 a2 c2, v = .agg #[.slice a1 x.shape.length c1, .slice a2 x.cells.length c2] ∧ Row lo w a1 x.shape ∧ x.cells.length ≤ 5864062014805 ∧ (x.cells = [] ∨ ∃ b off, a2 = some ⟨b, off, none⟩ ∧ lo ≤ b ∧ b < w.heap.size ∧
      ∀ i, i < x.cells.length → ∃ v0 v1 v2, w.cell? ⟨b, off + i * 3, none⟩ = some v0 ∧ w.cell? ⟨b, off + i * 3 + 1, none⟩ = some v1 ∧ w.cell? ⟨b, off + i * 3 + 2, none⟩ = some v2 ∧ CeIn (ArIn n lo w) lo w (cAt x.cells i) v0 v1 v2)
theorem CeIn.mono {P Q : Ar → Value → Prop} {lo lo' : Nat} {w w' : World} {c : Ce} {v0 v1 v2 : Value} (h : CeIn P lo w c v0 v1 v2) (hl : lo' ≤ lo) (hb : Below w.heap.size w w') (hPQ : ∀ x v, P x v → Q x v) : CeIn Q lo' w' c v0 v1 v2 := by
  obtain ⟨h0, h1, a, cap, h2, h3, h4⟩ := h
  refine ⟨h0, h1, a, cap, h2, h3, ?_⟩
  rcases h4 with h4 | ⟨b, off, ha, hlo, hbb, hc⟩
  · exact Or.inl h4
  · refine Or.inr ⟨b, off, ha, Nat.le_trans hl hlo, Nat.lt_of_lt_of_le hbb hb.size, fun j hj => ?_⟩
    obtain ⟨u0, u1, e0, e1, e2⟩ := hc j hj
    exact ⟨u0, u1, (hb.cell (p := ⟨b, off + j * 2, none⟩) hbb).trans e0, (hb.cell (p := ⟨b, off + j * 2 + 1, none⟩) hbb).trans e1, hPQ _ _ e2⟩
theorem ArIn.mono {n lo lo' : Nat} {w w' : World} {x : Ar} {v : Value} (h : ArIn n lo w x v) (hl : lo' ≤ lo) (hb : Below w.heap.size w w') : ArIn n lo' w' x v := by
  induction n generalizing x v with
  | zero => exact h.elim
  | succ n ih =>
    obtain ⟨a1, c1, a2, c2, hv, hR, hlen, hc⟩ := h
    refine ⟨a1, c1, a2, c2, hv, (hR.next hb).low hl, hlen, ?_⟩
    rcases hc with hc | ⟨b, off, ha, hlo, hbb, hc⟩
    · exact Or.inl hc
    · refine Or.inr ⟨b, off, ha, Nat.le_trans hl hlo, Nat.lt_of_lt_of_le hbb hb.size, fun i hi => ?_⟩
      obtain ⟨v0, v1, v2, e0, e1, e2, e3⟩ := hc i hi
      exact ⟨v0, v1, v2, (hb.cell (p := ⟨b, off + i * 3, none⟩) hbb).trans e0, (hb.cell (p := ⟨b, off + i * 3 + 1, none⟩) hbb).trans e1, (hb.cell (p := ⟨b, off + i * 3 + 2, none⟩) hbb).trans e2, e3.mono hl hb fun x v h => ih h⟩
theorem ArIn.next {n lo : Nat} {w w' : World} {x : Ar} {v : Value} (h : ArIn n lo w x v) (hb : Below w.heap.size w w') : ArIn n lo w' x v := h.mono (Nat.le_refl _) hb
theorem CeIn.deeper {P Q : Ar → Value → Prop} {lo : Nat} {w : World} {c : Ce} {v0 v1 v2 : Value} (h : CeIn P lo w c v0 v1 v2) (hPQ : ∀ x v, P x v → Q x v) : CeIn Q lo w c v0 v1 v2 := h.mono (Nat.le_refl _) (Below.refl _ _) hPQ
theorem ArIn.deeper {n lo : Nat} {w : World} {x : Ar} {v : Value} (h : ArIn n lo w x v) : ArIn (n + 1) lo w x v := by
  induction n generalizing x v with
  | zero => exact h.elim
  | succ n ih =>
    obtain ⟨a1, c1, a2, c2, hv, hR, hlen, hc⟩ := h
    refine ⟨a1, c1, a2, c2, hv, hR, hlen, ?_⟩
    rcases hc with hc | ⟨b, off, ha, hlo, hbb, hc⟩
    · exact Or.inl hc
    · refine Or.inr ⟨b, off, ha, hlo, hbb, fun i hi => ?_⟩
      obtain ⟨v0, v1, v2, e0, e1, e2, e3⟩ := hc i hi
      exact ⟨v0, v1, v2, e0, e1, e2, e3.deeper fun x v h => ih h⟩
theorem ArIn.deep {n m lo : Nat} {w : World} {x : Ar} {v : Value} (h : ArIn n lo w x v) (hm : n ≤ m) : ArIn m lo w x v := by
  induction hm with
  | refl => exact h
  | step _ ih => exact ih.deeper
/-- How two numbers stand to one another. -/
def cmp3 (a b : Int) : Int := if a < b then -1 else if b < a then 1 else 0
/-- The first that is not 0 among the first m. -/
def firstUp (f : Nat → Int) : Nat → Int
  | 0 => 0
  | m + 1 => if firstUp f m = 0 then f m else firstUp f m
theorem firstUp_stays {f : Nat → Int} {j : Nat} (h : firstUp f j ≠ 0) (m : Nat) (hm : j ≤ m) : firstUp f m = firstUp f j := by
  induction hm with
  | refl => rfl
  | step _ ih => simp only [firstUp]; rw [ih, if_neg h]
theorem firstUp_hit {f : Nat → Int} {j : Nat} (h0 : firstUp f j = 0) (h : f j ≠ 0) (m : Nat) (hm : j < m) : firstUp f m = f j := by
  have e : firstUp f (j + 1) = f j := by simp [firstUp, h0]
  rw [← e]
  exact firstUp_stays (by rw [e]; exact h) m hm
theorem firstUp_step {f : Nat → Int} {j : Nat} (h0 : firstUp f j = 0) : firstUp f (j + 1) = f j := by simp [firstUp, h0]
/-- How two cells stand to one another, given how two arrays do. -/
def cmpC (f : Ar → Ar → Int) (c d : Ce) : Int :=
  if cmp3 c.1 d.1 ≠ 0 then cmp3 c.1 d.1 else if cmp3 c.2.1 d.2.1 ≠ 0 then cmp3 c.2.1 d.2.1
  else if 0 < c.2.2.length ∧ 0 < d.2.2.length then f (bAt c.2.2 0) (bAt d.2.2 0) else cmp3 c.2.2.length d.2.2.length
def axF (x y : Ar) (i : Nat) : Int := cmp3 (x.shape[i]?.getD 0) (y.shape[i]?.getD 0)
def ceF (f : Ar → Ar → Int) (x y : Ar) (i : Nat) : Int := cmpC f (cAt x.cells i) (cAt y.cells i)
/-- How two arrays stand to one another, no deeper than n boxes. -/
def cmpA : Nat → Ar → Ar → Int
  | 0, _, _ => 0
  | n + 1, x, y =>
    if cmp3 x.shape.length y.shape.length ≠ 0 then cmp3 x.shape.length y.shape.length
    else if firstUp (axF x y) x.shape.length ≠ 0 then firstUp (axF x y) x.shape.length
    else if firstUp (ceF (cmpA n) x y) (min x.cells.length y.cells.length) ≠ 0 then firstUp (ceF (cmpA n) x y) (min x.cells.length y.cells.length)
    else cmp3 x.cells.length y.cells.length
end Go.Proofs.Ytimkcpbgnoekcaa
namespace Go.Proofs.Ytimkcpbgnoekcaa
open Go.ChangeShapes Go.WideShapes Go.ChangeAt Go.RowKit
set_option linter.unusedVariables false
theorem cell_new (w : World) (cs : Array Value) (t : TypeId) (fr : Nat × Nat) (i : Nat) (v : Value) (h : cs[i]? = some v) : (w.alloc (.cells cs t fr)).cell? ⟨w.heap.size, i, none⟩ = some v := by
  have : (w.alloc (.cells cs t fr)).heap[w.heap.size]? = some (.cells cs t fr) := by
    show (w.heap.push _)[w.heap.size]? = _
    simp
  unfold World.cell?
  simp only [this, h]
  rfl
theorem cell_new1 (w : World) (cs : Array Value) (t : TypeId) (fr : Nat × Nat) (o2 : Obj) (i : Nat) (v : Value) (h : cs[i]? = some v) : ((w.alloc (.cells cs t fr)).alloc o2).cell? ⟨w.heap.size, i, none⟩ = some v :=
  (((Below.refl _ _).alloc (Nat.le_refl _) o2).cell (p := ⟨w.heap.size, i, none⟩) (by simp)).trans (cell_new w cs t fr i v h)
theorem cell_new2 (w : World) (cs : Array Value) (t : TypeId) (fr : Nat × Nat) (o1 : Obj) (i : Nat) (v : Value) (h : cs[i]? = some v) : ((w.alloc o1).alloc (.cells cs t fr)).cell? ⟨w.heap.size + 1, i, none⟩ = some v := by
  have := cell_new (w.alloc o1) cs t fr i v h
  simpa using this
theorem size_two (w : World) (o1 o2 : Obj) : ((w.alloc o1).alloc o2).heap.size = w.heap.size + 2 := by simp
end Go.Proofs.Ytimkcpbgnoekcaa
namespace Go.Proofs.Ytimkcpbgnoekcaa
open Go.ChangeShapes Go.WideShapes Go.ChangeAt Go.RowKit
set_option maxHeartbeats 1000000 in
theorem ref_ints (a b : Int) (w : World) : Calls Try.prog 43 #[.int .i64 a, .int .i64 b] w fun e w' => e = .returned (.int .i64 (cmp3 a b)) ∧ w' = w := by
  have e1 : a < b → cmp3 a b = -1 := fun h => by simp [cmp3, h]
  have e2 : b < a → cmp3 a b = 1 := fun h => by simp [cmp3, h, Int.not_lt.2 (Int.le_of_lt h)]
  have e3 : ¬ a < b → ¬ b < a → cmp3 a b = 0 := fun h h' => by simp [cmp3, h, h']
  by_cases h1 : a < b
  · rw [e1 h1]
    go_enter Try.func43, Try.ntmps43
    go_wp2
    go_ret
    exact ⟨rfl, rfl⟩
  · by_cases h2 : b < a
    · rw [e2 h2]
      go_enter Try.func43, Try.ntmps43
      go_wp2
      go_ret
      exact ⟨rfl, rfl⟩
    · rw [e3 h1 h2]
      go_enter Try.func43, Try.ntmps43
      go_wp2
      go_ret
      exact ⟨rfl, rfl⟩
end Go.Proofs.Ytimkcpbgnoekcaa
namespace Go.Proofs.Ytimkcpbgnoekcaa
open Go.ChangeShapes Go.WideShapes Go.ChangeAt Go.RowKit
set_option linter.unusedVariables false
/-- What a comparison of arrays promises. -/
def CmpC (k n : Nat) : Prop := ∀ x y lo lo' va vb w, ArIn n lo w x va → ArIn n lo' w y vb → Calls Try.prog k #[va, vb] w fun e w' => e = .returned (.int .i64 (cmpA n x y)) ∧ Below w.heap.size w w'
theorem two_allocs (w : World) (o1 o2 : Obj) : Below w.heap.size w ((w.alloc o1).alloc o2) := ((Below.refl _ _).alloc (Nat.le_refl _) _).alloc (by simp) _
theorem cell_two {w : World} {b off : Nat} {v : Value} (h : w.cell? ⟨b, off, none⟩ = some v) (hb : b < w.heap.size) (o1 o2 : Obj) : ((w.alloc o1).alloc o2).cell? ⟨b, off, none⟩ = some v :=
  ((two_allocs w o1 o2).cell (p := ⟨b, off, none⟩) hb).trans h
theorem cmp3_self (a : Int) : cmp3 a a = 0 := by simp [cmp3]
theorem cmp3_ne {a b : Int} : cmp3 a b ≠ 0 ↔ a ≠ b := by
  unfold cmp3
  constructor
  · intro h e; subst e; simp at h
  · intro h
    by_cases h1 : a < b
    · simp [h1]
    · have : b < a := by omega
      simp [h1, this]
end Go.Proofs.Ytimkcpbgnoekcaa
namespace Go.Proofs.Ytimkcpbgnoekcaa
open Go.ChangeShapes Go.WideShapes Go.ChangeAt Go.RowKit
set_option linter.unusedVariables false
set_option maxHeartbeats 1000000 in
theorem rcell_any (n : Nat) (IH : CmpC 18 n) (c d : Ce) (lo lo' : Nat) (w : World) (v0 v1 v2 u0 u1 u2 : Value) (hc : CeIn (ArIn n lo w) lo w c v0 v1 v2) (hd : CeIn (ArIn n lo' w) lo' w d u0 u1 u2) :
    Calls Try.prog 21 #[.agg #[v0, v1, v2], .agg #[u0, u1, u2]] w fun e w' => e = .returned (.int .i64 (cmpC (cmpA n) c d)) ∧ Below w.heap.size w w' := by
  obtain ⟨rfl, rfl, a, cap, rfl, hl, hx⟩ := hc
  obtain ⟨rfl, rfl, a', cap', rfl, hl', hx'⟩ := hd
  obtain ⟨k, N, box⟩ := c
  obtain ⟨k', N', box'⟩ := d
  simp only at hl hl' hx hx' ⊢
  have K1 : Hid (cmp3 k k' ≠ 0 → cmpC (cmpA n) (k, N, box) (k', N', box') = cmp3 k k') := fun h => by simp [cmpC, h]
  have K2 : Hid (¬ cmp3 k k' ≠ 0 → cmp3 N N' ≠ 0 → cmpC (cmpA n) (k, N, box) (k', N', box') = cmp3 N N') := fun h h' => by simp [cmpC, h, h']
  have K3 : Hid (¬ cmp3 k k' ≠ 0 → ¬ cmp3 N N' ≠ 0 → 0 < box.length ∧ 0 < box'.length → cmpC (cmpA n) (k, N, box) (k', N', box') = cmpA n (bAt box 0) (bAt box' 0)) := fun h h' h'' => by
    unfold cmpC; rw [if_neg h, if_neg h', if_pos h'']
  have K4 : Hid (¬ cmp3 k k' ≠ 0 → ¬ cmp3 N N' ≠ 0 → ¬ (0 < box.length ∧ 0 < box'.length) → cmpC (cmpA n) (k, N, box) (k', N', box') = cmp3 box.length box'.length) := fun h h' h'' => by
    unfold cmpC; rw [if_neg h, if_neg h', if_neg h'']
  generalize cmpC (cmpA n) (k, N, box) (k', N', box') = r at K1 K2 K3 K4
  by_cases h1 : cmp3 k k' ≠ 0
  · have hr : Hid (r = cmp3 k k') := K1.out h1
    clear K1 K2 K3 K4 hx hx'
    generalize box.length = B1
    generalize box'.length = B2
    go_enter Try.func21, Try.ntmps21
    go_wp2_with fail
    refine (ref_ints _ _ _).mono ?_
    rintro e w1 ⟨rfl, hw⟩
    rw [hw]
    clear hw
    go_wp2
    go_ret
    exact ⟨retI hr.out.symm, two_allocs _ _ _⟩
  · have H1 : Hid (¬ cmp3 k k' ≠ 0) := h1
    have z1 : cmp3 k k' = 0 := by simpa using h1
    clear h1 K1
    by_cases h2 : cmp3 N N' ≠ 0
    · have hr : Hid (r = cmp3 N N') := K2.out H1.out h2
      clear K2 K3 K4 hx hx'
      generalize box.length = B1
      generalize box'.length = B2
      go_enter Try.func21, Try.ntmps21
      go_wp2_with fail
      refine (ref_ints _ _ _).mono ?_
      rintro e w1 ⟨rfl, hw⟩
      rw [hw, z1]
      clear hw
      go_wp2_with fail
      refine (ref_ints _ _ _).mono ?_
      rintro e w1 ⟨rfl, hw⟩
      rw [hw]
      clear hw
      go_wp2
      go_ret
      exact ⟨retI hr.out.symm, two_allocs _ _ _⟩
    · have H2 : Hid (¬ cmp3 N N' ≠ 0) := h2
      have z2 : cmp3 N N' = 0 := by simpa using h2
      clear h2 K2
      by_cases h3 : 0 < box.length ∧ 0 < box'.length
      · have hr : Hid (r = cmpA n (bAt box 0) (bAt box' 0)) := K3.out H1.out H2.out h3
        rcases hx with hx | ⟨b, off, rfl, hlo, hb, hx⟩
        · rw [hx] at h3; simp at h3
        rcases hx' with hx' | ⟨b', off', rfl, hlo', hb', hx'⟩
        · rw [hx'] at h3; simp at h3
        obtain ⟨s0, s1, e0, e1, e2⟩ := hx 0 h3.1
        obtain ⟨t0, t1, f0, f1, f2⟩ := hx' 0 h3.2
        simp only [Nat.zero_mul, Nat.add_zero] at e0 e1 f0 f1
        have g0 := cell_two e0 hb
        have g1 := cell_two e1 hb
        have j0 := cell_two f0 hb'
        have j1 := cell_two f1 hb'
        obtain ⟨h3a, h3b⟩ := h3
        have HX : Hid (Calls Try.prog 18 #[.agg #[s0, s1], .agg #[t0, t1]] ((w.alloc (.cells #[.int .i64 k, .int .i64 N, .slice (some ⟨b, off, none⟩) box.length cap] 39)).alloc (.cells #[.int .i64 k', .int .i64 N', .slice (some ⟨b', off', none⟩) box'.length cap'] 39)).drew fun e w' => e = .returned (.int .i64 r) ∧ Below w.heap.size w w') := by
          have hbel := (two_allocs w (.cells #[.int .i64 k, .int .i64 N, .slice (some ⟨b, off, none⟩) box.length cap] 39) (.cells #[.int .i64 k', .int .i64 N', .slice (some ⟨b', off', none⟩) box'.length cap'] 39)).drew
          refine (IH _ _ lo lo' _ _ _ (e2.next hbel) (f2.next hbel)).mono ?_
          rintro e w1 ⟨rfl, hb1⟩
          exact ⟨retI hr.out.symm, hbel.trans (hb1.mono hbel.size)⟩
        clear K3 K4 hx hx' IH e2 f2 e0 e1 f0 f1 hr H1 H2
        generalize box.length = B1 at h3a hl HX
        generalize box'.length = B2 at h3b hl' HX
        go_enter Try.func21, Try.ntmps21
        go_wp2_with fail
        refine (ref_ints _ _ _).mono ?_
        rintro e w1 ⟨rfl, hw⟩
        rw [hw, z1]
        clear hw
        go_wp2_with fail
        refine (ref_ints _ _ _).mono ?_
        rintro e w1 ⟨rfl, hw⟩
        rw [hw, z2]
        clear hw z1 z2
        go_wp2
        go_region_with (go_at_call 18; refine HX.out.mono ?_; rintro e w1 ⟨rfl, hb1⟩)
        all_goals go_wp2
        all_goals go_ret
        all_goals exact ⟨rfl, hb1⟩
      · have hr : Hid (r = cmp3 box.length box'.length) := K4.out H1.out H2.out h3
        clear K3 K4 hx hx' IH H1 H2
        generalize box.length = B1 at h3 hl hr
        generalize box'.length = B2 at h3 hl' hr
        by_cases h4 : 0 < B1
        · have h5 : B2 = 0 := by omega
          subst h5
          clear h3
          go_enter Try.func21, Try.ntmps21
          go_wp2_with fail
          refine (ref_ints _ _ _).mono ?_
          rintro e w1 ⟨rfl, hw⟩
          rw [hw, z1]
          clear hw
          go_wp2_with fail
          refine (ref_ints _ _ _).mono ?_
          rintro e w1 ⟨rfl, hw⟩
          rw [hw, z2]
          clear hw z1 z2
          go_wp2_with fail
          refine (ref_ints _ _ _).mono ?_
          rintro e w1 ⟨rfl, hw⟩
          rw [hw]
          clear hw
          go_wp2
          go_ret
          exact ⟨retI hr.out.symm, two_allocs _ _ _⟩
        · have h5 : B1 = 0 := by omega
          subst h5
          clear h3 h4
          go_enter Try.func21, Try.ntmps21
          go_wp2_with fail
          refine (ref_ints _ _ _).mono ?_
          rintro e w1 ⟨rfl, hw⟩
          rw [hw, z1]
          clear hw
          go_wp2_with fail
          refine (ref_ints _ _ _).mono ?_
          rintro e w1 ⟨rfl, hw⟩
          rw [hw, z2]
          clear hw z1 z2
          go_wp2_with fail
          refine (ref_ints _ _ _).mono ?_
          rintro e w1 ⟨rfl, hw⟩
          rw [hw]
          clear hw
          go_wp2
          go_ret
          exact ⟨retI hr.out.symm, two_allocs _ _ _⟩
end Go.Proofs.Ytimkcpbgnoekcaa
namespace Go.Proofs.Ytimkcpbgnoekcaa
open Go.ChangeShapes Go.WideShapes Go.ChangeAt Go.RowKit
set_option linter.unusedVariables false
theorem hide {p : Prop} (h : p) : Hid p := h
theorem firstUp_zero {f : Nat → Int} {m : Nat} (h : firstUp f m = 0) (j : Nat) (hj : j ≤ m) : firstUp f j = 0 :=
  Decidable.byContradiction fun h' => h' (by rw [← firstUp_stays h' m hj]; exact h)
set_option maxHeartbeats 2000000 in
theorem rcmp_any (n : Nat) : CmpC 18 n := by
  induction n with
  | zero => intro x y lo lo' va vb w hx; exact hx.elim
  | succ n IH =>
    intro x y lo lo' va vb w hx hy
    obtain ⟨a1, c1, a2, c2, rfl, R, hl, hc⟩ := hx
    obtain ⟨b1, d1, b2, d2, rfl, R', hl', hd⟩ := hy
    have hlR := R.1
    have hlR' := R'.1
    have K1 : Hid (cmp3 x.shape.length y.shape.length ≠ 0 → cmpA (n + 1) x y = cmp3 x.shape.length y.shape.length) := fun h => by simp only [cmpA]; rw [if_pos h]
    have K2 : Hid (¬ cmp3 x.shape.length y.shape.length ≠ 0 → firstUp (axF x y) x.shape.length ≠ 0 → cmpA (n + 1) x y = firstUp (axF x y) x.shape.length) := fun h h' => by simp only [cmpA]; rw [if_neg h, if_pos h']
    have K3 : Hid (¬ cmp3 x.shape.length y.shape.length ≠ 0 → ¬ firstUp (axF x y) x.shape.length ≠ 0 → firstUp (ceF (cmpA n) x y) (min x.cells.length y.cells.length) ≠ 0 → cmpA (n + 1) x y = firstUp (ceF (cmpA n) x y) (min x.cells.length y.cells.length)) := fun h h' h'' => by simp only [cmpA]; rw [if_neg h, if_neg h', if_pos h'']
    have K4 : Hid (¬ cmp3 x.shape.length y.shape.length ≠ 0 → ¬ firstUp (axF x y) x.shape.length ≠ 0 → ¬ firstUp (ceF (cmpA n) x y) (min x.cells.length y.cells.length) ≠ 0 → cmpA (n + 1) x y = cmp3 x.cells.length y.cells.length) := fun h h' h'' => by simp only [cmpA]; rw [if_neg h, if_neg h', if_neg h'']
    generalize cmpA (n + 1) x y = r at K1 K2 K3 K4
    have hb0 := two_allocs w (.cells #[.slice a1 x.shape.length c1, .slice a2 x.cells.length c2] 25) (.cells #[.slice b1 y.shape.length d1, .slice b2 y.cells.length d2] 25)
    have sz := size_two w (.cells #[.slice a1 x.shape.length c1, .slice a2 x.cells.length c2] 25) (.cells #[.slice b1 y.shape.length d1, .slice b2 y.cells.length d2] 25)
    have A0 := cell_new1 w #[.slice a1 x.shape.length c1, .slice a2 x.cells.length c2] 25 (0, 0) (.cells #[.slice b1 y.shape.length d1, .slice b2 y.cells.length d2] 25) 0 _ rfl
    have A1 := cell_new1 w #[.slice a1 x.shape.length c1, .slice a2 x.cells.length c2] 25 (0, 0) (.cells #[.slice b1 y.shape.length d1, .slice b2 y.cells.length d2] 25) 1 _ rfl
    have B0 := cell_new2 w #[.slice b1 y.shape.length d1, .slice b2 y.cells.length d2] 25 (0, 0) (.cells #[.slice a1 x.shape.length c1, .slice a2 x.cells.length c2] 25) 0 _ rfl
    have B1 := cell_new2 w #[.slice b1 y.shape.length d1, .slice b2 y.cells.length d2] 25 (0, 0) (.cells #[.slice a1 x.shape.length c1, .slice a2 x.cells.length c2] 25) 1 _ rfl
    obtain ⟨W2, eW⟩ : ∃ W2, W2 = (w.alloc (.cells #[.slice a1 x.shape.length c1, .slice a2 x.cells.length c2] 25)).alloc (.cells #[.slice b1 y.shape.length d1, .slice b2 y.cells.length d2] 25) := ⟨_, rfl⟩
    rw [← eW] at hb0 sz A0 A1 B0 B1
    /- What a world later on still holds. -/
    have HA : Hid (∀ wr, Below (w.heap.size + 2) W2 wr → wr.cell? ⟨w.heap.size, 0, none⟩ = some (.slice a1 x.shape.length c1) ∧ wr.cell? ⟨w.heap.size, 1, none⟩ = some (.slice a2 x.cells.length c2) ∧ wr.cell? ⟨w.heap.size + 1, 0, none⟩ = some (.slice b1 y.shape.length d1) ∧ wr.cell? ⟨w.heap.size + 1, 1, none⟩ = some (.slice b2 y.cells.length d2)) := by
      intro wr hb
      exact ⟨(hb.cell (p := ⟨w.heap.size, 0, none⟩) (by show w.heap.size < _; omega)).trans A0, (hb.cell (p := ⟨w.heap.size, 1, none⟩) (by show w.heap.size < _; omega)).trans A1, (hb.cell (p := ⟨w.heap.size + 1, 0, none⟩) (by show w.heap.size + 1 < _; omega)).trans B0, (hb.cell (p := ⟨w.heap.size + 1, 1, none⟩) (by show w.heap.size + 1 < _; omega)).trans B1⟩
    have HW : Hid (∀ wr, Below (w.heap.size + 2) W2 wr → Below w.heap.size w wr) := fun wr hb => hb0.trans (hb.mono (by omega))
    have HS : Hid (∀ i, i < x.shape.length → i < y.shape.length → ∃ b off b' off' s t, a1 = some ⟨b, off, none⟩ ∧ b1 = some ⟨b', off', none⟩ ∧ axF x y i = cmp3 s t ∧ ∀ wr, Below (w.heap.size + 2) W2 wr → wr.cell? ⟨b, off + i, none⟩ = some (.int .i64 s) ∧ wr.cell? ⟨b', off' + i, none⟩ = some (.int .i64 t)) := by
      intro i hi hi'
      obtain ⟨b, off, ha, hb, hck⟩ := row_at R hi
      obtain ⟨b', off', ha', hb', hck'⟩ := row_at R' hi'
      exact ⟨b, off, b', off', _, _, ha, ha', rfl, fun wr hw => ⟨((HW.out wr hw).cell (p := ⟨b, off + i, none⟩) hb).trans hck, ((HW.out wr hw).cell (p := ⟨b', off' + i, none⟩) hb').trans hck'⟩⟩
    have HC : Hid (∀ i, i < x.cells.length → i < y.cells.length → ∃ b off b' off' v0 v1 v2 u0 u1 u2, a2 = some ⟨b, off, none⟩ ∧ b2 = some ⟨b', off', none⟩ ∧ ∀ wr, Below (w.heap.size + 2) W2 wr → (wr.cell? ⟨b, off + i * 3, none⟩ = some v0 ∧ wr.cell? ⟨b, off + i * 3 + 1, none⟩ = some v1 ∧ wr.cell? ⟨b, off + i * 3 + 2, none⟩ = some v2) ∧ (wr.cell? ⟨b', off' + i * 3, none⟩ = some u0 ∧ wr.cell? ⟨b', off' + i * 3 + 1, none⟩ = some u1 ∧ wr.cell? ⟨b', off' + i * 3 + 2, none⟩ = some u2) ∧
        Calls Try.prog 21 #[.agg #[v0, v1, v2], .agg #[u0, u1, u2]] wr.drew fun e w' => e = .returned (.int .i64 (ceF (cmpA n) x y i)) ∧ Below (w.heap.size + 2) W2 w') := by
      intro i hi hi'
      rcases hc with hc | ⟨b, off, ha, hlo, hb, hc⟩
      · rw [hc] at hi; simp at hi
      rcases hd with hd | ⟨b', off', ha', hlo', hb', hd⟩
      · rw [hd] at hi'; simp at hi'
      obtain ⟨v0, v1, v2, e0, e1, e2, e3⟩ := hc i hi
      obtain ⟨u0, u1, u2, f0, f1, f2, f3⟩ := hd i hi'
      refine ⟨b, off, b', off', v0, v1, v2, u0, u1, u2, ha, ha', ?_⟩
      intro wr hw
      have hbw := HW.out wr hw
      refine ⟨⟨(hbw.cell (p := ⟨b, off + i * 3, none⟩) hb).trans e0, (hbw.cell (p := ⟨b, off + i * 3 + 1, none⟩) hb).trans e1, (hbw.cell (p := ⟨b, off + i * 3 + 2, none⟩) hb).trans e2⟩,
        ⟨(hbw.cell (p := ⟨b', off' + i * 3, none⟩) hb').trans f0, (hbw.cell (p := ⟨b', off' + i * 3 + 1, none⟩) hb').trans f1, (hbw.cell (p := ⟨b', off' + i * 3 + 2, none⟩) hb').trans f2⟩, ?_⟩
      have hbm := hbw.drew
      refine (rcell_any n IH _ _ lo lo' wr.drew _ _ _ _ _ _ (e3.mono (Nat.le_refl _) hbm fun x v h => h.next hbm) (f3.mono (Nat.le_refl _) hbm fun x v h => h.next hbm)).mono ?_
      rintro e w2 ⟨he, hb2⟩
      have hws := hw.size
      exact ⟨he, hw.drew.trans (hb2.mono (by show w.heap.size + 2 ≤ wr.heap.size; omega))⟩
    have HR : Hid (Below (w.heap.size + 2) W2 W2) := Below.refl _ _
    clear hc hd R R' IH A0 B0 A1 B1 hb0 sz
    have HZ1 : Hid (firstUp (axF x y) 0 = 0 ∧ firstUp (ceF (cmpA n) x y) 0 = 0) := ⟨rfl, rfl⟩
    have HE : Hid (¬ cmp3 x.shape.length y.shape.length ≠ 0 → x.shape.length = y.shape.length) := fun h1 => Decidable.byContradiction fun h => h1 (cmp3_ne.2 (by omega))
    generalize axF x y = ax at *
    generalize ceF (cmpA n) x y = ce at *
    generalize x.shape.length = SA at *
    generalize y.shape.length = SB at *
    generalize x.cells.length = CA at *
    generalize y.cells.length = CB at *
    obtain ⟨r1, er1⟩ : ∃ r1, cmp3 SA SB = r1 := ⟨_, rfl⟩
    rw [er1] at K1 K2 K3 K4 HE
    by_cases h1 : r1 ≠ 0
    · have hr : Hid (r = r1) := K1.out h1
      clear K1 K2 K3 K4 HS HC
      go_enter Try.func18, Try.ntmps18
      go_wp2_with fail
      refine (ref_ints _ _ _).mono ?_
      rintro e w1 ⟨rfl, hw⟩
      rw [hw, er1, ← eW]
      clear hw eW
      go_wp2
      go_loopw [5, 6] (fun o i wr => o = .int .i64 r1 ∧ i = .int .i64 0 ∧ Below (w.heap.size + 2) W2 wr) (fun _ i _ => 0)
      case atStart => exact ⟨rfl, rfl, HR.out⟩
      case round =>
        obtain ⟨rfl, rfl, hnx⟩ := hrel
        obtain ⟨q0, q1, q2, q3⟩ := HA.out _ hnx
        have HX : Hid (Below (w.heap.size + 2) W2 wr) := hnx
        by_cases gS : 0 < SA
        · go_wp2
          clear q0 q1 q2 q3 hnx
          go_loopw [5, 7] (fun o i wr => o = .int .i64 r1 ∧ i = .int .i64 0 ∧ Below (w.heap.size + 2) W2 wr) (fun _ i _ => 0)
          case atStart => exact ⟨rfl, rfl, HX.out⟩
          case round =>
            obtain ⟨rfl, rfl, hnx⟩ := hrel
            obtain ⟨q0, q1, q2, q3⟩ := HA.out _ hnx
            by_cases gA : 0 < CA
            · by_cases gB : 0 < CB
              · go_wp2
                go_ret
                exact ⟨retI hr.out.symm, HW.out _ hnx⟩
              · have gB0 : CB = 0 := by omega
                subst gB0
                go_wp2
                go_ret
                exact ⟨retI hr.out.symm, HW.out _ hnx⟩
            · have gA0 : CA = 0 := by omega
              subst gA0
              go_wp2
              go_ret
              exact ⟨retI hr.out.symm, HW.out _ hnx⟩
        · have gS0 : SA = 0 := by omega
          subst gS0
          go_wp2
          clear q0 q1 q2 q3 hnx
          go_loopw [5, 7] (fun o i wr => o = .int .i64 r1 ∧ i = .int .i64 0 ∧ Below (w.heap.size + 2) W2 wr) (fun _ i _ => 0)
          case atStart => exact ⟨rfl, rfl, HX.out⟩
          case round =>
            obtain ⟨rfl, rfl, hnx⟩ := hrel
            obtain ⟨q0, q1, q2, q3⟩ := HA.out _ hnx
            by_cases gA : 0 < CA
            · by_cases gB : 0 < CB
              · go_wp2
                go_ret
                exact ⟨retI hr.out.symm, HW.out _ hnx⟩
              · have gB0 : CB = 0 := by omega
                subst gB0
                go_wp2
                go_ret
                exact ⟨retI hr.out.symm, HW.out _ hnx⟩
            · have gA0 : CA = 0 := by omega
              subst gA0
              go_wp2
              go_ret
              exact ⟨retI hr.out.symm, HW.out _ hnx⟩
    · have H1 : Hid (¬ r1 ≠ 0) := h1
      have hS := HE.out h1
      have z1 : r1 = 0 := by simpa using h1
      subst z1
      subst hS
      clear h1 K1 HE
      obtain ⟨F1, eF1⟩ : ∃ F1, firstUp ax SA = F1 := ⟨_, rfl⟩
      have HF1 : Hid (firstUp ax SA = F1) := eF1
      rw [eF1] at K2 K3 K4
      clear eF1
      by_cases h2 : F1 ≠ 0
      · have hr : Hid (r = F1) := K2.out H1.out h2
        have HN : Hid (F1 ≠ 0) := h2
        clear K2 K3 K4 H1 HC
        go_enter Try.func18, Try.ntmps18
        go_wp2_with fail
        refine (ref_ints _ _ _).mono ?_
        rintro e w1 ⟨rfl, hw⟩
        rw [hw, er1, ← eW]
        clear hw eW er1
        go_wp2
        go_loopw [5, 6] (fun o i wr => ∃ j : Nat, j ≤ SA ∧ i = .int .i64 (j : Int) ∧ o = .int .i64 (firstUp ax j) ∧ Below (w.heap.size + 2) W2 wr) (fun _ i _ => SA - (intOf i).toNat)
        case atStart => exact ⟨0, Nat.zero_le _, rfl, by rw [HZ1.out.1], HR.out⟩
        case round =>
          obtain ⟨j, hj, rfl, rfl, hnx⟩ := hrel
          by_cases hz : firstUp ax j = 0
          · have hlt : j < SA := by
              rcases Nat.lt_or_eq_of_le hj with h | h
              · exact h
              · subst h; rw [HF1.out] at hz; exact absurd hz HN.out
            obtain ⟨b, off, b', off', s, t, rfl, rfl, hst, hcs⟩ := HS.out j hlt (by omega)
            obtain ⟨k0, k1⟩ := hcs wr hnx
            obtain ⟨q0, q1, q2, q3⟩ := HA.out _ hnx
            have HST : Hid (firstUp ax (j + 1) = cmp3 s t) := by rw [firstUp_step hz]; exact hst
            rw [hz]
            clear hst hcs hz HS HF1
            go_wp2
            go_quiet ((go_at_call 43; exact Calls.quiet_of_same (ref_ints _ _ _)))
            go_wp2
            go_roundw
            case rel => exact ⟨j + 1, by omega, by go_num, by rw [HST.out], drewN_below hnx _⟩
            case measure => simp [intOf]; omega
          · have hF : firstUp ax j = F1 := by rw [← HF1.out]; exact (firstUp_stays hz SA hj).symm
            rw [hF]
            obtain ⟨q0, q1, q2, q3⟩ := HA.out _ hnx
            have HX : Hid (Below (w.heap.size + 2) W2 wr) := hnx
            clear hz hF HF1 HS
            by_cases gS : j < SA
            · go_wp2
              clear q0 q1 q2 q3 hnx
              go_loopw [5, 7] (fun o i wr => o = .int .i64 F1 ∧ i = .int .i64 0 ∧ Below (w.heap.size + 2) W2 wr) (fun _ i _ => 0)
              case atStart => exact ⟨rfl, rfl, HX.out⟩
              case round =>
                obtain ⟨rfl, rfl, hnx⟩ := hrel
                obtain ⟨q0, q1, q2, q3⟩ := HA.out _ hnx
                by_cases gA : 0 < CA
                · by_cases gB : 0 < CB
                  · go_wp2
                    go_ret
                    exact ⟨retI hr.out.symm, HW.out _ hnx⟩
                  · have gB0 : CB = 0 := by omega
                    subst gB0
                    go_wp2
                    go_ret
                    exact ⟨retI hr.out.symm, HW.out _ hnx⟩
                · have gA0 : CA = 0 := by omega
                  subst gA0
                  go_wp2
                  go_ret
                  exact ⟨retI hr.out.symm, HW.out _ hnx⟩
            · go_wp2
              clear q0 q1 q2 q3 hnx
              go_loopw [5, 7] (fun o i wr => o = .int .i64 F1 ∧ i = .int .i64 0 ∧ Below (w.heap.size + 2) W2 wr) (fun _ i _ => 0)
              case atStart => exact ⟨rfl, rfl, HX.out⟩
              case round =>
                obtain ⟨rfl, rfl, hnx⟩ := hrel
                obtain ⟨q0, q1, q2, q3⟩ := HA.out _ hnx
                by_cases gA : 0 < CA
                · by_cases gB : 0 < CB
                  · go_wp2
                    go_ret
                    exact ⟨retI hr.out.symm, HW.out _ hnx⟩
                  · have gB0 : CB = 0 := by omega
                    subst gB0
                    go_wp2
                    go_ret
                    exact ⟨retI hr.out.symm, HW.out _ hnx⟩
                · have gA0 : CA = 0 := by omega
                  subst gA0
                  go_wp2
                  go_ret
                  exact ⟨retI hr.out.symm, HW.out _ hnx⟩
      · have H2 : Hid (¬ F1 ≠ 0) := h2
        have z2 : F1 = 0 := by simpa using h2
        subst z2
        clear h2 K2
        obtain ⟨F2, eF2⟩ : ∃ F2, firstUp ce (min CA CB) = F2 := ⟨_, rfl⟩
        have HF2 : Hid (firstUp ce (min CA CB) = F2) := eF2
        rw [eF2] at K3 K4
        clear eF2
        go_enter Try.func18, Try.ntmps18
        go_wp2_with fail
        refine (ref_ints _ _ _).mono ?_
        rintro e w1 ⟨rfl, hw⟩
        rw [hw, er1, ← eW]
        clear hw eW er1
        go_wp2
        go_loopw [5, 6] (fun o i wr => ∃ j : Nat, j ≤ SA ∧ i = .int .i64 (j : Int) ∧ o = .int .i64 0 ∧ Below (w.heap.size + 2) W2 wr) (fun _ i _ => SA - (intOf i).toNat)
        case atStart => exact ⟨0, Nat.zero_le _, rfl, rfl, HR.out⟩
        case round =>
          obtain ⟨j, hj, rfl, rfl, hnx⟩ := hrel
          by_cases hlt : j < SA
          · clear HC HF2 K3 K4 H1 H2
            obtain ⟨b, off, b', off', s, t, rfl, rfl, hst, hcs⟩ := HS.out j hlt (by omega)
            obtain ⟨k0, k1⟩ := hcs wr hnx
            obtain ⟨q0, q1, q2, q3⟩ := HA.out _ hnx
            have hst0 : cmp3 s t = 0 := by
              rw [← hst, ← firstUp_step (firstUp_zero HF1.out j hj)]
              exact firstUp_zero HF1.out (j + 1) hlt
            clear hst hcs HS HF1
            go_wp2
            go_quiet ((go_at_call 43; exact Calls.quiet_of_same (ref_ints _ _ _)))
            go_wp2
            go_roundw
            case rel => exact ⟨j + 1, by omega, by go_num, by rw [hst0], drewN_below hnx _⟩
            case measure => simp [intOf]; omega
          · obtain ⟨q0, q1, q2, q3⟩ := HA.out _ hnx
            have HX : Hid (Below (w.heap.size + 2) W2 wr) := hnx
            clear HS HF1
            by_cases h3 : F2 ≠ 0
            · have hr : Hid (r = F2) := K3.out H1.out H2.out h3
              have HN : Hid (F2 ≠ 0) := h3
              clear K3 K4 H1 H2
              go_wp2
              clear q0 q1 q2 q3 hnx
              go_loopw [5, 7] (fun o i wr => ∃ j : Nat, j ≤ min CA CB ∧ i = .int .i64 (j : Int) ∧ o = .int .i64 (firstUp ce j) ∧ Below (w.heap.size + 2) W2 wr) (fun _ i _ => min CA CB - (intOf i).toNat)
              case atStart => exact ⟨0, Nat.zero_le _, rfl, by rw [HZ1.out.2], HX.out⟩
              case round =>
                clear HX
                obtain ⟨k, hk, rfl, rfl, hnx⟩ := hrel
                obtain ⟨q0, q1, q2, q3⟩ := HA.out _ hnx
                by_cases hz : firstUp ce k = 0
                · have hlt : k < min CA CB := by
                    rcases Nat.lt_or_eq_of_le hk with h | h
                    · exact h
                    · subst h; rw [HF2.out] at hz; exact absurd hz HN.out
                  have gA : k < CA := by omega
                  have gB : k < CB := by omega
                  obtain ⟨b, off, b', off', v0, v1, v2, u0, u1, u2, rfl, rfl, hcs⟩ := HC.out k gA gB
                  obtain ⟨⟨k0, k1, k2⟩, ⟨k3, k4, k5⟩, C⟩ := hcs wr hnx
                  have HST : Hid (firstUp ce (k + 1) = ce k) := firstUp_step hz
                  rw [hz]
                  have HCC := hide C
                  clear C hcs hz HC HF2
                  go_wp2
                  go_region_with (go_at_call 21; refine HCC.out.mono ?_; rintro e w1 ⟨rfl, hb1⟩)
                  all_goals go_wp2
                  all_goals
                    go_roundw
                    case rel => exact ⟨k + 1, by omega, by go_num, by rw [HST.out], hb1⟩
                    case measure => simp [intOf]; omega
                · have hF : firstUp ce k = F2 := by rw [← HF2.out]; exact (firstUp_stays hz _ hk).symm
                  rw [hF]
                  clear hz hF HF2 HC
                  by_cases gA : k < CA
                  · by_cases gB : k < CB
                    · go_wp2
                      go_ret
                      exact ⟨retI hr.out.symm, HW.out _ hnx⟩
                    · go_wp2
                      go_ret
                      exact ⟨retI hr.out.symm, HW.out _ hnx⟩
                  · go_wp2
                    go_ret
                    exact ⟨retI hr.out.symm, HW.out _ hnx⟩
            · have hr : Hid (r = cmp3 CA CB) := K4.out H1.out H2.out h3
              have z3 : F2 = 0 := by simpa using h3
              subst z3
              clear K3 K4 H1 H2 h3
              go_wp2
              clear q0 q1 q2 q3 hnx
              go_loopw [5, 7] (fun o i wr => ∃ j : Nat, j ≤ min CA CB ∧ i = .int .i64 (j : Int) ∧ o = .int .i64 0 ∧ Below (w.heap.size + 2) W2 wr) (fun _ i _ => min CA CB - (intOf i).toNat)
              case atStart => exact ⟨0, Nat.zero_le _, rfl, rfl, HX.out⟩
              case round =>
                clear HX
                obtain ⟨k, hk, rfl, rfl, hnx⟩ := hrel
                obtain ⟨q0, q1, q2, q3⟩ := HA.out _ hnx
                by_cases hlt : k < min CA CB
                · have gA : k < CA := by omega
                  have gB : k < CB := by omega
                  obtain ⟨b, off, b', off', v0, v1, v2, u0, u1, u2, rfl, rfl, hcs⟩ := HC.out k gA gB
                  obtain ⟨⟨k0, k1, k2⟩, ⟨k3, k4, k5⟩, C⟩ := hcs wr hnx
                  have hst0 : ce k = 0 := by
                    rw [← firstUp_step (firstUp_zero HF2.out k hk)]
                    exact firstUp_zero HF2.out (k + 1) hlt
                  rw [hst0] at C
                  have HCC := hide C
                  clear C hcs HC HF2 hst0
                  go_wp2
                  go_region_with (go_at_call 21; refine HCC.out.mono ?_; rintro e w1 ⟨rfl, hb1⟩)
                  all_goals go_wp2
                  all_goals
                    go_roundw
                    case rel => exact ⟨k + 1, by omega, by go_num, rfl, hb1⟩
                    case measure => simp [intOf]; omega
                · clear HF2 HC
                  by_cases gA : k < CA
                  · have gB : ¬ k < CB := by omega
                    go_wp2_with fail
                    refine (ref_ints _ _ _).mono ?_
                    rintro e w1 ⟨rfl, hw⟩
                    rw [hw]
                    clear hw
                    go_wp2
                    go_ret
                    exact ⟨retI hr.out.symm, HW.out _ hnx⟩
                  · go_wp2_with fail
                    refine (ref_ints _ _ _).mono ?_
                    rintro e w1 ⟨rfl, hw⟩
                    rw [hw]
                    clear hw
                    go_wp2
                    go_ret
                    exact ⟨retI hr.out.symm, HW.out _ hnx⟩
set_option maxHeartbeats 1000000 in
theorem rsame_any {n lo lo' : Nat} {x y : Ar} {va vb : Value} {w : World} (hx : ArIn n lo w x va) (hy : ArIn n lo' w y vb) :
    Calls Try.prog 12 #[va, vb] w fun e w' => e = .returned (.bool (decide (cmpA n x y = 0))) ∧ Below w.heap.size w w' := by
  have C := fun w' hb => rcmp_any n x y lo lo' va vb w' (hx.next hb) (hy.next hb)
  cases n with
  | zero => exact hx.elim
  | succ n =>
    obtain ⟨a1, c1, a2, c2, rfl, -⟩ := hx
    obtain ⟨b1, d1, b2, d2, rfl, -⟩ := hy
    generalize cmpA (n + 1) x y = r at C
    have HC : Hid _ := C
    clear C
    generalize x.shape.length = SA at *
    generalize y.shape.length = SB at *
    generalize x.cells.length = CA at *
    generalize y.cells.length = CB at *
    go_enter Try.func12, Try.ntmps12
    go_wp2_with fail
    refine (HC.out _ (two_allocs _ _ _)).mono ?_
    rintro e w1 ⟨rfl, hb1⟩
    go_wp2
    go_ret
    exact ⟨rfl, (two_allocs _ _ _).trans (hb1.mono (two_allocs _ _ _).size)⟩
end Go.Proofs.Ytimkcpbgnoekcaa
namespace Go.Proofs.Ytimkcpbgnoekcaa
open Go.ChangeShapes Go.WideShapes Go.ChangeAt Go.RowKit
set_option linter.unusedVariables false
def Good (z : Int) : Prop := (0 ≤ z ∧ z < 55296) ∨ (57343 < z ∧ z < 1114112)
instance (z : Int) : Decidable (Good z) := inferInstanceAs (Decidable (_ ∨ _))
set_option maxHeartbeats 1000000 in
theorem validRune_any (z : Int) (w : World) : Calls Try.prog 95 #[.int .i32 z] w fun e w' => e = .returned (.bool (decide (Good z))) ∧ w' = w := by
  by_cases h1 : z < 0
  · have hr : decide (Good z) = false := decide_eq_false (by unfold Good; omega)
    rw [hr]
    clear hr
    have : ¬ 0 ≤ z := by omega
    have : ¬ 57343 < z := by omega
    go_enter Try.func95, Try.ntmps95
    go_wp2
    go_ret
    exact ⟨rfl, rfl⟩
  · have h1' : 0 ≤ z := by omega
    clear h1
    by_cases h2 : z < 55296
    · have hr : decide (Good z) = true := decide_eq_true (by unfold Good; omega)
      rw [hr]
      clear hr
      go_enter Try.func95, Try.ntmps95
      go_wp2
      go_ret
      exact ⟨rfl, rfl⟩
    · by_cases h3 : 57343 < z
      · by_cases h4 : z ≤ 1114111
        · have hr : decide (Good z) = true := decide_eq_true (by unfold Good; omega)
          rw [hr]
          clear hr
          go_enter Try.func95, Try.ntmps95
          go_wp2
          go_ret
          exact ⟨rfl, rfl⟩
        · have hr : decide (Good z) = false := decide_eq_false (by unfold Good; omega)
          rw [hr]
          clear hr
          go_enter Try.func95, Try.ntmps95
          go_wp2
          go_ret
          exact ⟨rfl, rfl⟩
      · have hr : decide (Good z) = false := decide_eq_false (by unfold Good; omega)
        rw [hr]
        clear hr
        go_enter Try.func95, Try.ntmps95
        go_wp2
        go_ret
        exact ⟨rfl, rfl⟩
set_option maxHeartbeats 1000000 in
theorem isSign_any (z : Int) (w : World) : Calls Try.prog 86 #[.int .i64 z] w fun e w' => e = .returned (.bool (decide (Good z))) ∧ w' = w := by
  have C := validRune_any (wrap32 z) w
  by_cases h : -2147483648 ≤ z ∧ z ≤ 2147483647
  · have hw : wrap32 z = z := by unfold wrap32; omega
    rw [hw] at C
    clear hw
    obtain ⟨h1, h2⟩ := h
    go_enter Try.func86, Try.ntmps86
    go_wp2_with (go_at_call 95; refine C.mono ?_; rintro e w' ⟨rfl, hw⟩; rw [hw])
    go_ret
    exact ⟨rfl, rfl⟩
  · have hr : decide (Good z) = false := decide_eq_false (by unfold Good; omega)
    have hw : ¬ z = wrap32 z := by unfold wrap32; omega
    rw [hr]
    clear hr C h
    have hb1 : -2147483648 ≤ wrap32 z := by unfold wrap32; omega
    have hb2 : wrap32 z ≤ 2147483647 := by unfold wrap32; omega
    have hd : decide (z = wrap32 z) = false := decide_eq_false hw
    generalize hy : wrap32 z = y at hw hb1 hb2 hd
    go_enter Try.func86, Try.ntmps86
    go_wp2_with fail
    go_ret
    exact ⟨rfl, rfl⟩
set_option maxHeartbeats 1000000 in
theorem rgood_any (z : Int) (w : World) : Calls Try.prog 85 #[.int .i64 z] w fun e w' => e = .returned (.bool (decide (Good z))) ∧ w' = w := by
  by_cases h1 : z < 0
  · have hr : decide (Good z) = false := decide_eq_false (by unfold Good; omega)
    rw [hr]
    clear hr
    have : ¬ 0 ≤ z := by omega
    have : ¬ 57343 < z := by omega
    go_enter Try.func85, Try.ntmps85
    go_wp2
    go_ret
    exact ⟨rfl, rfl⟩
  · have h1' : 0 ≤ z := by omega
    clear h1
    by_cases h2 : z < 55296
    · have hr : decide (Good z) = true := decide_eq_true (by unfold Good; omega)
      rw [hr]
      clear hr
      go_enter Try.func85, Try.ntmps85
      go_wp2
      go_ret
      exact ⟨rfl, rfl⟩
    · by_cases h3 : 57343 < z
      · by_cases h4 : z < 1114112
        · have hr : decide (Good z) = true := decide_eq_true (by unfold Good; omega)
          rw [hr]
          clear hr
          go_enter Try.func85, Try.ntmps85
          go_wp2
          go_ret
          exact ⟨rfl, rfl⟩
        · have hr : decide (Good z) = false := decide_eq_false (by unfold Good; omega)
          rw [hr]
          clear hr
          go_enter Try.func85, Try.ntmps85
          go_wp2
          go_ret
          exact ⟨rfl, rfl⟩
      · have hr : decide (Good z) = false := decide_eq_false (by unfold Good; omega)
        rw [hr]
        clear hr
        go_enter Try.func85, Try.ntmps85
        go_wp2
        go_ret
        exact ⟨rfl, rfl⟩
/-- Whether a cell may be, given the same of the array in its box. -/
def chkC (f : Ar → Int) (c : Ce) : Int :=
  if c.1 = 2 ∧ c.2.1 = 0 ∧ c.2.2.length = 1 then f (bAt c.2.2 0) else if c.2.2.length = 0 ∧ (c.1 = 0 ∨ c.1 = 1 ∧ Good c.2.1) then 0 else 1
def chkF (f : Ar → Int) (x : Ar) (i : Nat) : Int := chkC f (cAt x.cells i)
/-- Whether an array may be, given the same of the arrays in its boxes. -/
def chkB (f : Ar → Int) (x : Ar) : Int :=
  if sizeE x.shape ≠ 0 then sizeE x.shape else if sizeV x.shape ≠ x.cells.length then 1 else if hasLong x.shape then 12 else firstUp (chkF f x) x.cells.length
/-- Whether an array may be that may bear so many boxes within one another. -/
def chkA : Nat → Ar → Int
  | 0, x => chkB (fun _ => 15) x
  | r + 1, x => chkB (chkA r) x
/-- What the look into the next box promises. -/
def InnerC (k n B : Nat) (f : Ar → Int) : Prop := B ≤ 8 ∧ (B = 8 → f = fun _ => 15) ∧ (B < 8 → ∀ y lo vb w, ArIn n lo w y vb → Calls Try.prog k #[vb, .int .i64 ((B : Int) + 1)] w fun e w' => e = .returned (.int .i64 (f y)) ∧ Below w.heap.size w w')
theorem one_alloc (w : World) (o : Obj) : Below w.heap.size w (w.alloc o) := (Below.refl _ _).alloc (Nat.le_refl _) _
theorem cell_one {w : World} {b off : Nat} {v : Value} (h : w.cell? ⟨b, off, none⟩ = some v) (hb : b < w.heap.size) (o : Obj) : (w.alloc o).cell? ⟨b, off, none⟩ = some v :=
  ((one_alloc w o).cell (p := ⟨b, off, none⟩) hb).trans h
set_option maxHeartbeats 1000000 in
theorem checkCell_any (n B : Nat) (f : Ar → Int) (IH : InnerC 46 n B f) (c : Ce) (lo : Nat) (w : World) (v0 v1 v2 : Value) (hc : CeIn (ArIn n lo w) lo w c v0 v1 v2) :
    Calls Try.prog 71 #[.agg #[v0, v1, v2], .int .i64 (B : Int)] w fun e w' => e = .returned (.int .i64 (chkC f c)) ∧ Below w.heap.size w w' := by
  obtain ⟨rfl, rfl, a, cap, rfl, hl, hx⟩ := hc
  obtain ⟨k, N, box⟩ := c
  simp only at hl hx ⊢
  obtain ⟨i1, i2, i3⟩ := IH
  have K1 : Hid (k = 2 ∧ N = 0 ∧ box.length = 1 → chkC f (k, N, box) = f (bAt box 0)) := fun h => by unfold chkC; rw [if_pos h]
  have K2 : Hid (¬ (k = 2 ∧ N = 0 ∧ box.length = 1) → box.length = 0 ∧ (k = 0 ∨ k = 1 ∧ Good N) → chkC f (k, N, box) = 0) := fun h h' => by unfold chkC; rw [if_neg h, if_pos h']
  have K3 : Hid (¬ (k = 2 ∧ N = 0 ∧ box.length = 1) → ¬ (box.length = 0 ∧ (k = 0 ∨ k = 1 ∧ Good N)) → chkC f (k, N, box) = 1) := fun h h' => by unfold chkC; rw [if_neg h, if_neg h']
  generalize chkC f (k, N, box) = r at K1 K2 K3
  by_cases h1 : k = 2 ∧ N = 0 ∧ box.length = 1
  · have hr := K1.out h1
    obtain ⟨rfl, rfl, hb1⟩ := h1
    rcases hx with hx | ⟨b, off, rfl, hlo, hb, hx⟩
    · rw [hx] at hb1; simp at hb1
    obtain ⟨s0, s1, e0, e1, e2⟩ := hx 0 (by omega)
    simp only [Nat.zero_mul, Nat.add_zero] at e0 e1
    have g0 := cell_one e0 hb
    have g1 := cell_one e1 hb
    clear K1 K2 K3 hx hlo
    by_cases h8 : B = 8
    · subst h8
      have hr' : Hid (r = 15) := by rw [hr, i2 rfl]; exact rfl
      clear hr i2 i3 e2
      rw [hb1]
      go_enter Try.func71, Try.ntmps71
      go_wp2
      go_ret
      exact ⟨retI hr'.out.symm, one_alloc _ _⟩
    · have i4 := i3 (by omega) (bAt box 0) lo _ ((w.alloc (.cells #[.int .i64 2, .int .i64 0, .slice (some ⟨b, off, none⟩) 1 cap] 39))) (e2.next (one_alloc _ _))
      rw [← hr] at i4
      have hB : (B : Int) < 8 := by omega
      have HB1 : Hid (Below w.heap.size w (w.alloc (.cells #[.int .i64 2, .int .i64 0, .slice (some ⟨b, off, none⟩) 1 cap] 39))) := one_alloc _ _
      clear i2 i3 h8 hr e2
      rw [hb1]
      clear hb1
      go_enter Try.func71, Try.ntmps71
      go_wp2_with fail
      refine i4.mono ?_
      rintro e w1 ⟨rfl, hb1⟩
      go_wp2
      go_ret
      exact ⟨rfl, HB1.out.trans (hb1.mono HB1.out.size)⟩
  · have K2' : Hid (box.length = 0 ∧ (k = 0 ∨ k = 1 ∧ Good N) → r = 0) := K2.out h1
    have K3' : Hid (¬ (box.length = 0 ∧ (k = 0 ∨ k = 1 ∧ Good N)) → r = 1) := K3.out h1
    clear K1 K2 K3 hx i2 i3
    generalize box.length = L at *
    by_cases hk2 : k = 2
    · have hr : Hid (r = 1) := K3'.out (by omega)
      subst hk2
      clear K2' K3'
      by_cases hN : N = 0
      · subst hN
        have hL : ¬ L = 1 := by omega
        clear h1
        by_cases hL0 : L = 0
        · subst hL0
          go_enter Try.func71, Try.ntmps71
          go_wp2
          go_ret
          exact ⟨retI hr.out.symm, one_alloc _ _⟩
        · have hL' : ¬ (L : Int) = 1 := by omega
          have hL0' : ¬ (L : Int) = 0 := by omega
          go_enter Try.func71, Try.ntmps71
          go_wp2
          go_ret
          exact ⟨retI hr.out.symm, one_alloc _ _⟩
      · clear h1
        by_cases hL0 : L = 0
        · subst hL0
          go_enter Try.func71, Try.ntmps71
          go_wp2
          go_ret
          exact ⟨retI hr.out.symm, one_alloc _ _⟩
        · have hL0' : ¬ (L : Int) = 0 := by omega
          go_enter Try.func71, Try.ntmps71
          go_wp2
          go_ret
          exact ⟨retI hr.out.symm, one_alloc _ _⟩
    · clear h1
      by_cases hL0 : L = 0
      · by_cases hk0 : k = 0
        · have hr : Hid (r = 0) := K2'.out ⟨hL0, Or.inl hk0⟩
          subst hL0
          subst hk0
          clear K2' K3'
          go_enter Try.func71, Try.ntmps71
          go_wp2
          go_ret
          exact ⟨retI hr.out.symm, one_alloc _ _⟩
        · by_cases hk1 : k = 1
          · by_cases hg : Good N
            · have hr : Hid (r = 0) := K2'.out ⟨hL0, Or.inr ⟨hk1, hg⟩⟩
              subst hL0
              subst hk1
              have C := fun w => isSign_any N w
              rw [decide_eq_true hg] at C
              clear K2' K3' hg
              go_enter Try.func71, Try.ntmps71
              go_wp2_with (go_at_call 86; refine (C _).mono ?_; rintro e w' ⟨rfl, hw⟩; rw [hw])
              go_ret
              exact ⟨retI hr.out.symm, one_alloc _ _⟩
            · have hr : Hid (r = 1) := K3'.out (by
                rintro ⟨_, h | h⟩
                · exact hk0 h
                · exact hg h.2)
              subst hL0
              subst hk1
              have C := fun w => isSign_any N w
              rw [decide_eq_false hg] at C
              clear K2' K3' hg
              go_enter Try.func71, Try.ntmps71
              go_wp2_with (go_at_call 86; refine (C _).mono ?_; rintro e w' ⟨rfl, hw⟩; rw [hw])
              go_ret
              exact ⟨retI hr.out.symm, one_alloc _ _⟩
          · have hr : Hid (r = 1) := K3'.out (by
              rintro ⟨_, h | h⟩
              · exact hk0 h
              · exact hk1 h.1)
            subst hL0
            clear K2' K3'
            go_enter Try.func71, Try.ntmps71
            go_wp2
            go_ret
            exact ⟨retI hr.out.symm, one_alloc _ _⟩
      · have hr : Hid (r = 1) := K3'.out (fun h => hL0 h.1)
        have hL0' : ¬ (L : Int) = 0 := by omega
        clear K2' K3'
        go_enter Try.func71, Try.ntmps71
        go_wp2
        go_ret
        exact ⟨retI hr.out.symm, one_alloc _ _⟩
end Go.Proofs.Ytimkcpbgnoekcaa
namespace Go.Proofs.Ytimkcpbgnoekcaa
open Go.ChangeShapes Go.WideShapes Go.ChangeAt Go.RowKit
set_option linter.unusedVariables false
set_option maxHeartbeats 1000000 in
theorem rcheckCell_any (n B : Nat) (f : Ar → Int) (IH : InnerC 35 n B f) (c : Ce) (lo : Nat) (w : World) (v0 v1 v2 : Value) (hc : CeIn (ArIn n lo w) lo w c v0 v1 v2) :
    Calls Try.prog 61 #[.agg #[v0, v1, v2], .int .i64 (B : Int)] w fun e w' => e = .returned (.int .i64 (chkC f c)) ∧ Below w.heap.size w w' := by
  obtain ⟨rfl, rfl, a, cap, rfl, hl, hx⟩ := hc
  obtain ⟨k, N, box⟩ := c
  simp only at hl hx ⊢
  obtain ⟨i1, i2, i3⟩ := IH
  have K1 : Hid (k = 2 ∧ N = 0 ∧ box.length = 1 → chkC f (k, N, box) = f (bAt box 0)) := fun h => by unfold chkC; rw [if_pos h]
  have K2 : Hid (¬ (k = 2 ∧ N = 0 ∧ box.length = 1) → box.length = 0 ∧ (k = 0 ∨ k = 1 ∧ Good N) → chkC f (k, N, box) = 0) := fun h h' => by unfold chkC; rw [if_neg h, if_pos h']
  have K3 : Hid (¬ (k = 2 ∧ N = 0 ∧ box.length = 1) → ¬ (box.length = 0 ∧ (k = 0 ∨ k = 1 ∧ Good N)) → chkC f (k, N, box) = 1) := fun h h' => by unfold chkC; rw [if_neg h, if_neg h']
  generalize chkC f (k, N, box) = r at K1 K2 K3
  by_cases h1 : k = 2 ∧ N = 0 ∧ box.length = 1
  · have hr := K1.out h1
    obtain ⟨rfl, rfl, hb1⟩ := h1
    rcases hx with hx | ⟨b, off, rfl, hlo, hb, hx⟩
    · rw [hx] at hb1; simp at hb1
    obtain ⟨s0, s1, e0, e1, e2⟩ := hx 0 (by omega)
    simp only [Nat.zero_mul, Nat.add_zero] at e0 e1
    have g0 := cell_one e0 hb
    have g1 := cell_one e1 hb
    clear K1 K2 K3 hx hlo
    by_cases h8 : B = 8
    · subst h8
      have hr' : Hid (r = 15) := by rw [hr, i2 rfl]; exact rfl
      clear hr i2 i3 e2
      rw [hb1]
      go_enter Try.func61, Try.ntmps61
      go_wp2
      go_ret
      exact ⟨retI hr'.out.symm, one_alloc _ _⟩
    · have i4 := i3 (by omega) (bAt box 0) lo _ ((w.alloc (.cells #[.int .i64 2, .int .i64 0, .slice (some ⟨b, off, none⟩) 1 cap] 39))) (e2.next (one_alloc _ _))
      rw [← hr] at i4
      have hB : (B : Int) < 8 := by omega
      have hB8 : ¬ (B : Int) = 8 := by omega
      have HB1 : Hid (Below w.heap.size w (w.alloc (.cells #[.int .i64 2, .int .i64 0, .slice (some ⟨b, off, none⟩) 1 cap] 39))) := one_alloc _ _
      clear i2 i3 h8 hr e2
      rw [hb1]
      clear hb1
      go_enter Try.func61, Try.ntmps61
      go_wp2_with fail
      refine i4.mono ?_
      rintro e w1 ⟨rfl, hb1⟩
      go_wp2
      go_ret
      exact ⟨rfl, HB1.out.trans (hb1.mono HB1.out.size)⟩
  · have K2' : Hid (box.length = 0 ∧ (k = 0 ∨ k = 1 ∧ Good N) → r = 0) := K2.out h1
    have K3' : Hid (¬ (box.length = 0 ∧ (k = 0 ∨ k = 1 ∧ Good N)) → r = 1) := K3.out h1
    clear K1 K2 K3 hx i2 i3
    generalize box.length = L at *
    by_cases hk2 : k = 2
    · have hr : Hid (r = 1) := K3'.out (by omega)
      subst hk2
      clear K2' K3'
      by_cases hN : N = 0
      · subst hN
        have hL : ¬ L = 1 := by omega
        clear h1
        by_cases hL0 : L = 0
        · subst hL0
          go_enter Try.func61, Try.ntmps61
          go_wp2
          go_ret
          exact ⟨retI hr.out.symm, one_alloc _ _⟩
        · have hL' : ¬ (L : Int) = 1 := by omega
          have hL0' : ¬ (L : Int) = 0 := by omega
          have hLp : (0 : Int) < (L : Int) := by omega
          go_enter Try.func61, Try.ntmps61
          go_wp2
          go_ret
          exact ⟨retI hr.out.symm, one_alloc _ _⟩
      · clear h1
        by_cases hL0 : L = 0
        · subst hL0
          go_enter Try.func61, Try.ntmps61
          go_wp2
          go_ret
          exact ⟨retI hr.out.symm, one_alloc _ _⟩
        · have hL0' : ¬ (L : Int) = 0 := by omega
          have hLp : (0 : Int) < (L : Int) := by omega
          go_enter Try.func61, Try.ntmps61
          go_wp2
          go_ret
          exact ⟨retI hr.out.symm, one_alloc _ _⟩
    · clear h1
      by_cases hL0 : L = 0
      · by_cases hk0 : k = 0
        · have hr : Hid (r = 0) := K2'.out ⟨hL0, Or.inl hk0⟩
          subst hL0
          subst hk0
          clear K2' K3'
          go_enter Try.func61, Try.ntmps61
          go_wp2
          go_ret
          exact ⟨retI hr.out.symm, one_alloc _ _⟩
        · by_cases hk1 : k = 1
          · by_cases hg : Good N
            · have hr : Hid (r = 0) := K2'.out ⟨hL0, Or.inr ⟨hk1, hg⟩⟩
              subst hL0
              subst hk1
              have C := fun w => rgood_any N w
              rw [decide_eq_true hg] at C
              clear K2' K3' hg
              go_enter Try.func61, Try.ntmps61
              go_wp2_with (go_at_call 85; refine (C _).mono ?_; rintro e w' ⟨rfl, hw⟩; rw [hw])
              go_ret
              exact ⟨retI hr.out.symm, one_alloc _ _⟩
            · have hr : Hid (r = 1) := K3'.out (by
                rintro ⟨_, h | h⟩
                · exact hk0 h
                · exact hg h.2)
              subst hL0
              subst hk1
              have C := fun w => rgood_any N w
              rw [decide_eq_false hg] at C
              clear K2' K3' hg
              go_enter Try.func61, Try.ntmps61
              go_wp2_with (go_at_call 85; refine (C _).mono ?_; rintro e w' ⟨rfl, hw⟩; rw [hw])
              go_ret
              exact ⟨retI hr.out.symm, one_alloc _ _⟩
          · have hr : Hid (r = 1) := K3'.out (by
              rintro ⟨_, h | h⟩
              · exact hk0 h
              · exact hk1 h.1)
            subst hL0
            clear K2' K3'
            go_enter Try.func61, Try.ntmps61
            go_wp2
            go_ret
            exact ⟨retI hr.out.symm, one_alloc _ _⟩
      · have hr : Hid (r = 1) := K3'.out (fun h => hL0 h.1)
        have hL0' : ¬ (L : Int) = 0 := by omega
        have hLp : (0 : Int) < (L : Int) := by omega
        clear K2' K3'
        go_enter Try.func61, Try.ntmps61
        go_wp2
        go_ret
        exact ⟨retI hr.out.symm, one_alloc _ _⟩
theorem cells_at {n lo : Nat} {w : World} {a2 : Option Addr} {cs : List Ce} (hc : cs = [] ∨ ∃ b off, a2 = some ⟨b, off, none⟩ ∧ lo ≤ b ∧ b < w.heap.size ∧
      ∀ i, i < cs.length → ∃ v0 v1 v2, w.cell? ⟨b, off + i * 3, none⟩ = some v0 ∧ w.cell? ⟨b, off + i * 3 + 1, none⟩ = some v1 ∧ w.cell? ⟨b, off + i * 3 + 2, none⟩ = some v2 ∧ CeIn (ArIn n lo w) lo w (cAt cs i) v0 v1 v2) (i : Nat) (hi : i < cs.length) :
    ∃ b off z0 z1 ab nb cb, a2 = some ⟨b, off, none⟩ ∧ ∀ wr, Below w.heap.size w wr → wr.cell? ⟨b, off + i * 3, none⟩ = some (.int .i64 z0) ∧ wr.cell? ⟨b, off + i * 3 + 1, none⟩ = some (.int .i64 z1) ∧ wr.cell? ⟨b, off + i * 3 + 2, none⟩ = some (.slice ab nb cb) ∧ CeIn (ArIn n lo wr) lo wr (cAt cs i) (.int .i64 z0) (.int .i64 z1) (.slice ab nb cb) := by
  rcases hc with hc | ⟨b, off, ha, hlo, hb, hc⟩
  · rw [hc] at hi; simp at hi
  obtain ⟨v0, v1, v2, e0, e1, e2, e3⟩ := hc i hi
  have e4 := e3
  obtain ⟨rfl, rfl, ab, cb, rfl, -⟩ := e4
  exact ⟨b, off, _, _, ab, _, cb, ha, fun wr hw => ⟨(hw.cell (p := ⟨b, off + i * 3, none⟩) hb).trans e0, (hw.cell (p := ⟨b, off + i * 3 + 1, none⟩) hb).trans e1, (hw.cell (p := ⟨b, off + i * 3 + 2, none⟩) hb).trans e2, e3.mono (Nat.le_refl _) hw fun x v h => h.next hw⟩⟩
theorem cell_new0 (w : World) (cs : Array Value) (t : TypeId) (i : Nat) (v : Value) (h : cs[i]? = some v) : (w.alloc (.cells cs t)).cell? ⟨w.heap.size, i, none⟩ = some v := cell_new w cs t (0, 0) i v h
set_option maxHeartbeats 2000000 in
theorem checkB_any (n B : Nat) (f : Ar → Int) (IH : InnerC 46 n B f) (x : Ar) (lo : Nat) (va : Value) (w : World) (hx : ArIn (n + 1) lo w x va) :
    Calls Try.prog 46 #[va, .int .i64 (B : Int)] w fun e w' => e = .returned (.int .i64 (chkB f x)) ∧ Below w.heap.size w w' := by
  obtain ⟨a1, c1, a2, c2, rfl, R, hl, hc⟩ := hx
  have K1 : Hid (¬ sizeE x.shape = 0 → chkB f x = sizeE x.shape) := fun h => by unfold chkB; rw [if_pos h]
  have K2 : Hid (sizeE x.shape = 0 → ¬ sizeV x.shape = x.cells.length → chkB f x = 1) := fun h h' => by unfold chkB; rw [if_neg (fun k => k h), if_pos h']
  have K3 : Hid (sizeE x.shape = 0 → sizeV x.shape = x.cells.length → hasLong x.shape → chkB f x = 12) := fun h h' h'' => by unfold chkB; rw [if_neg (fun k => k h), if_neg (fun k => k h'), if_pos h'']
  have K4 : Hid (sizeE x.shape = 0 → sizeV x.shape = x.cells.length → ¬ hasLong x.shape → chkB f x = firstUp (chkF f x) x.cells.length) := fun h h' h'' => by unfold chkB; rw [if_neg (fun k => k h), if_neg (fun k => k h'), if_neg h'']
  generalize chkB f x = r at K1 K2 K3 K4
  have b0 := one_alloc w (.cells #[.slice a1 x.shape.length c1, .slice a2 x.cells.length c2] 25)
  have C1 := size_any x.shape a1 c1 _ (R.next b0)
  have C2 := ends_any x.shape a1 c1 _ (R.next b0)
  have hlR := R.1
  have HB0 : Hid (Below w.heap.size w (w.alloc (.cells #[.slice a1 x.shape.length c1, .slice a2 x.cells.length c2] 25))) := b0
  have HC : Hid (∀ i, i < x.cells.length → ∃ b off z0 z1 ab nb cb, a2 = some ⟨b, off, none⟩ ∧ ∀ wr, Below w.heap.size w wr → (wr.cell? ⟨b, off + i * 3, none⟩ = some (.int .i64 z0) ∧ wr.cell? ⟨b, off + i * 3 + 1, none⟩ = some (.int .i64 z1) ∧ wr.cell? ⟨b, off + i * 3 + 2, none⟩ = some (.slice ab nb cb)) ∧ Calls Try.prog 71 #[.agg #[.int .i64 z0, .int .i64 z1, .slice ab nb cb], .int .i64 (B : Int)] wr fun e w' => e = .returned (.int .i64 (chkF f x i)) ∧ Below wr.heap.size wr w') := by
    intro i hi
    obtain ⟨b, off, z0, z1, ab, nb, cb, ha, h⟩ := cells_at hc i hi
    refine ⟨b, off, z0, z1, ab, nb, cb, ha, fun wr hw => ?_⟩
    obtain ⟨e0, e1, e2, e3⟩ := h wr hw
    exact ⟨⟨e0, e1, e2⟩, checkCell_any n B f IH _ lo wr _ _ _ e3⟩
  clear R hc b0 IH
  by_cases h1 : sizeE x.shape = 0
  · rw [h1] at C1
    by_cases h2 : sizeV x.shape = x.cells.length
    · rw [h2] at C1
      by_cases h3 : hasLong x.shape
      · have hr : Hid (r = 12) := K3.out h1 h2 h3
        have hm := most_long.2 h3
        clear K1 K2 K3 K4 HC h1 h2 h3
        generalize leastL x.shape = P at C2
        generalize mostL x.shape = Q at C2 hm
        generalize x.shape.length = SA at *
        generalize x.cells.length = CA at *
        go_enter Try.func46, Try.ntmps46
        go_wp2_with fail
        refine C1.mono ?_
        rintro e w1 ⟨rfl, hw⟩
        rw [hw]
        clear hw
        go_wp2_with fail
        refine C2.mono ?_
        rintro e w1 ⟨rfl, hw⟩
        rw [hw]
        clear hw
        go_wp2
        go_ret
        exact ⟨retI hr.out.symm, HB0.out⟩
      · have hr := K4.out h1 h2 h3
        have hm : ¬ 16384 < mostL x.shape := fun h => h3 (most_long.1 h)
        clear K1 K2 K3 K4 h1 h2 h3
        have H0 : Hid (firstUp (chkF f x) 0 = 0) := rfl
        generalize leastL x.shape = P at C2
        generalize mostL x.shape = Q at C2 hm
        generalize chkF f x = F at *
        generalize x.shape.length = SA at *
        generalize x.cells.length = CA at *
        have HR := hide hr
        clear hr
        go_enter Try.func46, Try.ntmps46
        go_wp2_with fail
        refine C1.mono ?_
        rintro e w1 ⟨rfl, hw⟩
        rw [hw]
        clear hw
        go_wp2_with fail
        refine C2.mono ?_
        rintro e w1 ⟨rfl, hw⟩
        rw [hw]
        clear hw C1 C2
        go_wp2
        go_loopw [37] (fun i wr => ∃ j : Nat, j ≤ CA ∧ i = .int .i64 (j : Int) ∧ firstUp F j = 0 ∧ Below w.heap.size w wr) (fun i _ => CA - (intOf i).toNat)
        case atStart => exact ⟨0, Nat.zero_le _, rfl, H0.out, HB0.out⟩
        case round =>
          clear HB0
          obtain ⟨j, hj, rfl, hz, hnx⟩ := hrel
          have HZ := hide hz
          clear hz
          by_cases hlt : j < CA
          · obtain ⟨b, off, z0, z1, ab, nb, cb, rfl, hcs⟩ := HC.out j hlt
            obtain ⟨⟨k0, k1, k2⟩, -⟩ := hcs wr hnx
            have C : Hid (∀ o, Calls Try.prog 71 #[.agg #[.int .i64 z0, .int .i64 z1, .slice ab nb cb], .int .i64 (B : Int)] (wr.alloc o) fun e w' => e = .returned (.int .i64 (F j)) ∧ Below w.heap.size w w') := by
              intro o
              refine ((hcs (wr.alloc o) (hnx.alloc hnx.size o)).2).mono ?_
              rintro e w1 ⟨he, hb⟩
              exact ⟨he, (hnx.alloc hnx.size o).trans (hb.mono (hnx.alloc hnx.size o).size)⟩
            have HT : Hid (F j ≠ 0 → r = F j) := fun h => by rw [HR.out]; exact firstUp_hit HZ.out h CA hlt
            have HS : Hid (firstUp F (j + 1) = F j) := firstUp_step HZ.out
            clear hcs HC
            obtain ⟨z, ez⟩ : ∃ z, F j = z := ⟨_, rfl⟩
            rw [ez] at C HT HS
            clear ez
            by_cases hz0 : z = 0
            · subst hz0
              go_wp2_with fail
              refine (C.out _).mono ?_
              rintro e w1 ⟨rfl, hb1⟩
              go_wp2
              go_roundw
              case rel => exact ⟨j + 1, by omega, by go_num, HS.out, hb1⟩
              case measure => simp [intOf]; omega
            · have HN := hide hz0
              go_wp2_with fail
              refine (C.out _).mono ?_
              rintro e w1 ⟨rfl, hb1⟩
              go_wp2
              go_ret
              exact ⟨retI (HT.out HN.out).symm, hb1⟩
          · have hje : j = CA := by omega
            subst hje
            have hr : Hid (r = 0) := by show r = 0; rw [HR.out]; exact HZ.out
            clear HC HR HZ
            go_wp2
            go_ret
            exact ⟨retI hr.out.symm, hnx⟩
    · have hr : Hid (r = 1) := K2.out h1 h2
      clear K1 K2 K3 K4 HC C2 h1
      generalize sizeV x.shape = S at C1 h2
      generalize x.shape.length = SA at *
      generalize x.cells.length = CA at *
      go_enter Try.func46, Try.ntmps46
      go_wp2_with fail
      refine C1.mono ?_
      rintro e w1 ⟨rfl, hw⟩
      rw [hw]
      clear hw
      go_wp2
      go_ret
      exact ⟨retI hr.out.symm, HB0.out⟩
  · have hr := hide (K1.out h1)
    clear K1 K2 K3 K4 HC C2
    generalize sizeV x.shape = S at C1
    generalize sizeE x.shape = E at C1 h1 hr
    generalize x.shape.length = SA at *
    generalize x.cells.length = CA at *
    go_enter Try.func46, Try.ntmps46
    go_wp2_with fail
    refine C1.mono ?_
    rintro e w1 ⟨rfl, hw⟩
    rw [hw]
    clear hw
    go_wp2
    go_ret
    exact ⟨retI hr.out.symm, HB0.out⟩
end Go.Proofs.Ytimkcpbgnoekcaa
namespace Go.Proofs.Ytimkcpbgnoekcaa
open Go.ChangeShapes Go.WideShapes Go.ChangeAt Go.RowKit
set_option linter.unusedVariables false
theorem info33 : (Try.prog.info? 39).map (fun i => (i.zero, i.size, i.bytes)) = some (some (.agg #[.int .i64 0, .int .i64 0, .slice none 0 0]), 3, 40) := by kernel_rfl
theorem make_cells (n : Nat) (h : n ≤ 5864062014805) (w : World) : (Instr.makeSlice 23 (.int .i64 (n : Int)) (.int .i64 (n : Int))).run Try.prog w = .ok (.slice (some ⟨w.heap.size, 0, none⟩) n n) (w.alloc (.cells (madeCells #[.int .i64 0, .int .i64 0, .slice none 0 0] (n * 3)) 39)) := by
  obtain ⟨i, hi, hzz⟩ := Option.map_eq_some_iff.1 info33
  simp only [Prod.mk.injEq] at hzz
  obtain ⟨hz, hs, hb⟩ := hzz
  have hr := run_make (P := Try.prog) w 23 39 i _ Try.underlying23 hi hz .i64 .i64 n n (by omega) (Int.le_refl _) (by rw [hb]; omega) (by omega)
  simp only [Int.toNat_natCast, hs] at hr
  exact hr
/-- What a row of new cells holds. -/
def zero3 (m : Nat) : Value := if m % 3 = 0 then .int .i64 0 else if m % 3 = 1 then .int .i64 0 else .slice none 0 0
theorem rowIs_made3 (w : World) (n : Nat) : (w.alloc (.cells (madeCells #[.int .i64 0, .int .i64 0, .slice none 0 0] n) 39)).rowIs w.heap.size 39 n zero3 := by
  refine ⟨madeCells #[.int .i64 0, .int .i64 0, .slice none 0 0] n, ?_, size_madeCells _ _, fun i hi => ?_⟩
  · show (w.heap.push _)[w.heap.size]? = _
    simp
  · simp only [madeCells, Array.getElem?_map, zero3]
    rw [Array.getElem?_range, if_pos hi]
    simp only [Option.map_some]
    have h3 : i % 3 < 3 := Nat.mod_lt _ (by omega)
    rcases (show i % 3 = 0 ∨ i % 3 = 1 ∨ i % 3 = 2 by omega) with h | h | h <;> simp [h]
/-- A row of cells of memory, as an array's cells. -/
def CellsIn (n lo : Nat) (w : World) (cs : List Ce) (a2 : Option Addr) : Prop :=
  cs = [] ∨ ∃ b off, a2 = some ⟨b, off, none⟩ ∧ lo ≤ b ∧ b < w.heap.size ∧
    ∀ i, i < cs.length → ∃ v0 v1 v2, w.cell? ⟨b, off + i * 3, none⟩ = some v0 ∧ w.cell? ⟨b, off + i * 3 + 1, none⟩ = some v1 ∧ w.cell? ⟨b, off + i * 3 + 2, none⟩ = some v2 ∧ CeIn (ArIn n lo w) lo w (cAt cs i) v0 v1 v2
theorem arIn_mk {n lo : Nat} {w : World} {x : Ar} {a1 a2 : Option Addr} {c1 c2 k1 k2 : Nat} (R : Row lo w a1 x.shape) (hl : x.cells.length ≤ 5864062014805) (hc : CellsIn n lo w x.cells a2) (e1 : x.shape.length = k1) (e2 : x.cells.length = k2) : ArIn (n + 1) lo w x (.agg #[.slice a1 k1 c1, .slice a2 k2 c2]) := by
  subst e1
  subst e2
  exact ⟨a1, c1, a2, c2, rfl, R, hl, hc⟩
def numCs (k : Int) (l : List Int) : List Ce := l.map fun z => (k, z, [])
theorem numCs_len (k : Int) (l : List Int) : (numCs k l).length = l.length := by simp [numCs]
theorem numCs_at (k : Int) (l : List Int) (i : Nat) (hi : i < l.length) : cAt (numCs k l) i = (k, l[i]?.getD 0, []) := by simp [cAt, numCs, hi]
/-- What the row of numbers as cells holds, up to number j. -/
def numF (k : Int) (l : List Int) (j m : Nat) : Value := if m < j * 3 then (if m % 3 = 0 then .int .i64 k else if m % 3 = 1 then .int .i64 (l[m / 3]?.getD 0) else .slice none 0 0) else zero3 m
theorem cellsIn_num {n lo : Nat} {w : World} {b : Nat} (k : Int) (l : List Int) (h : w.rowIs b 39 (l.length * 3) (numF k l l.length)) (hlo : lo ≤ b) : CellsIn n lo w (numCs k l) (some ⟨b, 0, none⟩) := by
  refine Or.inr ⟨b, 0, rfl, hlo, h.lt, ?_⟩
  intro i hi
  rw [numCs_len] at hi
  rw [numCs_at k l i hi]
  have h0 := h.cell (i := i * 3) (by omega)
  have h1 := h.cell (i := i * 3 + 1) (by omega)
  have h2 := h.cell (i := i * 3 + 2) (by omega)
  have f0 : numF k l l.length (i * 3) = .int .i64 k := by
    unfold numF; rw [if_pos (by omega), if_pos (by omega)]
  have f1 : numF k l l.length (i * 3 + 1) = .int .i64 (l[i]?.getD 0) := by
    unfold numF; rw [if_pos (by omega), if_neg (by omega), if_pos (by omega), show (i * 3 + 1) / 3 = i by omega]
  have f2 : numF k l l.length (i * 3 + 2) = .slice none 0 0 := by
    unfold numF; rw [if_pos (by omega), if_neg (by omega), if_neg (by omega)]
  rw [f0] at h0
  rw [f1] at h1
  rw [f2] at h2
  rw [Nat.zero_add]
  exact ⟨_, _, _, h0, h1, h2, rfl, rfl, none, 0, rfl, by simp, Or.inl rfl⟩
theorem numF_step (k : Int) (l : List Int) (j m : Nat) : numF k l (j + 1) m = if m = j * 3 + 2 then .slice none 0 0 else if m = j * 3 + 1 then .int .i64 (l[j]?.getD 0) else if m = j * 3 then .int .i64 k else numF k l j m := by
  unfold numF
  by_cases h2 : m = j * 3 + 2
  · subst h2; rw [if_pos (by omega), if_neg (by omega), if_neg (by omega), if_pos rfl]
  · rw [if_neg h2]
    by_cases h1 : m = j * 3 + 1
    · subst h1; rw [if_pos (by omega), if_neg (by omega), if_pos (by omega), if_pos rfl, show (j * 3 + 1) / 3 = j by omega]
    · rw [if_neg h1]
      by_cases h0 : m = j * 3
      · subst h0; rw [if_pos (by omega), if_pos (by omega), if_pos rfl]
      · rw [if_neg h0]
        by_cases h : m < j * 3
        · rw [if_pos h, if_pos (by omega)]
        · rw [if_neg h, if_neg (by omega)]
set_option maxHeartbeats 1000000 in
theorem cells_any {lo : Nat} (n : Nat) (k : Int) (l : List Int) (a : Option Addr) (cap : Nat) (w : World) (R : Row lo w a l) (hl : l.length ≤ 5864062014805) :
    Calls Try.prog 80 #[.int .i64 k, .slice a l.length cap] w fun e w' => (∃ a2, e = .returned (.slice a2 l.length l.length) ∧ CellsIn n w.heap.size w' (numCs k l) a2) ∧ Below w.heap.size w w' := by
  have hrow := @row_at _ _ _ _ R
  have mk := make_cells l.length hl
  have RM := hide (rowIs_made3 w (l.length * 3))
  have BM := hide (one_alloc w (.cells (madeCells #[.int .i64 0, .int .i64 0, .slice none 0 0] (l.length * 3)) 39))
  clear R
  go_enter Try.func80, Try.ntmps80
  go_wp2
  clear mk
  go_loopw [13] (fun i wr => ∃ j : Nat, j ≤ l.length ∧ i = .int .i64 (j : Int) ∧ Below w.heap.size w wr ∧ wr.rowIs w.heap.size 39 (l.length * 3) (numF k l j)) (fun i _ => l.length - (intOf i).toNat)
  case atStart =>
    refine ⟨0, Nat.zero_le _, rfl, BM.out, World.rowIs.congr RM.out ?_⟩
    intro i hi
    simp [numF]
  case round =>
    clear BM RM
    obtain ⟨j, hj, rfl, hnx, hr⟩ := hrel
    by_cases hlt : j < l.length
    · obtain ⟨b, off, ha, hb, hck⟩ := hrow hlt
      subst ha
      have hc1 : wr.cell? ⟨b, off + j, none⟩ = some (.int .i64 (l[j]?.getD 0)) := (hnx.cell (p := ⟨b, off + j, none⟩) hb).trans hck
      have z0 := hr.cell (i := j * 3) (by omega)
      have z1 := hr.cell (i := j * 3 + 1) (by omega)
      have z2 := hr.cell (i := j * 3 + 2) (by omega)
      have y0 := hr.frozen (j * 3)
      have y1 := hr.frozen (j * 3 + 1)
      have y2 := hr.frozen (j * 3 + 2)
      have HS := hide ((((hr.set (j * 3) (.int .i64 k)).set (j * 3 + 1) (.int .i64 (l[j]?.getD 0))).set (j * 3 + 2) (.slice none 0 0)).congr (g := numF k l (j + 1)) (fun i _ => (numF_step k l j i).symm))
      have HB := hide (((hnx.setCell (p := ⟨w.heap.size, j * 3, none⟩) (Nat.le_refl _) (.int .i64 k)).setCell (p := ⟨w.heap.size, j * 3 + 1, none⟩) (Nat.le_refl _) (.int .i64 (l[j]?.getD 0))).setCell (p := ⟨w.heap.size, j * 3 + 2, none⟩) (Nat.le_refl _) (.slice none 0 0))
      generalize l[j]?.getD 0 = z at *
      clear hr hrow hck
      go_wp2
      go_roundw
      case rel => exact ⟨j + 1, by omega, by go_num, HB.out, HS.out⟩
      case measure => simp [intOf]; omega
    · have hje : j = l.length := by omega
      subst hje
      have F := hide (cellsIn_num (n := n) k l hr (Nat.le_refl _))
      clear hr hrow
      go_wp2
      go_ret
      exact ⟨⟨_, rfl, F.out⟩, hnx⟩
/-- A call that hands back an array in memory of its own. -/
def GivesA (n : Nat) (x : Ar) (w : World) (e : Ending) (w' : World) : Prop := (∃ v, e = .returned v ∧ ArIn n w.heap.size w' x v) ∧ Below w.heap.size w w'
def numsA (l : List Int) : Ar := .mk [(l.length : Int)] (numCs 0 l)
def atomA (z : Int) : Ar := .mk [] (numCs 0 [z])
theorem row_one {lo : Nat} {w : World} {b : Nat} {z : Int} (hb : b < w.heap.size) (hlo : lo ≤ b) (h : w.cell? ⟨b, 0, none⟩ = some (.int .i64 z)) : Row lo w (some ⟨b, 0, none⟩) [z] := by
  refine ⟨by simp, Or.inr ⟨b, 0, rfl, hlo, hb, ?_⟩⟩
  intro i hi
  have : i = 0 := by simpa using hi
  subst this
  simpa using h
theorem CeIn.low {P Q : Ar → Value → Prop} {lo lo' : Nat} {w : World} {c : Ce} {v0 v1 v2 : Value} (h : CeIn P lo w c v0 v1 v2) (hl : lo' ≤ lo) (hPQ : ∀ x v, P x v → Q x v) : CeIn Q lo' w c v0 v1 v2 := h.mono hl (Below.refl _ _) hPQ
theorem CellsIn.mono {n lo lo' : Nat} {w w' : World} {cs : List Ce} {a2 : Option Addr} (h : CellsIn n lo w cs a2) (hl : lo' ≤ lo) (hb : Below w.heap.size w w') : CellsIn n lo' w' cs a2 := by
  rcases h with hc | ⟨b, off, ha, hlo, hbb, hc⟩
  · exact Or.inl hc
  · refine Or.inr ⟨b, off, ha, Nat.le_trans hl hlo, Nat.lt_of_lt_of_le hbb hb.size, fun i hi => ?_⟩
    obtain ⟨v0, v1, v2, e0, e1, e2, e3⟩ := hc i hi
    exact ⟨v0, v1, v2, (hb.cell (p := ⟨b, off + i * 3, none⟩) hbb).trans e0, (hb.cell (p := ⟨b, off + i * 3 + 1, none⟩) hbb).trans e1, (hb.cell (p := ⟨b, off + i * 3 + 2, none⟩) hbb).trans e2, e3.mono hl hb fun x v h => h.mono hl hb⟩
/-- From block lo on all is as it was. -/
def Keeps (lo : Nat) (w w' : World) : Prop := w.heap.size ≤ w'.heap.size ∧ ∀ b, lo ≤ b → b < w.heap.size → w'.heap[b]? = w.heap[b]?
theorem Keeps.refl (lo : Nat) (w : World) : Keeps lo w w := ⟨Nat.le_refl _, fun _ _ _ => rfl⟩
theorem Keeps.setCell {lo : Nat} {w w' : World} (h : Keeps lo w w') {p : Addr} (hp : p.block < lo) (v : Value) : Keeps lo w (w'.setCell p v) := by
  refine ⟨?_, fun b h1 h2 => ?_⟩
  · have : (w'.setCell p v).heap.size = w'.heap.size := by simp
    rw [this]; exact h.1
  · rw [Below.heap_setCell w' p v b (by omega)]
    exact h.2 b h1 h2
theorem Keeps.cell {lo : Nat} {w w' : World} (h : Keeps lo w w') {p : Addr} (h1 : lo ≤ p.block) (h2 : p.block < w.heap.size) : w'.cell? p = w.cell? p := World.cell?_of_block (w := w) (h.2 p.block h1 h2)
theorem Row.keeps {lo : Nat} {w w' : World} {a : Option Addr} {zs : List Int} (h : Row lo w a zs) (hk : Keeps lo w w') : Row lo w' a zs := by
  obtain ⟨h2, h3⟩ := h
  refine ⟨h2, ?_⟩
  rcases h3 with h3 | ⟨b, off, ha, hlo, hbb, hc⟩
  · exact Or.inl h3
  · exact Or.inr ⟨b, off, ha, hlo, Nat.lt_of_lt_of_le hbb hk.1, fun i hi => (hk.cell (p := ⟨b, off + i, none⟩) hlo hbb).trans (hc i hi)⟩
theorem CeIn.keeps {P Q : Ar → Value → Prop} {lo : Nat} {w w' : World} {c : Ce} {v0 v1 v2 : Value} (h : CeIn P lo w c v0 v1 v2) (hk : Keeps lo w w') (hPQ : ∀ x v, P x v → Q x v) : CeIn Q lo w' c v0 v1 v2 := by
  obtain ⟨h0, h1, a, cap, h2, h3, h4⟩ := h
  refine ⟨h0, h1, a, cap, h2, h3, ?_⟩
  rcases h4 with h4 | ⟨b, off, ha, hlo, hbb, hc⟩
  · exact Or.inl h4
  · refine Or.inr ⟨b, off, ha, hlo, Nat.lt_of_lt_of_le hbb hk.1, fun j hj => ?_⟩
    obtain ⟨u0, u1, e0, e1, e2⟩ := hc j hj
    exact ⟨u0, u1, (hk.cell (p := ⟨b, off + j * 2, none⟩) hlo hbb).trans e0, (hk.cell (p := ⟨b, off + j * 2 + 1, none⟩) hlo hbb).trans e1, hPQ _ _ e2⟩
theorem ArIn.keeps {n lo : Nat} {w w' : World} {x : Ar} {v : Value} (h : ArIn n lo w x v) (hk : Keeps lo w w') : ArIn n lo w' x v := by
  induction n generalizing x v with
  | zero => exact h.elim
  | succ n ih =>
    obtain ⟨a1, c1, a2, c2, hv, hR, hlen, hc⟩ := h
    refine ⟨a1, c1, a2, c2, hv, hR.keeps hk, hlen, ?_⟩
    rcases hc with hc | ⟨b, off, ha, hlo, hbb, hc⟩
    · exact Or.inl hc
    · refine Or.inr ⟨b, off, ha, hlo, Nat.lt_of_lt_of_le hbb hk.1, fun i hi => ?_⟩
      obtain ⟨v0, v1, v2, e0, e1, e2, e3⟩ := hc i hi
      exact ⟨v0, v1, v2, (hk.cell (p := ⟨b, off + i * 3, none⟩) hlo hbb).trans e0, (hk.cell (p := ⟨b, off + i * 3 + 1, none⟩) hlo hbb).trans e1, (hk.cell (p := ⟨b, off + i * 3 + 2, none⟩) hlo hbb).trans e2, e3.keeps hk fun x v h => ih h⟩
theorem CellsIn.keeps {n lo : Nat} {w w' : World} {cs : List Ce} {a2 : Option Addr} (h : CellsIn n lo w cs a2) (hk : Keeps lo w w') : CellsIn n lo w' cs a2 := by
  rcases h with hc | ⟨b, off, ha, hlo, hbb, hc⟩
  · exact Or.inl hc
  · refine Or.inr ⟨b, off, ha, hlo, Nat.lt_of_lt_of_le hbb hk.1, fun i hi => ?_⟩
    obtain ⟨v0, v1, v2, e0, e1, e2, e3⟩ := hc i hi
    exact ⟨v0, v1, v2, (hk.cell (p := ⟨b, off + i * 3, none⟩) hlo hbb).trans e0, (hk.cell (p := ⟨b, off + i * 3 + 1, none⟩) hlo hbb).trans e1, (hk.cell (p := ⟨b, off + i * 3 + 2, none⟩) hlo hbb).trans e2, e3.keeps hk fun x v h => h.keeps hk⟩
theorem frozen_new (w : World) (cs : Array Value) (t : TypeId) (i : Nat) : (w.alloc (.cells cs t)).frozen? ⟨w.heap.size, i, none⟩ = false := by
  have : (w.alloc (.cells cs t)).heap[w.heap.size]? = some (.cells cs t) := by
    show (w.heap.push _)[w.heap.size]? = _
    simp
  unfold World.frozen?
  simp only [this]
  simp
/-- Two cells of memory, stored into: they hold what was stored. -/
theorem set_two {w : World} {s : Nat} {u v : Value} (h0 : w.cell? ⟨s, 0, none⟩ = some u) (h1 : w.cell? ⟨s, 1, none⟩ = some v) (x y : Value) : (w.setCell ⟨s, 0, none⟩ x).cell? ⟨s, 0, none⟩ = some x ∧ ((w.setCell ⟨s, 0, none⟩ x).setCell ⟨s, 1, none⟩ y).cell? ⟨s, 1, none⟩ = some y := by
  refine ⟨World.cell?_setCell_same' _ _ _ (by rw [h0]; rfl), World.cell?_setCell_same' _ _ _ ?_⟩
  rw [World.cell?_setCell_other _ _ _ _ (by simp), h1]
  rfl
set_option maxHeartbeats 1000000 in
theorem nums_any {lo : Nat} (n : Nat) (l : List Int) (a : Option Addr) (cap : Nat) (w : World) (R : Row lo w a l) (hl : l.length ≤ 5864062014805) :
    Calls Try.prog 54 #[.slice a l.length cap] w fun e w' => GivesA (n + 1) (numsA l) w e w' := by
  have B1 : Below w.heap.size w ((w.alloc (.cells #[.slice none 0 0, .slice none 0 0] 25)).alloc (.cells #[.int .i64 (l.length : Int)] 3)) := two_allocs _ _ _
  have C := cells_any n 0 l a cap _ (R.next B1) hl
  have HB1 := hide B1
  have c0 := cell_new2 w #[.int .i64 (l.length : Int)] 3 (0, 0) (.cells #[.slice none 0 0, .slice none 0 0] 25) 0 _ rfl
  have HC0 := hide c0
  have c1 := cell_new1 w #[.slice none 0 0, .slice none 0 0] 25 (0, 0) (.cells #[.int .i64 (l.length : Int)] 3) 0 _ rfl
  have c2 := cell_new1 w #[.slice none 0 0, .slice none 0 0] 25 (0, 0) (.cells #[.int .i64 (l.length : Int)] 3) 1 _ rfl
  have f1 : ∀ i, ((w.alloc (.cells #[.slice none 0 0, .slice none 0 0] 25)).alloc (.cells #[.int .i64 (l.length : Int)] 3)).frozen? ⟨w.heap.size, i, none⟩ = false := fun i =>
    (((Below.refl _ _).alloc (Nat.le_refl _) _).frozen (p := ⟨w.heap.size, i, none⟩) (by simp)).trans (frozen_new w _ 25 i)
  have HC1 := hide (And.intro c1 (And.intro c2 f1))
  clear B1 c0 R c1 c2 f1
  go_enter Try.func54, Try.ntmps54
  go_wp2_with fail
  refine C.mono ?_
  rintro e w1 ⟨⟨a2, rfl, hcs⟩, hb1⟩
  have sz := hb1.size
  rw [size_two] at sz
  have d1 := (hb1.cell (p := ⟨w.heap.size, 0, none⟩) (by rw [size_two]; show w.heap.size < _; omega)).trans HC1.out.1
  have d2 := (hb1.cell (p := ⟨w.heap.size, 1, none⟩) (by rw [size_two]; show w.heap.size < _; omega)).trans HC1.out.2.1
  have d3 : w1.frozen? ⟨w.heap.size, 0, none⟩ = false := (hb1.frozen (p := ⟨w.heap.size, 0, none⟩) (by rw [size_two]; show w.heap.size < _; omega)).trans (HC1.out.2.2 0)
  have d4 : w1.frozen? ⟨w.heap.size, 1, none⟩ = false := (hb1.frozen (p := ⟨w.heap.size, 1, none⟩) (by rw [size_two]; show w.heap.size < _; omega)).trans (HC1.out.2.2 1)
  have d5 := (hb1.cell (p := ⟨w.heap.size + 1, 0, none⟩) (by rw [size_two]; show w.heap.size + 1 < _; omega)).trans HC0.out
  have HB2 : Hid (Below w.heap.size w w1) := HB1.out.trans (hb1.mono (by rw [size_two]; omega))
  have HF : Hid (∀ x y, ArIn (n + 1) w.heap.size ((w1.setCell ⟨w.heap.size, 0, none⟩ x).setCell ⟨w.heap.size, 1, none⟩ y) (numsA l) (.agg #[.slice (some ⟨w.heap.size + 1, 0, none⟩) 1 1, .slice a2 l.length l.length])) := by
    intro x y
    have hk : Keeps (w.heap.size + 1) w1 ((w1.setCell ⟨w.heap.size, 0, none⟩ x).setCell ⟨w.heap.size, 1, none⟩ y) := ((Keeps.refl _ _).setCell (p := ⟨w.heap.size, 0, none⟩) (by show w.heap.size < _; omega) x).setCell (p := ⟨w.heap.size, 1, none⟩) (by show w.heap.size < _; omega) y
    refine arIn_mk (x := numsA l) ?_ (by simpa [numsA, Ar.cells, numCs_len] using hl) ?_ rfl (numCs_len 0 l)
    · exact ((row_one (lo := w.heap.size + 1) (b := w.heap.size + 1) (by omega) (Nat.le_refl _) d5).keeps hk).low (by omega)
    · rw [size_two] at hcs
      exact ((hcs.mono (lo' := w.heap.size + 1) (by omega) (Below.refl _ _)).keeps hk).mono (by omega) (Below.refl _ _)
  have t := set_two d1 d2 (.slice (some ⟨w.heap.size + 1, 0, none⟩) 1 1) (.slice a2 l.length l.length)
  have HT := hide t
  clear C hcs HC0 HC1 HB1 hb1 d5 sz t
  go_wp2
  exact bodyPost_ret (v := .agg #[.slice (some ⟨w.heap.size + 1, 0, none⟩) 1 1, .slice a2 l.length l.length]) (by simp [results, Try.results54, go_sem, HT.out.1, HT.out.2]) rfl ⟨⟨_, rfl, HF.out _ _⟩, (HB2.out.setCell (p := ⟨w.heap.size, 0, none⟩) (Nat.le_refl _) _).setCell (p := ⟨w.heap.size, 1, none⟩) (Nat.le_refl _) _⟩
end Go.Proofs.Ytimkcpbgnoekcaa
namespace Go.Proofs.Ytimkcpbgnoekcaa
open Go.ChangeShapes Go.WideShapes Go.ChangeAt Go.RowKit
set_option linter.unusedVariables false
/-- A new block that may be written. -/
def softO : Obj → Prop
  | .cells _ _ f => f = (0, 0)
  | _ => True
def Fz (w w' : World) : Prop := w.heap.size ≤ w'.heap.size ∧ (∀ p : Addr, p.block < w.heap.size → w'.frozen? p = w.frozen? p) ∧ ∀ p : Addr, w.heap.size ≤ p.block → w'.frozen? p = false
theorem frozen_end {w : World} {p : Addr} (h : w.heap.size ≤ p.block) : w.frozen? p = false := by
  unfold World.frozen?
  rw [Array.getElem?_eq_none h]
theorem Fz.refl (w : World) : Fz w w := ⟨Nat.le_refl _, fun _ _ => rfl, fun _ h => frozen_end h⟩
theorem Fz.trans {a b c : World} (h : Fz a b) (k : Fz b c) : Fz a c := by
  refine ⟨Nat.le_trans h.1 k.1, fun p hp => (k.2.1 p (Nat.lt_of_lt_of_le hp h.1)).trans (h.2.1 p hp), fun p hp => ?_⟩
  by_cases hb : p.block < b.heap.size
  · exact (k.2.1 p hb).trans (h.2.2 p hp)
  · exact k.2.2 p (by omega)
theorem Fz.setCell (w : World) (q : Addr) (v : Value) : Fz w (w.setCell q v) := ⟨by simp, fun p _ => by simp, fun p hp => by simpa using frozen_end hp⟩
theorem Fz.alloc (w : World) (o : Obj) (ho : softO o) : Fz w (w.alloc o) := by
  refine ⟨by simp, fun p hp => World.frozen?_of_block (w := w) (Below.heap_alloc w o _ hp), fun p hp => ?_⟩
  unfold World.frozen?
  have e : (w.alloc o).heap[p.block]? = if p.block = w.heap.size then some o else w.heap[p.block]? := by
    show (w.heap.push o)[p.block]? = _
    rw [Array.getElem?_push]
  rw [e]
  by_cases h : p.block = w.heap.size
  · rw [if_pos h]
    cases o with
    | cells c t f => have : f = (0, 0) := ho; subst this; simp
    | _ => rfl
  · rw [if_neg h, Array.getElem?_eq_none hp]
structure BelowS (B : Nat) (w w' : World) : Prop where
  b : Below B w w'
  z : Fz w w'
instance {B : Nat} {w w' : World} : Coe (BelowS B w w') (Below B w w') := ⟨BelowS.b⟩
namespace BelowS
variable {B B' : Nat} {a b c w w' : World}
theorem refl (B : Nat) (w : World) : BelowS B w w := ⟨Below.refl _ _, Fz.refl _⟩
theorem trans (h : BelowS B a b) (k : BelowS B b c) : BelowS B a c := ⟨h.b.trans k.b, h.z.trans k.z⟩
theorem mono (h : BelowS B w w') (hB : B' ≤ B) : BelowS B' w w' := ⟨h.b.mono hB, h.z⟩
theorem drew (h : BelowS B a w) : BelowS B a w.drew := ⟨h.b.drew, h.z⟩
theorem heap_setCell (w : World) (a : Addr) (u : Value) (k : Nat) (h : k ≠ a.block) : (w.setCell a u).heap[k]? = w.heap[k]? := Below.heap_setCell w a u k h
theorem alloc (h : BelowS B a w) (hB : B ≤ w.heap.size) (o : Obj) (ho : softO o := by exact rfl) : BelowS B a (w.alloc o) := ⟨h.b.alloc hB o, h.z.trans (Fz.alloc w o ho)⟩
theorem setCell (h : BelowS B a w) {p : Addr} (hp : B ≤ p.block) (u : Value) : BelowS B a (w.setCell p u) := ⟨h.b.setCell hp u, h.z.trans (Fz.setCell w p u)⟩
theorem size (h : BelowS B w w') : w.heap.size ≤ w'.heap.size := h.b.size
theorem block (h : BelowS B w w') : ∀ k, k < B → w'.heap[k]? = w.heap[k]? := h.b.block
theorem cell (h : BelowS B w w') {p : Addr} (hp : p.block < B) : w'.cell? p = w.cell? p := h.b.cell hp
theorem frozen (h : BelowS B w w') {p : Addr} (hp : p.block < B) : w'.frozen? p = w.frozen? p := h.b.frozen hp
end BelowS
theorem two_allocsS (w : World) (o1 o2 : Obj) (h1 : softO o1 := by exact rfl) (h2 : softO o2 := by exact rfl) : BelowS w.heap.size w ((w.alloc o1).alloc o2) := ((BelowS.refl _ _).alloc (Nat.le_refl _) _ h1).alloc (by simp) _ h2
theorem one_allocS (w : World) (o : Obj) (h1 : softO o := by exact rfl) : BelowS w.heap.size w (w.alloc o) := (BelowS.refl _ _).alloc (Nat.le_refl _) _ h1
/-- The same array, in memory of the call's own that may be written. -/
def GivesS (n : Nat) (x : Ar) (w : World) (e : Ending) (w' : World) : Prop := (∃ v, e = .returned v ∧ ArIn n w.heap.size w' x v) ∧ BelowS w.heap.size w w'
end Go.Proofs.Ytimkcpbgnoekcaa
