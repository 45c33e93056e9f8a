/-
  The plain mathematics of layer 3's shapes: how many cells a shape has, which cell stands at places, where a cell stands; no program is named.
  A slice of integers as a row of numbers; the contracts of layer 3's Size and of the document's: how many cells a shape has, for all shapes.
  Arrays as plain data, how they lie in memory, and their order: the plain mathematics of it; no program is named.
  The contracts of layer 3's Atom, Nums and Text: numbers and signs as arrays, in memory of their own; the numbers not more than a machine holds.
  Memory that a call made and that may be written: no cell from the old memory's end on is frozen, and none of the old ones turned in that; kept by every step.
  What a store of a number into a copy leaves as it was: all that is no number, and all outside the copy's own memory; and what of a copied array is written so.
  The contracts of the plain functions of layer 1: each call returns the number that the chapter says, or 0 and ErrOverflow, and leaves memory as it was; conditions: the arguments fit int64 (uint64).
  The contracts of Mul and Res of layer 1 and of the chapter's Res: a * b if it fits, else 0 and ErrOverflow; what is left has the sign of a; condition: the arguments fit int64.
  The contract of Sum of layer 1: the sum of the numbers if it fits, else 0 and ErrOverflow; memory stays as it was; conditions: the numbers fit int64, and there are at most 2^47 of them.
  The contract of Prod of layer 1: the product of the numbers if it fits, else 0 and ErrOverflow; memory stays as it was; conditions: the numbers fit int64, and there are at most 2^47 of them.
  The contract of the chapter's Prod (the reference): the product of the numbers if it fits, else 0 and ErrOverflow; memory stays as it was; conditions: the numbers fit int64, and there are at most 2^47 of them.
  The contracts of layer 3's Cmp and Cell, one in the other; for all arrays and cells.
  The contract of the chapter's Sum (the reference): the sum of the numbers if it fits, else 0 and ErrOverflow; nothing that was there is changed; conditions: the numbers fit int64, and there are fewer than 2^31 of them.
  The contracts of the chapter's Add, Sub, Mul and Abs (the reference): the number if it fits, else 0 and ErrOverflow; nothing that was there is changed; condition: the arguments fit int64.
  The contracts of layer 3's Place and Places, and of the document's: which cell stands at places, where a cell stands, for all shapes; and of the statements' own comparison of two lists of numbers.
  The contracts of the document's Place, of layer 3's Places and the document's, and of the statements' own comparison of two lists of numbers; for all shapes.
  The contract of layer 3's Cmp and Same; for all arrays.
  The contracts of layer 3's Cmp and Cell, and of the comparison of numbers and of things one by one that they rest on; for all arrays and cells.
  The contract of the document's Cell; for all cells.
-/
import Derived.Test.YtlfacpclihmnnaaDoorRows
import Derived.Test.YtlfacpclihmnnaaDoorCards
import Derived.Test.YtlfacpclihmnnaaDoorTie
import Derived.WalkKit
import Derived.Test.YtlfacpclihmnnaaDoorChecked
import GoSem.Claim
import GoSem.ClaimJoined
import GoSem.ClaimMapViews
import Derived.JoinedTies
import Derived.KernelRfl
import Derived.ProofKit
import Derived.Below
import Derived.Deep.OwnRows
import Derived.Deep.QuietTactic
import Derived.BigQuiet
import Derived.Deep.RegionWith
import Derived.Laws.MakeOwn
import Derived.Deep.RegionHeld3
import Derived.OpenShut
import Derived.Lib.Mul64
import Derived.Laws.Bits64b
import Derived.ChangeOld
import Derived.SizedLaws
import Derived.Deep.Slices
import Derived.Deep.Strs
import Derived.Deep.LoopGhost
import Derived.Laws.IdiomCopy
import Derived.Deep.Cut
import Derived.Deep.RegionLaw
import Derived.Laws.AppendOwnNone
import Derived.BigFrame
import Derived.Laws.OwnMore
import Derived.OwnWalk
import Derived.Lib.SliceRun
import Derived.Deep.CutRange
import Derived.Laws.EntriesVeiled
import GoSem.ClaimSeven
import Derived.LaidByTextLater
import Derived.SevenTiedAt
import Derived.LaidSub
import Derived.LaidOnce
import Derived.Deep.DeepHandedRow
import Derived.Lib.LaidTab
namespace Go.Proofs.YtlfacpclihmnnaaDoor
def prodL : List Int → Int
  | [] => 1
  | z :: r => z * prodL r
theorem prodL_append (l m : List Int) : prodL (l ++ m) = prodL l * prodL m := by
  induction l with
  | nil => simp [prodL]
  | cons x l ih => simp [prodL, ih, Int.mul_assoc]
theorem prodL_pos {l : List Int} (h : ∀ z ∈ l, 0 < z) : 1 ≤ prodL l := by
  induction l with
  | nil => simp [prodL]
  | cons x l ih =>
    have h1 := ih fun z hz => h z (List.mem_cons_of_mem _ hz)
    have h2 := h x List.mem_cons_self
    have := Int.mul_le_mul (a := 1) (b := 1) (c := x) (d := prodL l) (by omega) h1 (by omega) (by omega)
    simpa [prodL] using this
theorem prodL_take_le {l : List Int} (h : ∀ z ∈ l, 0 < z) (k : Nat) : prodL (l.take k) ≤ prodL l := by
  have e := prodL_append (l.take k) (l.drop k)
  rw [List.take_append_drop] at e
  have h1 := prodL_pos (l := l.take k) fun z hz => h z (List.mem_of_mem_take hz)
  have h2 := prodL_pos (l := l.drop k) fun z hz => h z (List.mem_of_mem_drop hz)
  have := Int.mul_le_mul (a := prodL (l.take k)) (b := 1) (c := prodL (l.take k)) (d := prodL (l.drop k)) (by omega) h2 (by omega) (by omega)
  omega
theorem prodL_take_succ (l : List Int) (k : Nat) (h : k < l.length) : prodL (l.take (k + 1)) = prodL (l.take k) * l[k]?.getD 0 := by
  rw [List.take_succ_eq_append_getElem h, prodL_append]
  simp [prodL, h]
def hasNeg (l : List Int) : Prop := ∃ z ∈ l, z < 0
def hasZero (l : List Int) : Prop := ∃ z ∈ l, z = 0
instance (l : List Int) : Decidable (hasNeg l) := inferInstanceAs (Decidable (∃ z ∈ l, z < 0))
instance (l : List Int) : Decidable (hasZero l) := inferInstanceAs (Decidable (∃ z ∈ l, z = 0))
/-- Size's answer: how many, and the error. -/
def sizeV (l : List Int) : Int := if 8 < l.length ∨ hasNeg l ∨ hasZero l ∨ 16384 < prodL l then 0 else prodL l
def sizeE (l : List Int) : Int := if 8 < l.length then 6 else if hasNeg l then 1 else if hasZero l then 0 else if 16384 < prodL l then 12 else 0
theorem all_pos {l : List Int} (h1 : ¬ hasNeg l) (h2 : ¬ hasZero l) : ∀ z ∈ l, 0 < z := by
  intro z hz
  have a : ¬ z < 0 := fun h => h1 ⟨z, hz, h⟩
  have b : ¬ z = 0 := fun h => h2 ⟨z, hz, h⟩
  omega
theorem size_long {l : List Int} (h : 8 < l.length) : sizeV l = 0 ∧ sizeE l = 6 := by simp [sizeV, sizeE, h]
theorem size_neg {l : List Int} (h : ¬ 8 < l.length) (h1 : hasNeg l) : sizeV l = 0 ∧ sizeE l = 1 := by simp [sizeV, sizeE, h, h1]
theorem size_zero {l : List Int} (h : ¬ 8 < l.length) (h1 : ¬ hasNeg l) (h2 : hasZero l) : sizeV l = 0 ∧ sizeE l = 0 := by simp [sizeV, sizeE, h, h1, h2]
theorem size_many {l : List Int} (h : ¬ 8 < l.length) (h1 : ¬ hasNeg l) (h2 : ¬ hasZero l) (h3 : 16384 < prodL l) : sizeV l = 0 ∧ sizeE l = 12 := by simp [sizeV, sizeE, h, h1, h2, h3]
theorem size_ok {l : List Int} (h : ¬ 8 < l.length) (h1 : ¬ hasNeg l) (h2 : ¬ hasZero l) (h3 : ¬ 16384 < prodL l) : sizeV l = prodL l ∧ sizeE l = 0 := by simp [sizeV, sizeE, h, h1, h2, h3]
/-- The least, and the greatest, of 1 and the numbers. -/
def leastL (l : List Int) : Int := l.foldl min 1
def mostL (l : List Int) : Int := l.foldl max 1
theorem foldl_snoc {α β : Type} (f : β → α → β) (a : β) (l : List α) (k : Nat) (h : k < l.length) : (l.take (k + 1)).foldl f a = f ((l.take k).foldl f a) l[k] := by
  rw [List.take_succ_eq_append_getElem h, List.foldl_append]; rfl
theorem least_le (l : List Int) (a : Int) : l.foldl min a ≤ a ∧ ∀ z ∈ l, l.foldl min a ≤ z := by
  induction l generalizing a with
  | nil => simp
  | cons x l ih =>
    obtain ⟨h1, h2⟩ := ih (min a x)
    simp only [List.foldl_cons]
    refine ⟨by omega, fun z hz => ?_⟩
    rcases List.mem_cons.1 hz with rfl | hz
    · omega
    · exact h2 z hz
theorem least_is (l : List Int) (a : Int) : l.foldl min a = a ∨ l.foldl min a ∈ l := by
  induction l generalizing a with
  | nil => simp
  | cons x l ih =>
    simp only [List.foldl_cons]
    rcases ih (min a x) with h | h
    · rw [h]
      by_cases hx : a ≤ x
      · left; omega
      · right; have : min a x = x := by omega
        rw [this]; exact List.mem_cons_self
    · right; exact List.mem_cons_of_mem _ h
theorem most_le (l : List Int) (a : Int) : a ≤ l.foldl max a ∧ ∀ z ∈ l, z ≤ l.foldl max a := by
  induction l generalizing a with
  | nil => simp
  | cons x l ih =>
    obtain ⟨h1, h2⟩ := ih (max a x)
    simp only [List.foldl_cons]
    refine ⟨by omega, fun z hz => ?_⟩
    rcases List.mem_cons.1 hz with rfl | hz
    · omega
    · exact h2 z hz
theorem most_is (l : List Int) (a : Int) : l.foldl max a = a ∨ l.foldl max a ∈ l := by
  induction l generalizing a with
  | nil => simp
  | cons x l ih =>
    simp only [List.foldl_cons]
    rcases ih (max a x) with h | h
    · rw [h]
      by_cases hx : x ≤ a
      · left; omega
      · right; have : max a x = x := by omega
        rw [this]; exact List.mem_cons_self
    · right; exact List.mem_cons_of_mem _ h
theorem least_neg {l : List Int} : leastL l < 0 ↔ hasNeg l := by
  constructor
  · intro h
    rcases least_is l 1 with e | e
    · unfold leastL at h; omega
    · exact ⟨_, e, h⟩
  · rintro ⟨z, hz, h⟩
    have := (least_le l 1).2 z hz
    unfold leastL; omega
theorem least_zero {l : List Int} (hn : ¬ hasNeg l) : leastL l = 0 ↔ hasZero l := by
  constructor
  · intro h
    rcases least_is l 1 with e | e
    · unfold leastL at h; omega
    · exact ⟨_, e, h⟩
  · rintro ⟨z, hz, h⟩
    have h1 := (least_le l 1).2 z hz
    have h2 : ¬ leastL l < 0 := fun h => hn (least_neg.1 h)
    unfold leastL at *; omega
def hasLong (l : List Int) : Prop := ∃ z ∈ l, 16384 < z
instance (l : List Int) : Decidable (hasLong l) := inferInstanceAs (Decidable (∃ z ∈ l, 16384 < z))
theorem most_long {l : List Int} : 16384 < mostL l ↔ hasLong l := by
  constructor
  · intro h
    rcases most_is l 1 with e | e
    · unfold mostL at h; omega
    · exact ⟨_, e, h⟩
  · rintro ⟨z, hz, h⟩
    have := (most_le l 1).2 z hz
    unfold mostL; omega
theorem prod_of_mem {l : List Int} (h : ∀ z ∈ l, 0 < z) {z : Int} (hz : z ∈ l) : z ≤ prodL l := by
  induction l with
  | nil => simp at hz
  | cons x l ih =>
    have h1 := prodL_pos (l := l) fun z hz => h z (List.mem_cons_of_mem _ hz)
    have hx := h x List.mem_cons_self
    rcases List.mem_cons.1 hz with rfl | hz
    · have := Int.mul_le_mul (a := z) (b := 1) (c := z) (d := prodL l) (by omega) h1 (by omega) (by omega)
      simp only [prodL]; omega
    · have h2 := ih (fun z hz => h z (List.mem_cons_of_mem _ hz)) hz
      have := Int.mul_le_mul (a := 1) (b := prodL l) (c := x) (d := prodL l) (by omega) (by omega) (by omega) (by omega)
      simp only [prodL]; omega
theorem long_many {l : List Int} (h : ∀ z ∈ l, 0 < z) (hl : hasLong l) : 16384 < prodL l := by
  obtain ⟨z, hz, hz'⟩ := hl
  have := prod_of_mem h hz
  omega
theorem getD_mem {l : List Int} {k : Nat} (h : k < l.length) : l[k]?.getD 0 ∈ l := by
  simp [h]
theorem mem_getD {l : List Int} {z : Int} (h : z ∈ l) : ∃ k, k < l.length ∧ l[k]?.getD 0 = z := by
  obtain ⟨k, hk, e⟩ := List.getElem_of_mem h
  exact ⟨k, hk, by simp [hk, e]⟩
/-- Which cell stands at places: the last axis fastest. -/
def inAxes : List Int → List Int → Prop
  | s :: ss, a :: ms => (0 ≤ a ∧ a < s) ∧ inAxes ss ms
  | [], [] => True
  | _, _ => False
def place : List Int → List Int → Int
  | _ :: ss, a :: ms => a * prodL ss + place ss ms
  | _, _ => 0
theorem place_bound {l at' : List Int} (h : inAxes l at') : (∀ z ∈ l, 0 < z) ∧ 0 ≤ place l at' ∧ place l at' < prodL l ∧ at'.length = l.length := by
  induction l generalizing at' with
  | nil =>
    cases at' with
    | nil => simp [place, prodL]
    | cons a ms => simp [inAxes] at h
  | cons s ss ih =>
    cases at' with
    | nil => simp [inAxes] at h
    | cons a ms =>
      simp only [inAxes] at h
      obtain ⟨⟨h1, h2⟩, h3⟩ := h
      obtain ⟨i1, i2, i3, i4⟩ := ih h3
      have hp := prodL_pos i1
      have a1 : 0 ≤ a * prodL ss := Int.mul_nonneg h1 (by omega)
      have a2 : (a + 1) * prodL ss ≤ s * prodL ss := Int.mul_le_mul_of_nonneg_right (by omega) (by omega)
      rw [Int.add_mul] at a2
      refine ⟨?_, ?_, ?_, by simp [i4]⟩
      · intro z hz
        rcases List.mem_cons.1 hz with rfl | hz
        · omega
        · exact i1 z hz
      · simp only [place]; omega
      · simp only [place, prodL]; omega
/-- Where a cell stands. -/
def digits : List Int → Int → List Int
  | [], _ => []
  | _ :: ss, n => n / prodL ss :: digits ss (n % prodL ss)
theorem digits_length (l : List Int) (n : Int) : (digits l n).length = l.length := by
  induction l generalizing n with
  | nil => rfl
  | cons s ss ih => simp [digits, ih]
theorem digits_in {l : List Int} (h : ∀ z ∈ l, 0 < z) {n : Int} (h0 : 0 ≤ n) (h1 : n < prodL l) : inAxes l (digits l n) ∧ place l (digits l n) = n := by
  induction l generalizing n with
  | nil => simp [prodL] at h1; simp [digits, inAxes, place]; omega
  | cons s ss ih =>
    have hp := prodL_pos (l := ss) fun z hz => h z (List.mem_cons_of_mem _ hz)
    have m0 := Int.emod_nonneg n (show prodL ss ≠ 0 by omega)
    have m1 := Int.emod_lt_of_pos n (show 0 < prodL ss by omega)
    obtain ⟨i1, i2⟩ := ih (fun z hz => h z (List.mem_cons_of_mem _ hz)) m0 m1
    have d0 : 0 ≤ n / prodL ss := Int.ediv_nonneg h0 (by omega)
    have d1 : n / prodL ss < s := by
      apply Int.ediv_lt_of_lt_mul (by omega)
      simpa [prodL] using h1
    refine ⟨⟨⟨d0, d1⟩, i1⟩, ?_⟩
    simp only [digits, place, i2]
    have := Int.mul_ediv_add_emod n (prodL ss)
    rw [Int.mul_comm] at this
    exact this
theorem digits_place {l at' : List Int} (h : inAxes l at') : digits l (place l at') = at' := by
  induction l generalizing at' with
  | nil =>
    cases at' with
    | nil => rfl
    | cons a ms => simp [inAxes] at h
  | cons s ss ih =>
    cases at' with
    | nil => simp [inAxes] at h
    | cons a ms =>
      simp only [inAxes] at h
      obtain ⟨h1, h3⟩ := h
      obtain ⟨i1, i2, i3, i4⟩ := place_bound h3
      have hp := prodL_pos i1
      have e : a * prodL ss + place ss ms = place ss ms + prodL ss * a := by rw [Int.mul_comm]; omega
      simp only [digits, place]
      rw [e, Int.add_mul_ediv_left _ _ (by omega), Int.ediv_eq_zero_of_lt i2 i3, Int.add_mul_emod_self_left, Int.emod_eq_of_lt i2 i3, ih h3]
      simp
end Go.Proofs.YtlfacpclihmnnaaDoor
namespace Go.Proofs.YtlfacpclihmnnaaDoor
open Go.ChangeShapes Go.WideShapes Go.ChangeAt Go.RowKit
/-- A slice of integers, as a row of numbers, all of it in blocks from lo on. -/
def Row (lo : Nat) (w : World) (a : Option Addr) (zs : List Int) : Prop :=
  zs.length ≤ 140737488355328 ∧ (zs = [] ∨ ∃ b off, a = some ⟨b, off, none⟩ ∧ lo ≤ b ∧ b < w.heap.size ∧ ∀ i, i < zs.length → w.cell? ⟨b, off + i, none⟩ = some (.int .i64 (zs[i]?.getD 0)))
theorem Row.next {lo : Nat} {w w1 : World} {a : Option Addr} {zs : List Int} (h : Row lo w a zs) (hb : Below w.heap.size w w1) : Row lo w1 a zs := by
  obtain ⟨h2, h3⟩ := h
  refine ⟨h2, ?_⟩
  rcases h3 with h3 | ⟨b, off, ha, hlo, hbb, hc⟩
  · exact Or.inl h3
  · exact Or.inr ⟨b, off, ha, hlo, Nat.lt_of_lt_of_le hbb hb.size, fun i hi => (hb.cell (p := ⟨b, off + i, none⟩) hbb).trans (hc i hi)⟩
theorem Row.low {lo lo' : Nat} {w : World} {a : Option Addr} {zs : List Int} (h : Row lo w a zs) (hl : lo' ≤ lo) : Row lo' w a zs := by
  obtain ⟨h2, h3⟩ := h
  refine ⟨h2, ?_⟩
  rcases h3 with h3 | ⟨b, off, ha, hlo, hbb, hc⟩
  · exact Or.inl h3
  · exact Or.inr ⟨b, off, ha, Nat.le_trans hl hlo, hbb, hc⟩
theorem row_at {lo : Nat} {w : World} {a : Option Addr} {l : List Int} (R : Row lo w a l) {j : Nat} (h : j < l.length) : ∃ b off, a = some ⟨b, off, none⟩ ∧ b < w.heap.size ∧ w.cell? ⟨b, off + j, none⟩ = some (.int .i64 (l[j]?.getD 0)) := by
  rcases R.2 with h0 | ⟨b, off, ha, _, hb, hc⟩
  · subst h0; simp at h
  · exact ⟨b, off, ha, hb, hc j h⟩
theorem retB {a b : Bool} (h : a = b) : Ending.returned (.bool a) = .returned (.bool b) := by rw [h]
theorem retI {k : IntKind} {a b : Int} (h : a = b) : Ending.returned (.int k a) = .returned (.int k b) := by rw [h]
theorem retII {a b c d : Int} (h : a = c ∧ b = d) : Ending.returned (.tuple #[.int .i64 a, .int .i64 b]) = .returned (.tuple #[.int .i64 c, .int .i64 d]) := by rw [h.1, h.2]
theorem min_if (p z : Int) : min p z = if z < p then z else p := by split <;> omega
theorem max_if (q z : Int) : max q z = if q < z then z else q := by split <;> omega
theorem ends_step (l : List Int) (j : Nat) (hlt : j < l.length) : leastL (l.take (j + 1)) = min (leastL (l.take j)) (l[j]?.getD 0) ∧ mostL (l.take (j + 1)) = max (mostL (l.take j)) (l[j]?.getD 0) := by
  unfold leastL mostL
  rw [foldl_snoc _ _ _ _ hlt, foldl_snoc _ _ _ _ hlt]
  simp [hlt]
set_option maxHeartbeats 1000000 in
theorem ends_any {lo : Nat} (l : List Int) (a : Option Addr) (cap : Nat) (w : World) (R : Row lo w a l) :
    Calls Tryd.prog 60 #[.slice a l.length cap] w fun e w' => e = .returned (.tuple #[.int .i64 (leastL l), .int .i64 (mostL l)]) ∧ w' = w := by
  have hrow := @row_at _ _ _ _ R
  have hl := R.1
  clear R
  go_enter Tryd.func60, Tryd.ntmps60
  go_wp2
  go_loop [4, 5, 10] (fun x y i => ∃ j : Nat, j ≤ l.length ∧ i = .int .i64 j ∧ x = .int .i64 (leastL (l.take j)) ∧ y = .int .i64 (mostL (l.take j))) (fun _ _ i => l.length - (intOf i).toNat)
  case atStart => exact ⟨0, Nat.zero_le _, rfl, by simp [leastL], by simp [mostL]⟩
  case round =>
    obtain ⟨j, hj, rfl, rfl, rfl⟩ := hrel
    by_cases hlt : j < l.length
    · obtain ⟨b, off, ha, hb, hck⟩ := hrow hlt
      subst ha
      have e1 : Hid (leastL (l.take (j + 1)) = min (leastL (l.take j)) (l[j]?.getD 0) ∧ mostL (l.take (j + 1)) = max (mostL (l.take j)) (l[j]?.getD 0)) := by
        exact ends_step l j hlt
      obtain ⟨z, hz⟩ : ∃ z, l[j]?.getD 0 = z := ⟨_, rfl⟩
      rw [hz] at hck e1
      clear hrow hz
      generalize leastL (l.take j) = p at e1
      generalize mostL (l.take j) = q at e1
      go_wp2
      go_round
      case rel => exact ⟨j + 1, by omega, by go_num, by rw [e1.out.1, min_if], by rw [e1.out.2, max_if]⟩
      case measure => simp [intOf]; omega
    · have hje : j = l.length := by omega
      subst hje
      rw [List.take_length]
      go_wp2
      go_ret2
      exact ⟨rfl, rfl⟩
theorem size_take_bound {l : List Int} (hp : ∀ z ∈ l, 0 < z) (hm : ¬ hasLong l) {j : Nat} (hj : j < l.length) (h : prodL (l.take j) ≤ 16384) : 1 ≤ prodL (l.take j) ∧ 1 ≤ l[j]?.getD 0 ∧ l[j]?.getD 0 ≤ 16384 ∧ 0 ≤ prodL (l.take j) * l[j]?.getD 0 ∧ prodL (l.take j) * l[j]?.getD 0 ≤ 268435456 := by
  have h1 := prodL_pos (l := l.take j) fun z hz => hp z (List.mem_of_mem_take hz)
  have h2 := hp _ (getD_mem hj)
  have h3 : ¬ 16384 < l[j]?.getD 0 := fun h => hm ⟨_, getD_mem hj, h⟩
  have h4 := Int.mul_nonneg (a := prodL (l.take j)) (b := l[j]?.getD 0) (by omega) (by omega)
  have h5 := Int.mul_le_mul (a := prodL (l.take j)) (b := l[j]?.getD 0) (c := 16384) (d := 16384) h (by omega) (by omega) (by omega)
  exact ⟨h1, by omega, by omega, h4, by omega⟩
set_option maxHeartbeats 1000000 in
theorem size_any {lo : Nat} (l : List Int) (a : Option Addr) (cap : Nat) (w : World) (R : Row lo w a l) :
    Calls Tryd.prog 28 #[.slice a l.length cap] w fun e w' => e = .returned (.tuple #[.int .i64 (sizeV l), .int .i64 (sizeE l)]) ∧ w' = w := by
  have C := ends_any l a cap w R
  have hrow := @row_at _ _ _ _ R
  have hl := R.1
  clear R
  by_cases h8 : 8 < l.length
  · rw [(size_long h8).1, (size_long h8).2]
    go_enter Tryd.func28, Tryd.ntmps28
    go_wp2
    go_ret2
    exact ⟨rfl, rfl⟩
  · have H8 : Hid (¬ 8 < l.length) := h8
    by_cases hn : hasNeg l
    · have h0 := least_neg.2 hn
      rw [(size_neg h8 hn).1, (size_neg h8 hn).2]
      generalize leastL l = p at C h0
      generalize mostL l = q at C
      clear hn
      go_enter Tryd.func28, Tryd.ntmps28
      go_wp2_with (go_at_call 60; refine C.mono ?_; rintro e w' ⟨rfl, hw⟩; rw [hw])
      go_ret2
      exact ⟨rfl, rfl⟩
    · have h0 : ¬ leastL l < 0 := fun h => hn (least_neg.1 h)
      by_cases hz : hasZero l
      · have h1 := (least_zero hn).2 hz
        rw [(size_zero h8 hn hz).1, (size_zero h8 hn hz).2]
        generalize leastL l = p at C h0 h1
        generalize mostL l = q at C
        clear hn hz
        go_enter Tryd.func28, Tryd.ntmps28
        go_wp2_with (go_at_call 60; refine C.mono ?_; rintro e w' ⟨rfl, hw⟩; rw [hw])
        go_ret2
        exact ⟨rfl, rfl⟩
      · have h1 : ¬ leastL l = 0 := fun h => hz ((least_zero hn).1 h)
        have hp := all_pos hn hz
        by_cases hm : hasLong l
        · have h2 := most_long.2 hm
          have h3 := long_many hp hm
          rw [(size_many h8 hn hz h3).1, (size_many h8 hn hz h3).2]
          generalize leastL l = p at C h0 h1
          generalize mostL l = q at C h2
          clear hn hz hp hm h3
          go_enter Tryd.func28, Tryd.ntmps28
          go_wp2_with (go_at_call 60; refine C.mono ?_; rintro e w' ⟨rfl, hw⟩; rw [hw])
          go_ret2
          exact ⟨rfl, rfl⟩
        · have h2 : ¬ 16384 < mostL l := fun h => hm (most_long.1 h)
          have FM : Hid (∀ j, prodL (l.take j) > 16384 → sizeV l = 0 ∧ sizeE l = 12) := fun j h => size_many h8 hn hz (Int.lt_of_lt_of_le h (prodL_take_le hp j))
          have FO : Hid (prodL l ≤ 16384 → sizeV l = prodL l ∧ sizeE l = 0) := fun h => size_ok h8 hn hz (by omega)
          have FB : Hid (∀ j, j < l.length → prodL (l.take j) ≤ 16384 → 1 ≤ prodL (l.take j) ∧ 1 ≤ l[j]?.getD 0 ∧ l[j]?.getD 0 ≤ 16384 ∧ 0 ≤ prodL (l.take j) * l[j]?.getD 0 ∧ prodL (l.take j) * l[j]?.getD 0 ≤ 268435456) := fun j hj h => size_take_bound hp hm hj h
          generalize sizeV l = V at FM FO
          generalize sizeE l = E at FM FO
          generalize leastL l = p at C h0 h1
          generalize mostL l = q at C h2
          clear hn hz hp hm
          go_enter Tryd.func28, Tryd.ntmps28
          go_wp2_with (go_at_call 60; refine C.mono ?_; rintro e w' ⟨rfl, hw⟩; rw [hw])
          clear C
          go_loop [6, 28] (fun x i => ∃ j : Nat, j ≤ l.length ∧ i = .int .i64 j ∧ x = .int .i64 (prodL (l.take j)) ∧ prodL (l.take j) ≤ 16384) (fun _ i => l.length - (intOf i).toNat)
          case atStart => exact ⟨0, Nat.zero_le _, rfl, by simp [prodL], by simp [prodL]⟩
          case round =>
            obtain ⟨j, hj, rfl, rfl, hpj⟩ := hrel
            by_cases hlt : j < l.length
            · obtain ⟨b, off, ha, hb, hck⟩ := hrow hlt
              subst ha
              obtain ⟨f1, f2, f3, f4, f5⟩ := FB.out j hlt hpj
              have e1 : Hid (prodL (l.take (j + 1)) = prodL (l.take j) * l[j]?.getD 0) := prodL_take_succ l j hlt
              obtain ⟨z, hz⟩ : ∃ z, l[j]?.getD 0 = z := ⟨_, rfl⟩
              rw [hz] at hck e1 f2 f3 f4 f5
              clear hrow hz FB
              generalize prodL (l.take j) = r at e1 f1 hpj f4 f5
              obtain ⟨m, hm⟩ : ∃ m, r * z = m := ⟨_, rfl⟩
              rw [hm] at e1 f4 f5
              by_cases hbig : m ≤ 16384
              · go_wp2
                go_round
                case rel => exact ⟨j + 1, by omega, by go_num, by rw [e1.out], by rw [e1.out]; exact hbig⟩
                case measure => simp [intOf]; omega
              · have fm : Hid (V = 0 ∧ E = 12) := FM.out (j + 1) (by rw [e1.out]; omega)
                go_wp2
                go_ret2
                exact ⟨retII ⟨fm.out.1.symm, fm.out.2.symm⟩, rfl⟩
            · have hje : j = l.length := by omega
              subst hje
              rw [List.take_length] at hpj ⊢
              have fo : Hid (V = prodL l ∧ E = 0) := FO.out hpj
              go_wp2
              go_ret2
              exact ⟨retII ⟨fo.out.1.symm, fo.out.2.symm⟩, rfl⟩
set_option maxHeartbeats 1000000 in
theorem rsize_any {lo : Nat} (l : List Int) (a : Option Addr) (cap : Nat) (w : World) (R : Row lo w a l) :
    Calls Tryd.prog 36 #[.slice a l.length cap] w fun e w' => e = .returned (.tuple #[.int .i64 (sizeV l), .int .i64 (sizeE l)]) ∧ w' = w := by
  have hrow := @row_at _ _ _ _ R
  have hl := R.1
  clear R
  by_cases h8 : 8 < l.length
  · rw [(size_long h8).1, (size_long h8).2]
    go_enter Tryd.func36, Tryd.ntmps36
    go_wp2
    go_ret2
    exact ⟨rfl, rfl⟩
  · have FN : Hid (hasNeg l → sizeV l = 0 ∧ sizeE l = 1) := fun h => size_neg h8 h
    have FZ : Hid (¬ hasNeg l → hasZero l → sizeV l = 0 ∧ sizeE l = 0) := fun h h' => size_zero h8 h h'
    have FM : Hid (¬ hasNeg l → ¬ hasZero l → ∀ j, prodL (l.take j) > 16384 → sizeV l = 0 ∧ sizeE l = 12) := fun hn hz j h => size_many h8 hn hz (Int.lt_of_lt_of_le h (prodL_take_le (all_pos hn hz) j))
    have FL : Hid (¬ hasNeg l → ¬ hasZero l → hasLong l → sizeV l = 0 ∧ sizeE l = 12) := fun hn hz h => size_many h8 hn hz (long_many (all_pos hn hz) h)
    have FO : Hid (¬ hasNeg l → ¬ hasZero l → prodL l ≤ 16384 → sizeV l = prodL l ∧ sizeE l = 0) := fun hn hz h => size_ok h8 hn hz (by omega)
    have FB : Hid (¬ hasNeg l → ¬ hasZero l → ∀ j, j < l.length → prodL (l.take j) ≤ 16384 → l[j]?.getD 0 ≤ 16384 → 1 ≤ prodL (l.take j) ∧ 1 ≤ l[j]?.getD 0 ∧ 0 ≤ prodL (l.take j) * l[j]?.getD 0 ∧ prodL (l.take j) * l[j]?.getD 0 ≤ 268435456) := by
      intro hn hz j hj h hle
      have hp := all_pos hn hz
      have h1 := prodL_pos (l := l.take j) fun z hz => hp z (List.mem_of_mem_take hz)
      have h2 := hp _ (getD_mem hj)
      have h4 := Int.mul_nonneg (a := prodL (l.take j)) (b := l[j]?.getD 0) (by omega) (by omega)
      have h5 := Int.mul_le_mul (a := prodL (l.take j)) (b := l[j]?.getD 0) (c := 16384) (d := 16384) h hle (by omega) (by omega)
      exact ⟨h1, by omega, h4, by omega⟩
    have D1 : Hid (∀ j, j < l.length → l[j]?.getD 0 < 0 → hasNeg l) := fun j hj h => ⟨_, getD_mem hj, h⟩
    have D2 : Hid (∀ j, j < l.length → l[j]?.getD 0 = 0 → hasZero l) := fun j hj h => ⟨_, getD_mem hj, h⟩
    have D3 : Hid (∀ j, j < l.length → l[j]?.getD 0 > 16384 → hasLong l) := fun j hj h => ⟨_, getD_mem hj, h⟩
    have D4 : Hid ((∀ i, i < l.length → ¬ l[i]?.getD 0 < 0) → ¬ hasNeg l) := by
      rintro h ⟨z, hz, hz'⟩
      obtain ⟨k, hk, e⟩ := mem_getD hz
      exact h k hk (by omega)
    have D5 : Hid ((∀ i, i < l.length → ¬ l[i]?.getD 0 = 0) → ¬ hasZero l) := by
      rintro h ⟨z, hz, hz'⟩
      obtain ⟨k, hk, e⟩ := mem_getD hz
      exact h k hk (by omega)
    generalize sizeV l = V at FN FZ FM FL FO
    generalize sizeE l = E at FN FZ FM FL FO
    go_enter Tryd.func36, Tryd.ntmps36
    go_wp2
    go_loop [4, 5] (fun x i => ∃ j : Nat, ∃ b : Bool, j ≤ l.length ∧ i = .int .i64 j ∧ x = .bool b ∧ (∀ i, i < j → ¬ l[i]?.getD 0 < 0) ∧ (b = true → hasZero l) ∧ (b = false → ∀ i, i < j → ¬ l[i]?.getD 0 = 0)) (fun _ i => l.length - (intOf i).toNat)
    case atStart => exact ⟨0, false, Nat.zero_le _, rfl, rfl, by simp, by simp, by simp⟩
    case round =>
      obtain ⟨j, bb, hj, rfl, rfl, g1, g2, g3⟩ := hrel
      have G : Hid ((∀ i, i < j → ¬ l[i]?.getD 0 < 0) ∧ (bb = true → hasZero l) ∧ (bb = false → ∀ i, i < j → ¬ l[i]?.getD 0 = 0)) := ⟨g1, g2, g3⟩
      clear g1 g2 g3
      by_cases hlt : j < l.length
      · obtain ⟨b, off, ha, hb, hck⟩ := hrow hlt
        subst ha
        obtain ⟨z, hz⟩ : ∃ z, l[j]?.getD 0 = z := ⟨_, rfl⟩
        have HZ : Hid (l[j]?.getD 0 = z) := hz
        rw [hz] at hck
        clear hrow hz
        by_cases hneg : z < 0
        · have fm : Hid (V = 0 ∧ E = 1) := FN.out (D1.out j hlt (by rw [HZ.out]; exact hneg))
          go_wp2
          go_ret2
          exact ⟨retII ⟨fm.out.1.symm, fm.out.2.symm⟩, rfl⟩
        · have HN : Hid (¬ z < 0) := hneg
          by_cases hzz : z = 0
          · have HY : Hid (hasZero l) := D2.out j hlt (by rw [HZ.out]; exact hzz)
            go_wp2
            go_round
            case rel =>
              refine ⟨j + 1, true, by omega, by go_num, rfl, ?_, fun _ => HY.out, by simp⟩
              intro i hi
              rcases Nat.lt_succ_iff_lt_or_eq.1 hi with h | rfl
              · exact G.out.1 i h
              · rw [HZ.out]; exact HN.out
            case measure => simp [intOf]; omega
          · have HNZ : Hid (¬ z = 0) := hzz
            go_wp2
            go_round
            case rel =>
              refine ⟨j + 1, bb, by omega, by go_num, rfl, ?_, G.out.2.1, ?_⟩
              · intro i hi
                rcases Nat.lt_succ_iff_lt_or_eq.1 hi with h | rfl
                · exact G.out.1 i h
                · rw [HZ.out]; exact HN.out
              · intro hb i hi
                rcases Nat.lt_succ_iff_lt_or_eq.1 hi with h | rfl
                · exact G.out.2.2 hb i h
                · rw [HZ.out]; exact HNZ.out
            case measure => simp [intOf]; omega
      · have hje : j = l.length := by omega
        subst hje
        have hn : ¬ hasNeg l := D4.out (by intro i hi; have := G.out.1 i hi; omega)
        cases bb with
        | true =>
          have fm : Hid (V = 0 ∧ E = 0) := FZ.out hn (G.out.2.1 rfl)
          clear hn
          go_wp2
          go_ret2
          exact ⟨retII ⟨fm.out.1.symm, fm.out.2.symm⟩, rfl⟩
        | false =>
          have hz : ¬ hasZero l := D5.out (by intro i hi; have := G.out.2.2 rfl i hi; omega)
          have FM' : Hid (∀ j, prodL (l.take j) > 16384 → V = 0 ∧ E = 12) := FM.out hn hz
          have FL' : Hid (hasLong l → V = 0 ∧ E = 12) := FL.out hn hz
          have FO' : Hid (prodL l ≤ 16384 → V = prodL l ∧ E = 0) := FO.out hn hz
          have FB' : Hid (∀ j, j < l.length → prodL (l.take j) ≤ 16384 → l[j]?.getD 0 ≤ 16384 → 1 ≤ prodL (l.take j) ∧ 1 ≤ l[j]?.getD 0 ∧ 0 ≤ prodL (l.take j) * l[j]?.getD 0 ∧ prodL (l.take j) * l[j]?.getD 0 ≤ 268435456) := FB.out hn hz
          clear FM FL FO FB FN FZ D1 D2 D4 D5 G hn hz
          go_wp2
          go_loop [6, 7] (fun x i => ∃ j : Nat, j ≤ l.length ∧ i = .int .i64 j ∧ x = .int .i64 (prodL (l.take j)) ∧ prodL (l.take j) ≤ 16384) (fun _ i => l.length - (intOf i).toNat)
          case atStart => exact ⟨0, Nat.zero_le _, rfl, by simp [prodL], by simp [prodL]⟩
          case round =>
            obtain ⟨j, hj, rfl, rfl, hpj⟩ := hrel
            by_cases hlt : j < l.length
            · obtain ⟨b, off, ha, hb, hck⟩ := hrow hlt
              subst ha
              have e1 : Hid (prodL (l.take (j + 1)) = prodL (l.take j) * l[j]?.getD 0) := prodL_take_succ l j hlt
              have FBj : Hid (l[j]?.getD 0 ≤ 16384 → 1 ≤ prodL (l.take j) ∧ 1 ≤ l[j]?.getD 0 ∧ 0 ≤ prodL (l.take j) * l[j]?.getD 0 ∧ prodL (l.take j) * l[j]?.getD 0 ≤ 268435456) := FB'.out j hlt hpj
              have FLj : Hid (l[j]?.getD 0 > 16384 → V = 0 ∧ E = 12) := fun h => FL'.out (D3.out j hlt h)
              obtain ⟨z, hz⟩ : ∃ z, l[j]?.getD 0 = z := ⟨_, rfl⟩
              rw [hz] at hck e1 FBj FLj
              clear hrow hz FB' D3
              generalize prodL (l.take j) = r at e1 hpj FBj
              by_cases hlong : z ≤ 16384
              · obtain ⟨f1, f2, f4, f5⟩ := FBj.out hlong
                obtain ⟨m, hm⟩ : ∃ m, r * z = m := ⟨_, rfl⟩
                rw [hm] at e1 f4 f5
                clear FBj FLj
                by_cases hbig : m ≤ 16384
                · go_wp2
                  go_round
                  case rel => exact ⟨j + 1, by omega, by go_num, by rw [e1.out], by rw [e1.out]; exact hbig⟩
                  case measure => simp [intOf]; omega
                · have fm : Hid (V = 0 ∧ E = 12) := FM'.out (j + 1) (by rw [e1.out]; omega)
                  go_wp2
                  go_ret2
                  exact ⟨retII ⟨fm.out.1.symm, fm.out.2.symm⟩, rfl⟩
              · have fm : Hid (V = 0 ∧ E = 12) := FLj.out (by omega)
                clear FBj FLj
                go_wp2
                go_ret2
                exact ⟨retII ⟨fm.out.1.symm, fm.out.2.symm⟩, rfl⟩
            · have hje : j = l.length := by omega
              subst hje
              rw [List.take_length] at hpj ⊢
              have fo : Hid (V = prodL l ∧ E = 0) := FO'.out hpj
              go_wp2
              go_ret2
              exact ⟨retII ⟨fo.out.1.symm, fo.out.2.symm⟩, rfl⟩
end Go.Proofs.YtlfacpclihmnnaaDoor
namespace Go.Proofs.YtlfacpclihmnnaaDoor
open Go.ChangeShapes Go.WideShapes Go.ChangeAt Go.RowKit
/-- An array: its shape, and its cells: kind, number, what is in the box. -/
inductive Ar where
  | mk (shape : List Int) (cells : List (Int × Int × List Ar))
abbrev Ce := Int × Int × List Ar
def Ar.shape : Ar → List Int
  | .mk s _ => s
def Ar.cells : Ar → List Ce
  | .mk _ c => c
instance : Inhabited Ar := ⟨.mk [] []⟩
/-- A number of 64 bits; an array all of whose numbers are such, boxes gone into. -/
def I64 (a : Int) : Prop := -9223372036854775808 ≤ a ∧ a ≤ 9223372036854775807
inductive Snd : Ar → Prop where
  | mk {s : List Int} {cs : List (Int × Int × List Ar)} (hs : ∀ z ∈ s, I64 z) (hn : ∀ c ∈ cs, I64 c.1 ∧ I64 c.2.1) (hb : ∀ c ∈ cs, ∀ y ∈ c.2.2, Snd y) : Snd (.mk s cs)
def SndC (c : Ce) : Prop := I64 c.1 ∧ I64 c.2.1 ∧ ∀ y ∈ c.2.2, Snd y
theorem Snd.of {s : List Int} {cs : List Ce} (hs : ∀ z ∈ s, I64 z) (hc : ∀ c ∈ cs, SndC c) : Snd (.mk s cs) := .mk hs (fun c h => ⟨(hc c h).1, (hc c h).2.1⟩) fun c h => (hc c h).2.2
theorem Snd.cell {x : Ar} (h : Snd x) {c : Ce} (hc : c ∈ x.cells) : SndC c := by
  cases h with
  | mk hs hn hb => exact ⟨(hn c hc).1, (hn c hc).2, hb c hc⟩
theorem Snd.axis {x : Ar} (h : Snd x) {z : Int} (hz : z ∈ x.shape) : I64 z := by
  cases h with
  | mk hs hn hb => exact hs z hz
/-- The cell at a place, the array at a place of a box. -/
def cAt (l : List Ce) (i : Nat) : Ce := l[i]?.getD (0, 0, [])
def bAt (l : List Ar) (i : Nat) : Ar := l[i]?.getD (.mk [] [])
/-- A cell's value: its three cells of memory; a box's arrays lie in a row, two cells of memory each. -/
def CeIn (P : Ar → Value → Prop) (lo : Nat) (w : World) (c : Ce) (v0 v1 v2 : Value) : Prop :=
  v0 = .int .i64 c.1 ∧ v1 = .int .i64 c.2.1 ∧ ∃ a cap, v2 = .slice a c.2.2.length cap ∧ c.2.2.length ≤ 5864062014805 ∧ (c.2.2 = [] ∨ ∃ b off, a = some ⟨b, off, none⟩ ∧ lo ≤ b ∧ b < w.heap.size ∧
    ∀ j, j < c.2.2.length → ∃ u0 u1, w.cell? ⟨b, off + j * 2, none⟩ = some u0 ∧ w.cell? ⟨b, off + j * 2 + 1, none⟩ = some u1 ∧ P (bAt c.2.2 j) (.agg #[u0, u1]))
/-- An array's value, no deeper than n boxes; all its memory in blocks from lo on. -/
def ArIn : Nat → Nat → World → Ar → Value → Prop
  | 0, _, _, _, _ => False
  | n + 1, lo, w, x, v => ∃ a1 c1 a2 c2, v = .agg #[.slice a1 x.shape.length c1, .slice a2 x.cells.length c2] ∧ Row lo w a1 x.shape ∧ x.cells.length ≤ 5864062014805 ∧ (x.cells = [] ∨ ∃ b off, a2 = some ⟨b, off, none⟩ ∧ lo ≤ b ∧ b < w.heap.size ∧
      ∀ i, i < x.cells.length → ∃ v0 v1 v2, w.cell? ⟨b, off + i * 3, none⟩ = some v0 ∧ w.cell? ⟨b, off + i * 3 + 1, none⟩ = some v1 ∧ w.cell? ⟨b, off + i * 3 + 2, none⟩ = some v2 ∧ CeIn (ArIn n lo w) lo w (cAt x.cells i) v0 v1 v2)
theorem CeIn.mono {P Q : Ar → Value → Prop} {lo lo' : Nat} {w w' : World} {c : Ce} {v0 v1 v2 : Value} (h : CeIn P lo w c v0 v1 v2) (hl : lo' ≤ lo) (hb : Below w.heap.size w w') (hPQ : ∀ x v, P x v → Q x v) : CeIn Q lo' w' c v0 v1 v2 := by
  obtain ⟨h0, h1, a, cap, h2, h3, h4⟩ := h
  refine ⟨h0, h1, a, cap, h2, h3, ?_⟩
  rcases h4 with h4 | ⟨b, off, ha, hlo, hbb, hc⟩
  · exact Or.inl h4
  · refine Or.inr ⟨b, off, ha, Nat.le_trans hl hlo, Nat.lt_of_lt_of_le hbb hb.size, fun j hj => ?_⟩
    obtain ⟨u0, u1, e0, e1, e2⟩ := hc j hj
    exact ⟨u0, u1, (hb.cell (p := ⟨b, off + j * 2, none⟩) hbb).trans e0, (hb.cell (p := ⟨b, off + j * 2 + 1, none⟩) hbb).trans e1, hPQ _ _ e2⟩
theorem ArIn.mono {n lo lo' : Nat} {w w' : World} {x : Ar} {v : Value} (h : ArIn n lo w x v) (hl : lo' ≤ lo) (hb : Below w.heap.size w w') : ArIn n lo' w' x v := by
  induction n generalizing x v with
  | zero => exact h.elim
  | succ n ih =>
    obtain ⟨a1, c1, a2, c2, hv, hR, hlen, hc⟩ := h
    refine ⟨a1, c1, a2, c2, hv, (hR.next hb).low hl, hlen, ?_⟩
    rcases hc with hc | ⟨b, off, ha, hlo, hbb, hc⟩
    · exact Or.inl hc
    · refine Or.inr ⟨b, off, ha, Nat.le_trans hl hlo, Nat.lt_of_lt_of_le hbb hb.size, fun i hi => ?_⟩
      obtain ⟨v0, v1, v2, e0, e1, e2, e3⟩ := hc i hi
      exact ⟨v0, v1, v2, (hb.cell (p := ⟨b, off + i * 3, none⟩) hbb).trans e0, (hb.cell (p := ⟨b, off + i * 3 + 1, none⟩) hbb).trans e1, (hb.cell (p := ⟨b, off + i * 3 + 2, none⟩) hbb).trans e2, e3.mono hl hb fun x v h => ih h⟩
theorem ArIn.next {n lo : Nat} {w w' : World} {x : Ar} {v : Value} (h : ArIn n lo w x v) (hb : Below w.heap.size w w') : ArIn n lo w' x v := h.mono (Nat.le_refl _) hb
theorem CeIn.deeper {P Q : Ar → Value → Prop} {lo : Nat} {w : World} {c : Ce} {v0 v1 v2 : Value} (h : CeIn P lo w c v0 v1 v2) (hPQ : ∀ x v, P x v → Q x v) : CeIn Q lo w c v0 v1 v2 := h.mono (Nat.le_refl _) (Below.refl _ _) hPQ
theorem ArIn.deeper {n lo : Nat} {w : World} {x : Ar} {v : Value} (h : ArIn n lo w x v) : ArIn (n + 1) lo w x v := by
  induction n generalizing x v with
  | zero => exact h.elim
  | succ n ih =>
    obtain ⟨a1, c1, a2, c2, hv, hR, hlen, hc⟩ := h
    refine ⟨a1, c1, a2, c2, hv, hR, hlen, ?_⟩
    rcases hc with hc | ⟨b, off, ha, hlo, hbb, hc⟩
    · exact Or.inl hc
    · refine Or.inr ⟨b, off, ha, hlo, hbb, fun i hi => ?_⟩
      obtain ⟨v0, v1, v2, e0, e1, e2, e3⟩ := hc i hi
      exact ⟨v0, v1, v2, e0, e1, e2, e3.deeper fun x v h => ih h⟩
theorem ArIn.deep {n m lo : Nat} {w : World} {x : Ar} {v : Value} (h : ArIn n lo w x v) (hm : n ≤ m) : ArIn m lo w x v := by
  induction hm with
  | refl => exact h
  | step _ ih => exact ih.deeper
/-- How two numbers stand to one another. -/
def cmp3 (a b : Int) : Int := if a < b then -1 else if b < a then 1 else 0
/-- The first that is not 0 among the first m. -/
def firstUp (f : Nat → Int) : Nat → Int
  | 0 => 0
  | m + 1 => if firstUp f m = 0 then f m else firstUp f m
theorem firstUp_stays {f : Nat → Int} {j : Nat} (h : firstUp f j ≠ 0) (m : Nat) (hm : j ≤ m) : firstUp f m = firstUp f j := by
  induction hm with
  | refl => rfl
  | step _ ih => simp only [firstUp]; rw [ih, if_neg h]
theorem firstUp_hit {f : Nat → Int} {j : Nat} (h0 : firstUp f j = 0) (h : f j ≠ 0) (m : Nat) (hm : j < m) : firstUp f m = f j := by
  have e : firstUp f (j + 1) = f j := by simp [firstUp, h0]
  rw [← e]
  exact firstUp_stays (by rw [e]; exact h) m hm
theorem firstUp_step {f : Nat → Int} {j : Nat} (h0 : firstUp f j = 0) : firstUp f (j + 1) = f j := by simp [firstUp, h0]
/-- How two cells stand to one another, given how two arrays do. -/
def cmpC (f : Ar → Ar → Int) (c d : Ce) : Int :=
  if cmp3 c.1 d.1 ≠ 0 then cmp3 c.1 d.1 else if cmp3 c.2.1 d.2.1 ≠ 0 then cmp3 c.2.1 d.2.1
  else if 0 < c.2.2.length ∧ 0 < d.2.2.length then f (bAt c.2.2 0) (bAt d.2.2 0) else cmp3 c.2.2.length d.2.2.length
def axF (x y : Ar) (i : Nat) : Int := cmp3 (x.shape[i]?.getD 0) (y.shape[i]?.getD 0)
def ceF (f : Ar → Ar → Int) (x y : Ar) (i : Nat) : Int := cmpC f (cAt x.cells i) (cAt y.cells i)
/-- How two arrays stand to one another, no deeper than n boxes. -/
def cmpA : Nat → Ar → Ar → Int
  | 0, _, _ => 0
  | n + 1, x, y =>
    if cmp3 x.shape.length y.shape.length ≠ 0 then cmp3 x.shape.length y.shape.length
    else if firstUp (axF x y) x.shape.length ≠ 0 then firstUp (axF x y) x.shape.length
    else if firstUp (ceF (cmpA n) x y) (min x.cells.length y.cells.length) ≠ 0 then firstUp (ceF (cmpA n) x y) (min x.cells.length y.cells.length)
    else cmp3 x.cells.length y.cells.length
end Go.Proofs.YtlfacpclihmnnaaDoor
namespace Go.Proofs.YtlfacpclihmnnaaDoor
open Go.ChangeShapes Go.WideShapes Go.ChangeAt Go.RowKit
set_option linter.unusedVariables false
theorem info33 : (Tryd.prog.info? 43).map (fun i => (i.zero, i.size, i.bytes)) = some (some (.agg #[.int .i64 0, .int .i64 0, .slice none 0 0]), 3, 40) := by kernel_rfl
theorem make_cells (n : Nat) (h : n ≤ 5864062014805) (w : World) : (Instr.makeSlice 23 (.int .i64 (n : Int)) (.int .i64 (n : Int))).run Tryd.prog w = .ok (.slice (some ⟨w.heap.size, 0, none⟩) n n) (w.alloc (.cells (madeCells #[.int .i64 0, .int .i64 0, .slice none 0 0] (n * 3)) 43)) := by
  obtain ⟨i, hi, hzz⟩ := Option.map_eq_some_iff.1 info33
  simp only [Prod.mk.injEq] at hzz
  obtain ⟨hz, hs, hb⟩ := hzz
  have hr := run_make (P := Tryd.prog) w 23 43 i _ Tryd.underlying23 hi hz .i64 .i64 n n (by omega) (Int.le_refl _) (by rw [hb]; omega) (by omega)
  simp only [Int.toNat_natCast, hs] at hr
  exact hr
/-- What a row of new cells holds. -/
def zero3 (m : Nat) : Value := if m % 3 = 0 then .int .i64 0 else if m % 3 = 1 then .int .i64 0 else .slice none 0 0
theorem rowIs_made3 (w : World) (n : Nat) : (w.alloc (.cells (madeCells #[.int .i64 0, .int .i64 0, .slice none 0 0] n) 43)).rowIs w.heap.size 43 n zero3 := by
  refine ⟨madeCells #[.int .i64 0, .int .i64 0, .slice none 0 0] n, ?_, size_madeCells _ _, fun i hi => ?_⟩
  · show (w.heap.push _)[w.heap.size]? = _
    simp
  · simp only [madeCells, Array.getElem?_map, zero3]
    rw [Array.getElem?_range, if_pos hi]
    simp only [Option.map_some]
    have h3 : i % 3 < 3 := Nat.mod_lt _ (by omega)
    rcases (show i % 3 = 0 ∨ i % 3 = 1 ∨ i % 3 = 2 by omega) with h | h | h <;> simp [h]
/-- A row of cells of memory, as an array's cells. -/
def CellsIn (n lo : Nat) (w : World) (cs : List Ce) (a2 : Option Addr) : Prop :=
  cs = [] ∨ ∃ b off, a2 = some ⟨b, off, none⟩ ∧ lo ≤ b ∧ b < w.heap.size ∧
    ∀ i, i < cs.length → ∃ v0 v1 v2, w.cell? ⟨b, off + i * 3, none⟩ = some v0 ∧ w.cell? ⟨b, off + i * 3 + 1, none⟩ = some v1 ∧ w.cell? ⟨b, off + i * 3 + 2, none⟩ = some v2 ∧ CeIn (ArIn n lo w) lo w (cAt cs i) v0 v1 v2
theorem arIn_mk {n lo : Nat} {w : World} {x : Ar} {a1 a2 : Option Addr} {c1 c2 k1 k2 : Nat} (R : Row lo w a1 x.shape) (hl : x.cells.length ≤ 5864062014805) (hc : CellsIn n lo w x.cells a2) (e1 : x.shape.length = k1) (e2 : x.cells.length = k2) : ArIn (n + 1) lo w x (.agg #[.slice a1 k1 c1, .slice a2 k2 c2]) := by
  subst e1
  subst e2
  exact ⟨a1, c1, a2, c2, rfl, R, hl, hc⟩
def numCs (k : Int) (l : List Int) : List Ce := l.map fun z => (k, z, [])
theorem numCs_len (k : Int) (l : List Int) : (numCs k l).length = l.length := by simp [numCs]
theorem numCs_at (k : Int) (l : List Int) (i : Nat) (hi : i < l.length) : cAt (numCs k l) i = (k, l[i]?.getD 0, []) := by simp [cAt, numCs, hi]
/-- What the row of numbers as cells holds, up to number j. -/
def numF (k : Int) (l : List Int) (j m : Nat) : Value := if m < j * 3 then (if m % 3 = 0 then .int .i64 k else if m % 3 = 1 then .int .i64 (l[m / 3]?.getD 0) else .slice none 0 0) else zero3 m
/-- A call that hands back an array in memory of its own. -/
def GivesA (n : Nat) (x : Ar) (w : World) (e : Ending) (w' : World) : Prop := (∃ v, e = .returned v ∧ ArIn n w.heap.size w' x v) ∧ Below w.heap.size w w'
def numsA (l : List Int) : Ar := .mk [(l.length : Int)] (numCs 0 l)
theorem row_one {lo : Nat} {w : World} {b : Nat} {z : Int} (hb : b < w.heap.size) (hlo : lo ≤ b) (h : w.cell? ⟨b, 0, none⟩ = some (.int .i64 z)) : Row lo w (some ⟨b, 0, none⟩) [z] := by
  refine ⟨by simp, Or.inr ⟨b, 0, rfl, hlo, hb, ?_⟩⟩
  intro i hi
  have : i = 0 := by simpa using hi
  subst this
  simpa using h
theorem CeIn.low {P Q : Ar → Value → Prop} {lo lo' : Nat} {w : World} {c : Ce} {v0 v1 v2 : Value} (h : CeIn P lo w c v0 v1 v2) (hl : lo' ≤ lo) (hPQ : ∀ x v, P x v → Q x v) : CeIn Q lo' w c v0 v1 v2 := h.mono hl (Below.refl _ _) hPQ
theorem CellsIn.mono {n lo lo' : Nat} {w w' : World} {cs : List Ce} {a2 : Option Addr} (h : CellsIn n lo w cs a2) (hl : lo' ≤ lo) (hb : Below w.heap.size w w') : CellsIn n lo' w' cs a2 := by
  rcases h with hc | ⟨b, off, ha, hlo, hbb, hc⟩
  · exact Or.inl hc
  · refine Or.inr ⟨b, off, ha, Nat.le_trans hl hlo, Nat.lt_of_lt_of_le hbb hb.size, fun i hi => ?_⟩
    obtain ⟨v0, v1, v2, e0, e1, e2, e3⟩ := hc i hi
    exact ⟨v0, v1, v2, (hb.cell (p := ⟨b, off + i * 3, none⟩) hbb).trans e0, (hb.cell (p := ⟨b, off + i * 3 + 1, none⟩) hbb).trans e1, (hb.cell (p := ⟨b, off + i * 3 + 2, none⟩) hbb).trans e2, e3.mono hl hb fun x v h => h.mono hl hb⟩
/-- From block lo on all is as it was. -/
def Keeps (lo : Nat) (w w' : World) : Prop := w.heap.size ≤ w'.heap.size ∧ ∀ b, lo ≤ b → b < w.heap.size → w'.heap[b]? = w.heap[b]?
theorem Keeps.refl (lo : Nat) (w : World) : Keeps lo w w := ⟨Nat.le_refl _, fun _ _ _ => rfl⟩
theorem Keeps.setCell {lo : Nat} {w w' : World} (h : Keeps lo w w') {p : Addr} (hp : p.block < lo) (v : Value) : Keeps lo w (w'.setCell p v) := by
  refine ⟨?_, fun b h1 h2 => ?_⟩
  · have : (w'.setCell p v).heap.size = w'.heap.size := by simp
    rw [this]; exact h.1
  · rw [Below.heap_setCell w' p v b (by omega)]
    exact h.2 b h1 h2
theorem Keeps.cell {lo : Nat} {w w' : World} (h : Keeps lo w w') {p : Addr} (h1 : lo ≤ p.block) (h2 : p.block < w.heap.size) : w'.cell? p = w.cell? p := World.cell?_of_block (w := w) (h.2 p.block h1 h2)
theorem Row.keeps {lo : Nat} {w w' : World} {a : Option Addr} {zs : List Int} (h : Row lo w a zs) (hk : Keeps lo w w') : Row lo w' a zs := by
  obtain ⟨h2, h3⟩ := h
  refine ⟨h2, ?_⟩
  rcases h3 with h3 | ⟨b, off, ha, hlo, hbb, hc⟩
  · exact Or.inl h3
  · exact Or.inr ⟨b, off, ha, hlo, Nat.lt_of_lt_of_le hbb hk.1, fun i hi => (hk.cell (p := ⟨b, off + i, none⟩) hlo hbb).trans (hc i hi)⟩
theorem CeIn.keeps {P Q : Ar → Value → Prop} {lo : Nat} {w w' : World} {c : Ce} {v0 v1 v2 : Value} (h : CeIn P lo w c v0 v1 v2) (hk : Keeps lo w w') (hPQ : ∀ x v, P x v → Q x v) : CeIn Q lo w' c v0 v1 v2 := by
  obtain ⟨h0, h1, a, cap, h2, h3, h4⟩ := h
  refine ⟨h0, h1, a, cap, h2, h3, ?_⟩
  rcases h4 with h4 | ⟨b, off, ha, hlo, hbb, hc⟩
  · exact Or.inl h4
  · refine Or.inr ⟨b, off, ha, hlo, Nat.lt_of_lt_of_le hbb hk.1, fun j hj => ?_⟩
    obtain ⟨u0, u1, e0, e1, e2⟩ := hc j hj
    exact ⟨u0, u1, (hk.cell (p := ⟨b, off + j * 2, none⟩) hlo hbb).trans e0, (hk.cell (p := ⟨b, off + j * 2 + 1, none⟩) hlo hbb).trans e1, hPQ _ _ e2⟩
theorem ArIn.keeps {n lo : Nat} {w w' : World} {x : Ar} {v : Value} (h : ArIn n lo w x v) (hk : Keeps lo w w') : ArIn n lo w' x v := by
  induction n generalizing x v with
  | zero => exact h.elim
  | succ n ih =>
    obtain ⟨a1, c1, a2, c2, hv, hR, hlen, hc⟩ := h
    refine ⟨a1, c1, a2, c2, hv, hR.keeps hk, hlen, ?_⟩
    rcases hc with hc | ⟨b, off, ha, hlo, hbb, hc⟩
    · exact Or.inl hc
    · refine Or.inr ⟨b, off, ha, hlo, Nat.lt_of_lt_of_le hbb hk.1, fun i hi => ?_⟩
      obtain ⟨v0, v1, v2, e0, e1, e2, e3⟩ := hc i hi
      exact ⟨v0, v1, v2, (hk.cell (p := ⟨b, off + i * 3, none⟩) hlo hbb).trans e0, (hk.cell (p := ⟨b, off + i * 3 + 1, none⟩) hlo hbb).trans e1, (hk.cell (p := ⟨b, off + i * 3 + 2, none⟩) hlo hbb).trans e2, e3.keeps hk fun x v h => ih h⟩
theorem CellsIn.keeps {n lo : Nat} {w w' : World} {cs : List Ce} {a2 : Option Addr} (h : CellsIn n lo w cs a2) (hk : Keeps lo w w') : CellsIn n lo w' cs a2 := by
  rcases h with hc | ⟨b, off, ha, hlo, hbb, hc⟩
  · exact Or.inl hc
  · refine Or.inr ⟨b, off, ha, hlo, Nat.lt_of_lt_of_le hbb hk.1, fun i hi => ?_⟩
    obtain ⟨v0, v1, v2, e0, e1, e2, e3⟩ := hc i hi
    exact ⟨v0, v1, v2, (hk.cell (p := ⟨b, off + i * 3, none⟩) hlo hbb).trans e0, (hk.cell (p := ⟨b, off + i * 3 + 1, none⟩) hlo hbb).trans e1, (hk.cell (p := ⟨b, off + i * 3 + 2, none⟩) hlo hbb).trans e2, e3.keeps hk fun x v h => h.keeps hk⟩
theorem frozen_new (w : World) (cs : Array Value) (t : TypeId) (i : Nat) : (w.alloc (.cells cs t)).frozen? ⟨w.heap.size, i, none⟩ = false := by
  have : (w.alloc (.cells cs t)).heap[w.heap.size]? = some (.cells cs t) := by
    show (w.heap.push _)[w.heap.size]? = _
    simp
  unfold World.frozen?
  simp only [this]
  simp
/-- Two cells of memory, stored into: they hold what was stored. -/
theorem set_two {w : World} {s : Nat} {u v : Value} (h0 : w.cell? ⟨s, 0, none⟩ = some u) (h1 : w.cell? ⟨s, 1, none⟩ = some v) (x y : Value) : (w.setCell ⟨s, 0, none⟩ x).cell? ⟨s, 0, none⟩ = some x ∧ ((w.setCell ⟨s, 0, none⟩ x).setCell ⟨s, 1, none⟩ y).cell? ⟨s, 1, none⟩ = some y := by
  refine ⟨World.cell?_setCell_same' _ _ _ (by rw [h0]; rfl), World.cell?_setCell_same' _ _ _ ?_⟩
  rw [World.cell?_setCell_other _ _ _ _ (by simp), h1]
  rfl
end Go.Proofs.YtlfacpclihmnnaaDoor
namespace Go.Proofs.YtlfacpclihmnnaaDoor
open Go.ChangeShapes Go.WideShapes Go.ChangeAt Go.RowKit
set_option linter.unusedVariables false
/-- A new block that may be written. -/
def softO : Obj → Prop
  | .cells _ _ f => f = (0, 0)
  | _ => True
def Fz (w w' : World) : Prop := w.heap.size ≤ w'.heap.size ∧ (∀ p : Addr, p.block < w.heap.size → w'.frozen? p = w.frozen? p) ∧ ∀ p : Addr, w.heap.size ≤ p.block → w'.frozen? p = false
theorem frozen_end {w : World} {p : Addr} (h : w.heap.size ≤ p.block) : w.frozen? p = false := by
  unfold World.frozen?
  rw [Array.getElem?_eq_none h]
theorem Fz.refl (w : World) : Fz w w := ⟨Nat.le_refl _, fun _ _ => rfl, fun _ h => frozen_end h⟩
theorem Fz.trans {a b c : World} (h : Fz a b) (k : Fz b c) : Fz a c := by
  refine ⟨Nat.le_trans h.1 k.1, fun p hp => (k.2.1 p (Nat.lt_of_lt_of_le hp h.1)).trans (h.2.1 p hp), fun p hp => ?_⟩
  by_cases hb : p.block < b.heap.size
  · exact (k.2.1 p hb).trans (h.2.2 p hp)
  · exact k.2.2 p (by omega)
theorem Fz.setCell (w : World) (q : Addr) (v : Value) : Fz w (w.setCell q v) := ⟨by simp, fun p _ => by simp, fun p hp => by simpa using frozen_end hp⟩
theorem Fz.alloc (w : World) (o : Obj) (ho : softO o) : Fz w (w.alloc o) := by
  refine ⟨by simp, fun p hp => World.frozen?_of_block (w := w) (Below.heap_alloc w o _ hp), fun p hp => ?_⟩
  unfold World.frozen?
  have e : (w.alloc o).heap[p.block]? = if p.block = w.heap.size then some o else w.heap[p.block]? := by
    show (w.heap.push o)[p.block]? = _
    rw [Array.getElem?_push]
  rw [e]
  by_cases h : p.block = w.heap.size
  · rw [if_pos h]
    cases o with
    | cells c t f => have : f = (0, 0) := ho; subst this; simp
    | _ => rfl
  · rw [if_neg h, Array.getElem?_eq_none hp]
structure BelowS (B : Nat) (w w' : World) : Prop where
  b : Below B w w'
  z : Fz w w'
instance {B : Nat} {w w' : World} : Coe (BelowS B w w') (Below B w w') := ⟨BelowS.b⟩
namespace BelowS
variable {B B' : Nat} {a b c w w' : World}
theorem refl (B : Nat) (w : World) : BelowS B w w := ⟨Below.refl _ _, Fz.refl _⟩
theorem trans (h : BelowS B a b) (k : BelowS B b c) : BelowS B a c := ⟨h.b.trans k.b, h.z.trans k.z⟩
theorem mono (h : BelowS B w w') (hB : B' ≤ B) : BelowS B' w w' := ⟨h.b.mono hB, h.z⟩
theorem drew (h : BelowS B a w) : BelowS B a w.drew := ⟨h.b.drew, h.z⟩
theorem heap_setCell (w : World) (a : Addr) (u : Value) (k : Nat) (h : k ≠ a.block) : (w.setCell a u).heap[k]? = w.heap[k]? := Below.heap_setCell w a u k h
theorem alloc (h : BelowS B a w) (hB : B ≤ w.heap.size) (o : Obj) (ho : softO o := by exact rfl) : BelowS B a (w.alloc o) := ⟨h.b.alloc hB o, h.z.trans (Fz.alloc w o ho)⟩
theorem setCell (h : BelowS B a w) {p : Addr} (hp : B ≤ p.block) (u : Value) : BelowS B a (w.setCell p u) := ⟨h.b.setCell hp u, h.z.trans (Fz.setCell w p u)⟩
theorem size (h : BelowS B w w') : w.heap.size ≤ w'.heap.size := h.b.size
theorem block (h : BelowS B w w') : ∀ k, k < B → w'.heap[k]? = w.heap[k]? := h.b.block
theorem cell (h : BelowS B w w') {p : Addr} (hp : p.block < B) : w'.cell? p = w.cell? p := h.b.cell hp
theorem frozen (h : BelowS B w w') {p : Addr} (hp : p.block < B) : w'.frozen? p = w.frozen? p := h.b.frozen hp
end BelowS
theorem two_allocsS (w : World) (o1 o2 : Obj) (h1 : softO o1 := by exact rfl) (h2 : softO o2 := by exact rfl) : BelowS w.heap.size w ((w.alloc o1).alloc o2) := ((BelowS.refl _ _).alloc (Nat.le_refl _) _ h1).alloc (by simp) _ h2
theorem one_allocS (w : World) (o : Obj) (h1 : softO o := by exact rfl) : BelowS w.heap.size w (w.alloc o) := (BelowS.refl _ _).alloc (Nat.le_refl _) _ h1
/-- The same array, in memory of the call's own that may be written. -/
def GivesS (n : Nat) (x : Ar) (w : World) (e : Ending) (w' : World) : Prop := (∃ v, e = .returned v ∧ ArIn n w.heap.size w' x v) ∧ BelowS w.heap.size w w'
end Go.Proofs.YtlfacpclihmnnaaDoor
namespace Go.Proofs.YtlfacpclihmnnaaDoor
open Go.ChangeShapes Go.WideShapes Go.ChangeAt Go.RowKit
set_option linter.unusedVariables false
/-- From W0 to wr: nothing below block s0 has turned, none of the blocks that were there from s1 on; between them numbers alone. -/
structure Sf (s0 s1 : Nat) (W0 wr : World) : Prop where
  below : Below s0 W0 wr
  keeps : Keeps s1 W0 wr
  frz : ∀ p : Addr, p.block < W0.heap.size → wr.frozen? p = W0.frozen? p
  same : ∀ (p : Addr) (v : Value), W0.cell? p = some v → wr.cell? p = some v ∨ ∃ z z', v = .int .i64 z ∧ wr.cell? p = some (.int .i64 z')
theorem cell_in {w : World} {p : Addr} {v : Value} (h : w.cell? p = some v) : p.block < w.heap.size := by
  refine Decidable.byContradiction fun hb => ?_
  have : w.heap[p.block]? = none := Array.getElem?_eq_none (by omega)
  simp [World.cell?, this] at h
namespace Sf
variable {s0 s1 : Nat} {W0 wr : World}
theorem refl (s0 s1 : Nat) (W0 : World) : Sf s0 s1 W0 W0 := ⟨Below.refl _ _, Keeps.refl _ _, fun _ _ => rfl, fun _ _ h => Or.inl h⟩
theorem slice (h : Sf s0 s1 W0 wr) {p : Addr} {a : Option Addr} {n c : Nat} (hp : W0.cell? p = some (.slice a n c)) : wr.cell? p = some (.slice a n c) := by
  rcases h.same p _ hp with h | ⟨z, z', e, _⟩
  · exact h
  · cases e
theorem int (h : Sf s0 s1 W0 wr) {p : Addr} {z : Int} (hp : W0.cell? p = some (.int .i64 z)) : ∃ z', wr.cell? p = some (.int .i64 z') := by
  rcases h.same p _ hp with h | ⟨_, z', _, h⟩
  · exact ⟨_, h⟩
  · exact ⟨_, h⟩
theorem store (h : Sf s0 s1 W0 wr) {p : Addr} {z : Int} (hp : W0.cell? p = some (.int .i64 z)) (h0 : s0 ≤ p.block) (h1 : p.block < s1) (z' : Int) : Sf s0 s1 W0 (wr.setCell p (.int .i64 z')) := by
  refine ⟨h.below.setCell h0 _, h.keeps.setCell h1 _, fun q hq => by simpa using h.frz q hq, fun q v hq => ?_⟩
  by_cases e : p = q
  · subst e
    right
    rw [hp] at hq
    cases hq
    obtain ⟨z2, hz2⟩ := h.int hp
    exact ⟨z, z', rfl, World.cell?_setCell_same' _ _ _ (by rw [hz2]; rfl)⟩
  · rw [World.cell?_setCell_other _ _ _ _ e]
    exact h.same q v hq
theorem alloc (h : Sf s0 s1 W0 wr) (hs : s0 ≤ W0.heap.size) (o : Obj) : Sf s0 s1 W0 (wr.alloc o) := by
  have hz := h.below.size
  refine ⟨h.below.alloc (Nat.le_trans hs hz) o, ⟨Nat.le_trans h.keeps.1 (by simp), fun b h1 h2 => ?_⟩, fun p hp => ?_, fun p v hp => ?_⟩
  · rw [Below.heap_alloc _ _ _ (Nat.lt_of_lt_of_le h2 hz)]
    exact h.keeps.2 b h1 h2
  · rw [World.frozen?_of_block (w := wr) (Below.heap_alloc _ _ _ (Nat.lt_of_lt_of_le hp hz))]
    exact h.frz p hp
  · rw [World.cell?_of_block (w := wr) (Below.heap_alloc _ _ _ (Nat.lt_of_lt_of_le (cell_in hp) hz))]
    exact h.same p v hp
theorem drew (h : Sf s0 s1 W0 wr) : Sf s0 s1 W0 wr.drew := ⟨h.below.drew, h.keeps, h.frz, h.same⟩
end Sf
/-- At this place lies a number that may be written. -/
def IntAt (R : World → Prop) (b o : Nat) : Prop := ∀ wr, R wr → (∃ z, wr.cell? ⟨b, o, none⟩ = some (.int .i64 z)) ∧ wr.frozen? ⟨b, o, none⟩ = false ∧ ∀ z, R (wr.setCell ⟨b, o, none⟩ (.int .i64 z))
theorem intAt_of {s0 s1 : Nat} {W0 : World} {b o : Nat} {z : Int} (hc : W0.cell? ⟨b, o, none⟩ = some (.int .i64 z)) (h0 : s0 ≤ b) (h1 : b < s1) (hf : W0.frozen? ⟨b, o, none⟩ = false) : IntAt (Sf s0 s1 W0) b o := fun wr h =>
  ⟨h.int hc, (h.frz ⟨b, o, none⟩ (cell_in hc)).trans hf, fun z' => h.store hc h0 h1 z'⟩
/-- What of a copied array is written: its axes, its cells' numbers, the numbers of the cells of the arrays in its boxes. -/
theorem copied {n s0 : Nat} {w1 W0 : World} {x : Ar} {p1 p2 : Option Addr} {SA CA k1 k2 : Nat} (hA : ArIn (n + 1) s0 w1 x (.agg #[.slice p1 SA k1, .slice p2 CA k2])) (hW : Below w1.heap.size w1 W0) (hf : ∀ p : Addr, s0 ≤ p.block → w1.frozen? p = false) :
    (∀ i, i < SA → ∃ b off, p1 = some ⟨b, off, none⟩ ∧ IntAt (Sf s0 w1.heap.size W0) b (off + i)) ∧
    ∀ i, i < CA → ∃ b off ab nb cb, p2 = some ⟨b, off, none⟩ ∧ IntAt (Sf s0 w1.heap.size W0) b (off + i * 3 + 1) ∧ nb ≤ 5864062014805 ∧ (∀ wr, Sf s0 w1.heap.size W0 wr → wr.cell? ⟨b, off + i * 3 + 2, none⟩ = some (.slice ab nb cb)) ∧
      ∀ k, k < nb → ∃ bb ob a1 l1 c1 a2 m c2, ab = some ⟨bb, ob, none⟩ ∧ m ≤ 5864062014805 ∧ (∀ wr, Sf s0 w1.heap.size W0 wr → wr.cell? ⟨bb, ob + k * 2, none⟩ = some (.slice a1 l1 c1) ∧ wr.cell? ⟨bb, ob + k * 2 + 1, none⟩ = some (.slice a2 m c2)) ∧
        ∀ j, j < m → ∃ b3 o3, a2 = some ⟨b3, o3, none⟩ ∧ b3 < w1.heap.size ∧ IntAt (Sf s0 w1.heap.size W0) b3 (o3 + j * 3 + 1) := by
  have go : ∀ {b o : Nat} {z : Int}, w1.cell? ⟨b, o, none⟩ = some (.int .i64 z) → s0 ≤ b → IntAt (Sf s0 w1.heap.size W0) b o := by
    intro b o z hc h0
    have hb : b < w1.heap.size := cell_in hc
    exact intAt_of ((hW.cell (p := ⟨b, o, none⟩) hb).trans hc) h0 hb ((hW.frozen (p := ⟨b, o, none⟩) hb).trans (hf ⟨b, o, none⟩ h0))
  have sl : ∀ {b o : Nat} {a : Option Addr} {l c : Nat}, w1.cell? ⟨b, o, none⟩ = some (.slice a l c) → ∀ wr, Sf s0 w1.heap.size W0 wr → wr.cell? ⟨b, o, none⟩ = some (.slice a l c) := by
    intro b o a l c hc wr h
    exact h.slice ((hW.cell (p := ⟨b, o, none⟩) (cell_in hc)).trans hc)
  obtain ⟨a1, c1, a2, c2, hv, R, hl, hc⟩ := hA
  simp only [Value.agg.injEq, Array.mk.injEq, List.cons.injEq, and_true, Value.slice.injEq] at hv
  obtain ⟨⟨rfl, rfl, rfl⟩, rfl, rfl, rfl⟩ := hv
  refine ⟨fun i hi => ?_, fun i hi => ?_⟩
  · rcases R.2 with h | ⟨b, off, rfl, hlo, hb, h⟩
    · rw [h] at hi; simp at hi
    · exact ⟨b, off, rfl, go (h i hi) hlo⟩
  · rcases hc with h | ⟨b, off, rfl, hlo, hb, h⟩
    · rw [h] at hi; simp at hi
    obtain ⟨v0, v1, v2, e0, e1, e2, rfl, rfl, ab, cb, rfl, hnl, hx⟩ := h i hi
    refine ⟨b, off, ab, _, cb, rfl, go e1 hlo, hnl, sl e2, fun k hk => ?_⟩
    rcases hx with hx | ⟨bb, ob, rfl, hlo', hbb, hx⟩
    · rw [hx] at hk; simp at hk
    obtain ⟨u0, u1, g0, g1, g2⟩ := hx k hk
    cases n with
    | zero => exact g2.elim
    | succ n =>
      obtain ⟨y1, d1, y2, d2, hv, R', hl', hc'⟩ := g2
      simp only [Value.agg.injEq, Array.mk.injEq, List.cons.injEq, and_true] at hv
      obtain ⟨rfl, rfl⟩ := hv
      refine ⟨bb, ob, y1, _, d1, y2, _, d2, rfl, hl', fun wr h => ⟨sl g0 wr h, sl g1 wr h⟩, fun j hj => ?_⟩
      rcases hc' with h' | ⟨b3, o3, rfl, hlo3, hb3, h'⟩
      · rw [h'] at hj; simp at hj
      obtain ⟨t0, t1, t2, f0, f1, f2, rfl, rfl, -⟩ := h' j hj
      exact ⟨b3, o3, rfl, hb3, go f1 hlo3⟩
end Go.Proofs.YtlfacpclihmnnaaDoor
namespace Go.Proofs.YtlfacpclihmnnaaDoor.Num
open Go.ChangeShapes Go.WideShapes Go.ChangeAt Go.RowKit
def fitB (x : Int) : Bool := decide (-9223372036854775808 ≤ x ∧ x ≤ 9223372036854775807)
def resV (x : Int) : Int := if fitB x then x else 0
def resE (x : Int) : Int := if fitB x then 0 else 9
def rnd (s : Int) : Int := if 9223372036854775807 < s then 1 else if s < -9223372036854775808 then -1 else 0
theorem rnd_up {s : Int} (h : 9223372036854775807 < s) : rnd s = 1 := by simp [rnd, h]
theorem rnd_dn {s : Int} (h : s < -9223372036854775808) : rnd s = -1 := by
  have : ¬ 9223372036854775807 < s := by omega
  simp [rnd, h, this]
theorem rnd_in {s : Int} (h1 : -9223372036854775808 ≤ s) (h2 : s ≤ 9223372036854775807) : rnd s = 0 := by
  have a : ¬ 9223372036854775807 < s := by omega
  have b : ¬ s < -9223372036854775808 := by omega
  simp [rnd, a, b]
theorem fit_in {x : Int} (h1 : -9223372036854775808 ≤ x) (h2 : x ≤ 9223372036854775807) : resV x = x ∧ resE x = 0 := by
  have : fitB x = true := by simp [fitB, h1, h2]
  simp [resV, resE, this]
theorem fit_out {x : Int} (h : x < -9223372036854775808 ∨ 9223372036854775807 < x) : resV x = 0 ∧ resE x = 9 := by
  have : fitB x = false := by simp only [fitB, decide_eq_false_iff_not]; omega
  simp [resV, resE, this]
def In64 (a : Int) : Prop := -9223372036854775808 ≤ a ∧ a ≤ 9223372036854775807
theorem ret2 {k l : IntKind} {a b c d : Int} (h : a = b) (h' : c = d) : Ending.returned (.tuple #[.int k a, .int l c]) = .returned (.tuple #[.int k b, .int l d]) := by rw [h, h']
theorem ret1 {k : IntKind} {a b : Int} (h : a = b) : Ending.returned (.int k a) = .returned (.int k b) := by rw [h]

theorem addRound_any (a b : Int) (ha : In64 a) (hb : In64 b) (w : World) :
    Calls Tryd.prog 79 #[.int .i64 a, .int .i64 b] w fun e w' => e = .returned (.tuple #[.int .i64 (wrap64 (a + b)), .int .i64 (rnd (a + b))]) ∧ w' = w := by
  obtain ⟨ha1, ha2⟩ := ha
  obtain ⟨hb1, hb2⟩ := hb
  by_cases hu : 9223372036854775807 < a + b
  · have e : wrap64 (a + b) = a + b - 18446744073709551616 := by unfold wrap64; omega
    have h1 : 0 < b := by omega
    rw [rnd_up hu]
    go_enter Tryd.func79, Tryd.ntmps79
    go_wp2
    go_ret2
    exact ⟨rfl, rfl⟩
  · by_cases hd : a + b < -9223372036854775808
    · have e : wrap64 (a + b) = a + b + 18446744073709551616 := by unfold wrap64; omega
      have h1 : b < 0 := by omega
      rw [rnd_dn hd]
      go_enter Tryd.func79, Tryd.ntmps79
      go_wp2
      go_ret2
      exact ⟨by simp, rfl⟩
    · have e : wrap64 (a + b) = a + b := IntWalk.wrap64_in _ ⟨by omega, by omega⟩
      rw [rnd_in (by omega) (by omega), e]
      by_cases hb0 : 0 < b
      · go_enter Tryd.func79, Tryd.ntmps79
        go_wp2
        go_ret2
        exact ⟨rfl, rfl⟩
      · by_cases hb1 : b < 0
        · go_enter Tryd.func79, Tryd.ntmps79
          go_wp2
          go_ret2
          exact ⟨rfl, rfl⟩
        · go_enter Tryd.func79, Tryd.ntmps79
          go_wp2
          go_ret2
          exact ⟨rfl, rfl⟩

theorem add_any (a b : Int) (ha : In64 a) (hb : In64 b) (w : World) :
    Calls Tryd.prog 101 #[.int .i64 a, .int .i64 b] w fun e w' => e = .returned (.tuple #[.int .i64 (resV (a + b)), .int .i64 (resE (a + b))]) ∧ w' = w := by
  have ha' := ha
  have hb' := hb
  obtain ⟨ha1, ha2⟩ := ha
  obtain ⟨hb1, hb2⟩ := hb
  by_cases hu : 9223372036854775807 < a + b
  · have f := fit_out (x := a + b) (Or.inr hu)
    have r := rnd_up hu
    rw [f.1, f.2]
    go_enter Tryd.func101, Tryd.ntmps101
    go_wp2_with (go_at_call 79; refine (addRound_any _ _ ha' hb' _).mono ?_; rintro e w' ⟨rfl, rfl⟩; rw [r])
    go_ret2
    exact ⟨rfl, rfl⟩
  · by_cases hd : a + b < -9223372036854775808
    · have f := fit_out (x := a + b) (Or.inl hd)
      have r := rnd_dn hd
      rw [f.1, f.2]
      go_enter Tryd.func101, Tryd.ntmps101
      go_wp2_with (go_at_call 79; refine (addRound_any _ _ ha' hb' _).mono ?_; rintro e w' ⟨rfl, rfl⟩; rw [r])
      go_ret2
      exact ⟨rfl, rfl⟩
    · have f := fit_in (x := a + b) (by omega) (by omega)
      have r := rnd_in (s := a + b) (by omega) (by omega)
      have e : wrap64 (a + b) = a + b := IntWalk.wrap64_in _ ⟨by omega, by omega⟩
      rw [f.1, f.2]
      go_enter Tryd.func101, Tryd.ntmps101
      go_wp2_with (go_at_call 79; refine (addRound_any _ _ ha' hb' _).mono ?_; rintro e w' ⟨rfl, rfl⟩; rw [r, e])
      go_ret2
      exact ⟨rfl, rfl⟩

theorem sub_any (a b : Int) (ha : In64 a) (hb : In64 b) (w : World) :
    Calls Tryd.prog 88 #[.int .i64 a, .int .i64 b] w fun e w' => e = .returned (.tuple #[.int .i64 (resV (a - b)), .int .i64 (resE (a - b))]) ∧ w' = w := by
  obtain ⟨ha1, ha2⟩ := ha
  obtain ⟨hb1, hb2⟩ := hb
  by_cases hu : 9223372036854775807 < a - b
  · have f := fit_out (x := a - b) (Or.inr hu)
    have e : wrap64 (a - b) = a - b - 18446744073709551616 := by unfold wrap64; omega
    have h1 : ¬ 0 < b := by omega
    have h2 : a - b - 18446744073709551616 < a := by omega
    rw [f.1, f.2]
    go_enter Tryd.func88, Tryd.ntmps88
    go_wp2
    go_ret2
    exact ⟨rfl, rfl⟩
  · by_cases hd : a - b < -9223372036854775808
    · have f := fit_out (x := a - b) (Or.inl hd)
      have e : wrap64 (a - b) = a - b + 18446744073709551616 := by unfold wrap64; omega
      have h1 : 0 < b := by omega
      have h2 : ¬ a - b + 18446744073709551616 < a := by omega
      rw [f.1, f.2]
      go_enter Tryd.func88, Tryd.ntmps88
      go_wp2
      go_ret2
      exact ⟨rfl, rfl⟩
    · have f := fit_in (x := a - b) (by omega) (by omega)
      have e : wrap64 (a - b) = a - b := IntWalk.wrap64_in _ ⟨by omega, by omega⟩
      rw [f.1, f.2]
      by_cases hb0 : 0 < b
      · have h2 : a - b < a := by omega
        go_enter Tryd.func88, Tryd.ntmps88
        go_wp2
        go_ret2
        exact ⟨rfl, rfl⟩
      · have h2 : ¬ a - b < a := by omega
        go_enter Tryd.func88, Tryd.ntmps88
        go_wp2
        go_ret2
        exact ⟨rfl, rfl⟩

def absI (a : Int) : Int := if a < 0 then -a else a
def sgnI (a : Int) : Int := if a < 0 then -1 else if 0 < a then 1 else 0
theorem sizeOf_any (a : Int) (ha : In64 a) (w : World) :
    Calls Tryd.prog 82 #[.int .i64 a] w fun e w' => e = .returned (.int .u64 (a.natAbs : Int)) ∧ w' = w := by
  obtain ⟨ha1, ha2⟩ := ha
  by_cases h : a < 0
  · have e : (a.natAbs : Int) = -a := by omega
    rw [e]
    go_enter Tryd.func82, Tryd.ntmps82
    go_wp2
    go_ret
    exact ⟨ret1 (by rw [IntKind.wrap_u64, IntKind.wrap_u64]; omega), rfl⟩
  · have e : (a.natAbs : Int) = a := by omega
    rw [e]
    go_enter Tryd.func82, Tryd.ntmps82
    go_wp2
    go_ret
    exact ⟨rfl, rfl⟩
def sgdI (m : Int) (below : Bool) : Int := if below then -m else m
theorem signed_any (m : Int) (b : Bool) (h0 : 0 ≤ m) (h1 : m < 18446744073709551616) (w : World) :
    Calls Tryd.prog 83 #[.int .u64 m, .bool b] w fun e w' => e = .returned (.tuple #[.int .i64 (resV (sgdI m b)), .int .i64 (resE (sgdI m b))]) ∧ w' = w := by
  cases b with
  | true =>
    have e : sgdI m true = -m := rfl
    rw [e]
    by_cases h : 9223372036854775808 < m
    · have f := fit_out (x := -m) (by omega)
      rw [f.1, f.2]
      go_enter Tryd.func83, Tryd.ntmps83
      go_wp2
      go_ret2
      exact ⟨rfl, rfl⟩
    · have f := fit_in (x := -m) (by omega) (by omega)
      rw [f.1, f.2]
      go_enter Tryd.func83, Tryd.ntmps83
      go_wp2
      go_ret2
      exact ⟨ret2 (by rw [IntKind.wrap_u64]; unfold wrap64; omega) rfl, rfl⟩
  | false =>
    have e : sgdI m false = m := rfl
    rw [e]
    by_cases h : 9223372036854775807 < m
    · have f := fit_out (x := m) (by omega)
      rw [f.1, f.2]
      go_enter Tryd.func83, Tryd.ntmps83
      go_wp2
      go_ret2
      exact ⟨rfl, rfl⟩
    · have f := fit_in (x := m) (by omega) (by omega)
      rw [f.1, f.2]
      go_enter Tryd.func83, Tryd.ntmps83
      go_wp2
      go_ret2
      exact ⟨rfl, rfl⟩

theorem maskN (a : Nat) (ha : a < 18446744073709551616) : bits .and .u64 (a : Int) 4294967295 = ((a % 4294967296 : Nat) : Int) := by
  have h := bits_and_u64_nat a 4294967295 ha (by omega)
  have e : a &&& 4294967295 = a % 4294967296 := Nat.and_two_pow_sub_one_eq_mod a 32
  rw [e] at h
  exact h
theorem divN (a : Nat) : (a : Int) / 4294967296 = ((a / 4294967296 : Nat) : Int) := by omega
theorem mulN (a b : Nat) : (a : Int) * (b : Int) = ((a * b : Nat) : Int) := (Int.natCast_mul a b).symm
theorem addN (a b : Nat) : (a : Int) + (b : Int) = ((a + b : Nat) : Int) := (Int.natCast_add a b).symm
theorem wrapN (a : Nat) (ha : a < 18446744073709551616) : IntKind.u64.wrap (a : Int) = (a : Int) := by rw [IntKind.wrap_u64]; omega
theorem wrapM (a : Nat) : IntKind.u64.wrap (a : Int) = ((a % 18446744073709551616 : Nat) : Int) := by rw [IntKind.wrap_u64]; omega
set_option maxHeartbeats 1000000 in
theorem mul64_any (x y : Nat) (hx : x < 18446744073709551616) (hy : y < 18446744073709551616) (w : World) :
    Calls Tryd.prog 81 #[.int .u64 x, .int .u64 y] w fun e w' => e = .returned (.tuple #[.int .u64 ((x * y / 18446744073709551616 : Nat) : Int), .int .u64 ((x * y % 18446744073709551616 : Nat) : Int)]) ∧ w' = w := by
  obtain ⟨bd, bt, bw, hhi⟩ := Lib.mul64_hi x y hx hy
  have ba := Lib.half_mul_le (a := x / 4294967296) (b := y / 4294967296) (by omega) (by omega)
  have bb := Lib.half_mul_le (a := x / 4294967296) (b := y % 4294967296) (by omega) (by omega)
  have bc := Lib.half_mul_le (a := x % 4294967296) (b := y / 4294967296) (by omega) (by omega)
  have ba' : x / 4294967296 * (y / 4294967296) < 18446744073709551616 := by omega
  have bb' : x / 4294967296 * (y % 4294967296) < 18446744073709551616 := by omega
  have bc' : x % 4294967296 * (y / 4294967296) < 18446744073709551616 := by omega
  have bh1 : x / 4294967296 * (y / 4294967296) + (x / 4294967296 * (y % 4294967296) + x % 4294967296 * (y % 4294967296) / 4294967296) / 4294967296 < 18446744073709551616 := by omega
  have bh : x / 4294967296 * (y / 4294967296) + (x / 4294967296 * (y % 4294967296) + x % 4294967296 * (y % 4294967296) / 4294967296) / 4294967296 + ((x / 4294967296 * (y % 4294967296) + x % 4294967296 * (y % 4294967296) / 4294967296) % 4294967296 + x % 4294967296 * (y / 4294967296)) / 4294967296 < 18446744073709551616 := by omega
  go_enter Tryd.func81, Tryd.ntmps81
  go_wp2
  simp only [maskN x hx, maskN y hy, divN, mulN, addN, wrapN _ bd, wrapN _ bb', wrapN _ bt, maskN _ bt, wrapN _ bc', wrapN _ bw, wrapN _ ba', wrapN _ bh1, wrapN _ bh, wrapM (x * y)]
  rw [hhi]
  go_ret2
  exact ⟨rfl, rfl⟩
end Go.Proofs.YtlfacpclihmnnaaDoor.Num
namespace Go.Proofs.YtlfacpclihmnnaaDoor.Num
open Go.ChangeShapes Go.WideShapes Go.ChangeAt Go.RowKit
theorem natAbs_lt {a : Int} (h : a < 0) : (a.natAbs : Int) = -a := by omega
theorem natAbs_ge {a : Int} (h : ¬ a < 0) : (a.natAbs : Int) = a := by omega
theorem sgd_mul (a b : Int) : sgdI ((a.natAbs : Int) * (b.natAbs : Int)) (!(decide (a < 0) == decide (b < 0))) = a * b := by
  unfold sgdI
  by_cases ha : a < 0 <;> by_cases hb : b < 0 <;> simp [ha, hb, natAbs_lt, natAbs_ge, Int.neg_mul, Int.mul_neg]
theorem fit_big {x : Int} (h : 18446744073709551616 ≤ x.natAbs) : resV x = 0 ∧ resE x = 9 := fit_out (by omega)
theorem mul_any (a b : Int) (ha : In64 a) (hb : In64 b) (w : World) :
    Calls Tryd.prog 102 #[.int .i64 a, .int .i64 b] w fun e w' => e = .returned (.tuple #[.int .i64 (resV (a * b)), .int .i64 (resE (a * b))]) ∧ w' = w := by
  have ha' : a.natAbs < 18446744073709551616 := by obtain ⟨h1, h2⟩ := ha; omega
  have hb' : b.natAbs < 18446744073709551616 := by obtain ⟨h1, h2⟩ := hb; omega
  by_cases h : a.natAbs * b.natAbs < 18446744073709551616
  · have e1 : a.natAbs * b.natAbs / 18446744073709551616 = 0 := Nat.div_eq_of_lt h
    have e2 : a.natAbs * b.natAbs % 18446744073709551616 = a.natAbs * b.natAbs := Nat.mod_eq_of_lt h
    have hs := sgd_mul a b
    go_enter Tryd.func102, Tryd.ntmps102
    go_wp2_with (first | (go_at_call 82; refine (sizeOf_any _ ‹_› _).mono ?_; rintro e w' ⟨rfl, rfl⟩) | (go_at_call 81; refine (mul64_any _ _ ha' hb' _).mono ?_; rintro e w' ⟨rfl, rfl⟩; rw [e1, e2]) | (go_at_call 83; refine (signed_any _ _ (by omega) (by omega) _).mono ?_; rintro e w' ⟨rfl, rfl⟩))
    go_ret2
    exact ⟨rfl, rfl⟩
  · have hab := Int.natAbs_mul a b
    have f := fit_big (x := a * b) (by omega)
    have e1 : ¬ ((a.natAbs * b.natAbs / 18446744073709551616 : Nat) : Int) = 0 := by omega
    have e2 : (((a.natAbs * b.natAbs / 18446744073709551616 : Nat) : Int) != 0) = true := by simpa using e1
    rw [f.1, f.2]
    clear hab f
    obtain ⟨hi, hhi⟩ : ∃ n : Nat, n = a.natAbs * b.natAbs / 18446744073709551616 := ⟨_, rfl⟩
    obtain ⟨lo, hlo⟩ : ∃ n : Nat, n = a.natAbs * b.natAbs % 18446744073709551616 := ⟨_, rfl⟩
    rw [← hhi] at e1 e2
    have HH : Hid (hi = a.natAbs * b.natAbs / 18446744073709551616) := hhi
    have HL : Hid (lo = a.natAbs * b.natAbs % 18446744073709551616) := hlo
    clear hhi hlo h
    go_enter Tryd.func102, Tryd.ntmps102
    go_wp2_with (first | (go_at_call 82; refine (sizeOf_any _ ‹_› _).mono ?_; rintro e w' ⟨rfl, rfl⟩) | (go_at_call 81; refine (mul64_any _ _ ha' hb' _).mono ?_; rintro e w' ⟨rfl, rfl⟩; rw [← HH.out, ← HL.out]))
    go_ret2
    exact ⟨rfl, rfl⟩

theorem mod_facts (a b : Int) (ha : a ≠ 0) : -(a.natAbs : Int) < b.tmod a ∧ b.tmod a < a.natAbs ∧
    b.fmod a = if b.tmod a ≠ 0 ∧ ¬ (b.tmod a < 0 ↔ a < 0) then b.tmod a + a else b.tmod a := by
  have e1 := Int.fmod_eq_emod (a := b) (b := a)
  have e2 := Int.tmod_eq_emod (a := b) (b := a)
  have hd : a ∣ b ↔ b % a = 0 := Int.dvd_iff_emod_eq_zero
  have m0 := Int.emod_nonneg b ha
  have m1 := Int.emod_lt b ha
  rw [e1, e2]
  generalize b % a = m at *
  simp only [hd]
  have m1' : m < (a.natAbs : Int) := m1
  refine ⟨?_, ?_, ?_⟩
  · split <;> omega
  · split <;> omega
  · repeat' split
    all_goals omega
theorem mod_in {a b : Int} (ha : In64 a) (h : a ≠ 0) : In64 (b.tmod a) := by
  have f := mod_facts a b h
  obtain ⟨h1, h2⟩ := ha
  constructor <;> omega
theorem res_any (a b : Int) (ha : In64 a) (w : World) :
    Calls Tryd.prog 89 #[.int .i64 a, .int .i64 b] w fun e w' => e = .returned (.int .i64 (b.fmod a)) ∧ w' = w := by
  by_cases h0 : a = 0
  · subst h0
    rw [Int.fmod_zero]
    go_enter Tryd.func89, Tryd.ntmps89
    go_wp2
    go_ret
    exact ⟨rfl, rfl⟩
  · have f := mod_facts a b h0
    have hin := mod_in (b := b) ha h0
    obtain ⟨hi1, hi2⟩ := hin
    obtain ⟨f1, f2, f3⟩ := f
    obtain ⟨ha1, ha2⟩ := ha
    by_cases c0 : b.tmod a = 0
    · rw [if_neg (by simp [c0])] at f3
      rw [f3, c0]
      clear f3
      go_enter Tryd.func89, Tryd.ntmps89
      go_wp2
      go_ret
      exact ⟨rfl, rfl⟩
    · by_cases c1 : b.tmod a < 0 <;> by_cases c2 : a < 0
      · rw [if_neg (by simp [c1, c2])] at f3
        rw [f3]
        clear f3
        go_enter Tryd.func89, Tryd.ntmps89
        go_wp2
        go_ret
        exact ⟨rfl, rfl⟩
      · rw [if_pos (by simp [c0, c1, c2])] at f3
        rw [f3]
        clear f3
        go_enter Tryd.func89, Tryd.ntmps89
        go_wp2
        go_ret
        exact ⟨rfl, rfl⟩
      · rw [if_pos (by simp [c0, c1, c2])] at f3
        rw [f3]
        clear f3
        go_enter Tryd.func89, Tryd.ntmps89
        go_wp2
        go_ret
        exact ⟨rfl, rfl⟩
      · rw [if_neg (by simp [c1, c2])] at f3
        rw [f3]
        clear f3
        go_enter Tryd.func89, Tryd.ntmps89
        go_wp2
        go_ret
        exact ⟨rfl, rfl⟩
theorem rres_any (a b : Int) (ha : In64 a) (w : World) :
    Calls Tryd.prog 54 #[.int .i64 a, .int .i64 b] w fun e w' => e = .returned (.int .i64 (b.fmod a)) ∧ w' = w := by
  by_cases h0 : a = 0
  · subst h0
    rw [Int.fmod_zero]
    go_enter Tryd.func54, Tryd.ntmps54
    go_wp2
    go_ret
    exact ⟨rfl, rfl⟩
  · by_cases h1 : a = -1
    · subst h1
      have e : b.fmod (-1) = 0 := by
        obtain ⟨g1, g2, g3⟩ := mod_facts (-1) b (by omega)
        have n1 : ((-1 : Int).natAbs : Int) = 1 := rfl
        have z : b.tmod (-1) = 0 := by omega
        simp [g3, z]
      rw [e]
      go_enter Tryd.func54, Tryd.ntmps54
      go_wp2
      go_ret
      exact ⟨rfl, rfl⟩
    · by_cases h2 : a = 1
      · subst h2
        have e : b.fmod 1 = 0 := by simp
        rw [e]
        go_enter Tryd.func54, Tryd.ntmps54
        go_wp2
        go_ret
        exact ⟨rfl, rfl⟩
      · have t1 : (a == -1) = false := by simpa using h1
        have t2 : (a == 1) = false := by simpa using h2
        have f := mod_facts a b h0
        have hin := mod_in (b := b) ha h0
        obtain ⟨hi1, hi2⟩ := hin
        obtain ⟨f1, f2, f3⟩ := f
        obtain ⟨ha1, ha2⟩ := ha
        by_cases c0 : b.tmod a = 0
        · rw [if_neg (by simp [c0])] at f3
          rw [f3, c0]
          clear f3
          go_enter Tryd.func54, Tryd.ntmps54
          go_wp2
          go_ret
          exact ⟨rfl, rfl⟩
        · by_cases c1 : b.tmod a < 0 <;> by_cases c2 : a < 0
          · rw [if_neg (by simp [c1, c2])] at f3
            rw [f3]
            clear f3
            go_enter Tryd.func54, Tryd.ntmps54
            go_wp2
            go_ret
            exact ⟨rfl, rfl⟩
          · rw [if_pos (by simp [c0, c1, c2])] at f3
            rw [f3]
            clear f3
            go_enter Tryd.func54, Tryd.ntmps54
            go_wp2
            go_ret
            exact ⟨rfl, rfl⟩
          · rw [if_pos (by simp [c0, c1, c2])] at f3
            rw [f3]
            clear f3
            go_enter Tryd.func54, Tryd.ntmps54
            go_wp2
            go_ret
            exact ⟨rfl, rfl⟩
          · rw [if_neg (by simp [c1, c2])] at f3
            rw [f3]
            clear f3
            go_enter Tryd.func54, Tryd.ntmps54
            go_wp2
            go_ret
            exact ⟨rfl, rfl⟩
end Go.Proofs.YtlfacpclihmnnaaDoor.Num
namespace Go.Proofs.YtlfacpclihmnnaaDoor.Num
open Go.ChangeShapes Go.WideShapes Go.ChangeAt Go.RowKit
/-- A slice of int64: its numbers fit, and its cells hold them. -/
def Row (w : World) (a : Option Addr) (zs : List Int) : Prop :=
  (∀ z ∈ zs, In64 z) ∧ zs.length ≤ 140737488355328 ∧ (zs = [] ∨ ∃ b off, a = some ⟨b, off, none⟩ ∧ b < w.heap.size ∧ ∀ k, k < zs.length → w.cell? ⟨b, off + k, none⟩ = some (.int .i64 (zs.getD k 0)))
theorem take_sum (zs : List Int) (k : Nat) (h : k < zs.length) : (zs.take (k + 1)).sum = (zs.take k).sum + zs[k]?.getD 0 := by
  rw [List.take_succ_eq_append_getElem h, List.sum_append]
  simp [h]
theorem row_in {w : World} {a : Option Addr} {zs : List Int} (h : Row w a zs) (k : Nat) : In64 (zs[k]?.getD 0) := by
  by_cases hk : k < zs.length
  · simp only [hk, List.getElem?_eq_getElem, Option.getD_some]; exact h.1 _ (List.getElem_mem hk)
  · have : zs[k]? = none := by simp; omega
    rw [this]; constructor <;> decide
theorem wrap_in (n : Int) : In64 (wrap64 n) := by unfold In64 wrap64; omega
/-- The whole is what is held and 2^64 times the rounds. -/
theorem rounds_step {S z r : Int} (hS : S = wrap64 S + 18446744073709551616 * r) (hz : In64 z) : wrap64 (wrap64 S + z) = wrap64 (S + z) ∧ S + z = wrap64 (S + z) + 18446744073709551616 * (r + rnd (wrap64 S + z)) := by
  have hw := wrap_in S
  obtain ⟨h1, h2⟩ := hz
  obtain ⟨h3, h4⟩ := hw
  have e : wrap64 (wrap64 S + z) = wrap64 (S + z) := by
    generalize hT : wrap64 S = T at *
    unfold wrap64
    omega
  refine ⟨e, ?_⟩
  rw [← e]
  generalize wrap64 S = T at *
  unfold rnd wrap64
  split
  · omega
  · split <;> omega
theorem rnd_le (s : Int) : -1 ≤ rnd s ∧ rnd s ≤ 1 := by unfold rnd; split <;> (try split) <;> omega
set_option maxHeartbeats 400000 in
theorem sum_any (zs : List Int) (a : Option Addr) (cap : Nat) (w : World) (h : Row w a zs) :
    Calls Tryd.prog 63 #[.slice a zs.length cap] w fun e w' => e = .returned (.tuple #[.int .i64 (resV zs.sum), .int .i64 (resE zs.sum)]) ∧ w' = w := by
  have hrow := row_in h
  obtain ⟨hin, hlen, hcells⟩ := h
  go_enter Tryd.func63, Tryd.ntmps63
  go_wp2
  go_loop [4, 5, 11] (fun s r i => ∃ k : Nat, ∃ rr : Int, k ≤ zs.length ∧ i = .int .i64 k ∧ s = .int .i64 (wrap64 (zs.take k).sum) ∧ r = .int .i64 rr ∧ -k ≤ rr ∧ rr ≤ k ∧ (zs.take k).sum = wrap64 (zs.take k).sum + 18446744073709551616 * rr) (fun _ _ i => zs.length - (intOf i).toNat)
  case atStart => exact ⟨0, 0, Nat.zero_le _, rfl, by simp [wrap64], rfl, by simp, by simp, by simp [wrap64]⟩
  case round =>
    obtain ⟨k, rr, hk, rfl, rfl, rfl, hr1, hr2, hS⟩ := hrel
    by_cases hlt : k < zs.length
    · have hts := take_sum zs k hlt
      have hz := hrow k
      obtain ⟨hb1, hb2⟩ := rounds_step hS hz
      have hr := rnd_le (wrap64 (zs.take k).sum + zs[k]?.getD 0)
      obtain ⟨b, off, ha, hb, hc⟩ : ∃ b off, a = some ⟨b, off, none⟩ ∧ b < w.heap.size ∧ ∀ k, k < zs.length → w.cell? ⟨b, off + k, none⟩ = some (.int .i64 (zs.getD k 0)) := by
        rcases hcells with rfl | h
        · simp at hlt
        · exact h
      have hck := hc k hlt
      rw [List.getD_eq_getElem?_getD] at hck
      clear hc hcells hin
      subst ha
      have HS : Hid ((zs.take (k + 1)).sum = (zs.take k).sum + zs[k]?.getD 0) := hts
      have H1 : Hid (wrap64 (wrap64 (zs.take k).sum + zs[k]?.getD 0) = wrap64 ((zs.take k).sum + zs[k]?.getD 0)) := hb1
      have H2 := (show Hid _ from hb2)
      have H3 := (show Hid _ from hS)
      clear hts hb1 hb2 hS
      obtain ⟨z, hzz⟩ : ∃ z, z = zs[k]?.getD 0 := ⟨_, rfl⟩
      rw [← hzz] at hck HS H1 H2 hz hr
      clear hrow hzz
      go_wp2_with (go_at_call 79; refine (addRound_any _ _ (wrap_in _) hz _).mono ?_; rintro e w' ⟨rfl, rfl⟩)
      go_round
      case rel => exact ⟨k + 1, rr + rnd (wrap64 (zs.take k).sum + z), by omega, by go_num, by rw [H1.out, HS.out], rfl, by omega, by omega, by rw [HS.out]; exact H2.out⟩
      case measure => simp [intOf]; omega
    · have hke : k = zs.length := by omega
      subst hke
      rw [List.take_length] at hS
      have hw := wrap_in zs.sum
      by_cases h0 : rr = 0
      · subst h0
        have f := fit_in (x := zs.sum) (by rw [hS]; obtain ⟨h1, h2⟩ := hw; omega) (by rw [hS]; obtain ⟨h1, h2⟩ := hw; omega)
        have H3 : Hid (wrap64 zs.sum = resV zs.sum ∧ 0 = resE zs.sum) := by show _ ∧ _; rw [f.1, f.2]; exact ⟨by omega, rfl⟩
        clear hS f
        go_wp2
        go_ret2
        exact ⟨ret2 H3.out.1 H3.out.2, rfl⟩
      · have f := fit_out (x := zs.sum) (by obtain ⟨h1, h2⟩ := hw; omega)
        have H3 : Hid (0 = resV zs.sum ∧ 9 = resE zs.sum) := by show _ ∧ _; rw [f.1, f.2]; exact ⟨rfl, rfl⟩
        clear hS f
        go_wp2
        go_ret2
        exact ⟨ret2 H3.out.1 H3.out.2, rfl⟩
end Go.Proofs.YtlfacpclihmnnaaDoor.Num
namespace Go.Proofs.YtlfacpclihmnnaaDoor.Num
open Go.ChangeShapes Go.WideShapes Go.ChangeAt Go.RowKit
theorem row_at {w : World} {a : Option Addr} {zs : List Int} (h : Row w a zs) {k : Nat} (hk : k < zs.length) : ∃ b off, a = some ⟨b, off, none⟩ ∧ b < w.heap.size ∧ w.cell? ⟨b, off + k, none⟩ = some (.int .i64 (zs[k]?.getD 0)) := by
  obtain ⟨_, _, h⟩ := h
  rcases h with rfl | ⟨b, off, ha, hb, hc⟩
  · simp at hk
  · exact ⟨b, off, ha, hb, by rw [hc k hk, List.getD_eq_getElem?_getD]⟩
theorem retB {a b : Bool} (h : a = b) : Ending.returned (.bool a) = .returned (.bool b) := by rw [h]
def hasZ (zs : List Int) : Bool := zs.any (fun z => decide (z = 0))
theorem hasZ_yes {zs : List Int} {k : Nat} (hk : k < zs.length) (h : zs[k]?.getD 0 = 0) : hasZ zs = true := by
  simp only [hasZ, List.any_eq_true, decide_eq_true_eq]
  exact ⟨zs[k], List.getElem_mem hk, by simpa [hk] using h⟩
theorem hasZ_no {zs : List Int} (h : ∀ j, j < zs.length → zs[j]?.getD 0 ≠ 0) : hasZ zs = false := by
  simp only [hasZ, List.any_eq_false, decide_eq_true_eq]
  intro z hz e
  obtain ⟨j, hj, rfl⟩ := List.getElem_of_mem hz
  exact h j hj (by simpa [hj] using e)
theorem hasZero_any (zs : List Int) (a : Option Addr) (cap : Nat) (w : World) (h : Row w a zs) :
    Calls Tryd.prog 80 #[.slice a zs.length cap] w fun e w' => e = .returned (.bool (hasZ zs)) ∧ w' = w := by
  have hrow := @row_at _ _ _ h
  have hlen := h.2.1
  clear h
  go_enter Tryd.func80, Tryd.ntmps80
  go_wp2
  go_loop [6] (fun i => ∃ k : Nat, k ≤ zs.length ∧ i = .int .i64 k ∧ ∀ j, j < k → zs[j]?.getD 0 ≠ 0) (fun i => zs.length - (intOf i).toNat)
  case atStart => exact ⟨0, Nat.zero_le _, rfl, fun j hj => by omega⟩
  case round =>
    obtain ⟨k, hk, rfl, hno⟩ := hrel
    by_cases hlt : k < zs.length
    · obtain ⟨b, off, ha, hb, hck⟩ := hrow hlt
      subst ha
      by_cases hz : zs[k]?.getD 0 = 0
      · have H := (show Hid _ from hasZ_yes hlt hz)
        rw [hz] at hck
        clear hrow hno hz
        go_wp2
        go_ret
        exact ⟨retB H.out.symm, rfl⟩
      · have H : Hid (∀ j, j < k + 1 → zs[j]?.getD 0 ≠ 0) := by
          intro j hj
          by_cases e : j = k
          · subst e; exact hz
          · exact hno j (by omega)
        obtain ⟨z, hzz⟩ : ∃ z, z = zs[k]?.getD 0 := ⟨_, rfl⟩
        rw [← hzz] at hck hz
        clear hrow hno hzz
        go_wp2
        go_round
        case rel => exact ⟨k + 1, by omega, by go_num, H.out⟩
        case measure => simp [intOf]; omega
    · have H := (show Hid _ from hasZ_no (zs := zs) fun j hj => hno j (by omega))
      clear hrow hno
      go_wp2
      go_ret
      exact ⟨retB H.out.symm, rfl⟩

def prodL : List Int → Int
  | [] => 1
  | x :: l => x * prodL l
theorem prodL_append (l m : List Int) : prodL (l ++ m) = prodL l * prodL m := by
  induction l with
  | nil => simp [prodL]
  | cons x l ih => simp [prodL, ih, Int.mul_assoc]
theorem take_prod (zs : List Int) (k : Nat) (h : k < zs.length) : prodL (zs.take (k + 1)) = prodL (zs.take k) * zs[k]?.getD 0 := by
  rw [List.take_succ_eq_append_getElem h, prodL_append]
  simp [h, prodL]
theorem prod_zero {zs : List Int} (h : hasZ zs = true) : prodL zs = 0 := by
  induction zs with
  | nil => simp [hasZ] at h
  | cons x l ih =>
    simp only [hasZ, List.any_cons, Bool.or_eq_true, decide_eq_true_eq] at h
    rcases h with h | h
    · simp [prodL, h]
    · have := ih h
      simp [prodL, this]
theorem prod_ne {zs : List Int} (h : hasZ zs = false) : prodL zs ≠ 0 := by
  induction zs with
  | nil => simp [prodL]
  | cons x l ih =>
    simp only [hasZ, List.any_cons, Bool.or_eq_false_iff, decide_eq_false_iff_not] at h
    exact Int.mul_ne_zero h.1 (ih h.2)
theorem hasZ_append (l m : List Int) : hasZ (l ++ m) = (hasZ l || hasZ m) := by simp [hasZ]
theorem hasZ_take {zs : List Int} (h : hasZ zs = false) (k : Nat) : hasZ (zs.take k) = false ∧ hasZ (zs.drop k) = false := by
  have e : hasZ (zs.take k ++ zs.drop k) = false := by rw [List.take_append_drop]; exact h
  rw [hasZ_append] at e
  simpa using e
theorem hasZ_get {zs : List Int} (h : hasZ zs = false) {k : Nat} (hk : k < zs.length) : zs[k]?.getD 0 ≠ 0 := by
  intro e
  rw [hasZ_yes hk e] at h
  cases h
/-- Without a nought a product's size never shrinks. -/
theorem prod_grows {zs : List Int} (h : hasZ zs = false) (k : Nat) : (prodL (zs.take k)).natAbs ≤ (prodL zs).natAbs := by
  have e : prodL zs = prodL (zs.take k) * prodL (zs.drop k) := by rw [← prodL_append, List.take_append_drop]
  have h2 := prod_ne (hasZ_take h k).2
  rw [e, Int.natAbs_mul]
  exact Nat.le_mul_of_pos_right _ (by omega)
theorem neg_mul_iff {p z : Int} (hp : p ≠ 0) (hz : z ≠ 0) : (!(decide (p < 0) == decide (z < 0))) = decide (p * z < 0) := by
  rcases Int.lt_or_gt_of_ne hp with h1 | h1 <;> rcases Int.lt_or_gt_of_ne hz with h2 | h2
  · have := Int.mul_pos_of_neg_of_neg h1 h2
    have n : ¬ p * z < 0 := by omega
    simp [h1, h2, n]
  · have := Int.mul_neg_of_neg_of_pos h1 h2
    have n : ¬ z < 0 := by omega
    simp [h1, n, this]
  · have := Int.mul_neg_of_pos_of_neg h1 h2
    have n : ¬ p < 0 := by omega
    simp [h2, n, this]
  · have := Int.mul_pos h1 h2
    have n : ¬ p < 0 := by omega
    have n2 : ¬ z < 0 := by omega
    have n3 : ¬ p * z < 0 := by omega
    simp [n, n2, n3]
theorem sgd_self (p : Int) : sgdI (p.natAbs : Int) (decide (p < 0)) = p := by
  unfold sgdI
  by_cases h : p < 0
  · simp [h]; omega
  · simp [h]; omega
set_option maxHeartbeats 1000000 in
theorem prod_any (zs : List Int) (a : Option Addr) (cap : Nat) (w : World) (h : Row w a zs) :
    Calls Tryd.prog 64 #[.slice a zs.length cap] w fun e w' => e = .returned (.tuple #[.int .i64 (resV (prodL zs)), .int .i64 (resE (prodL zs))]) ∧ w' = w := by
  have hz0 := hasZero_any zs a cap w h
  have hrow := @row_at _ _ _ h
  have hin := row_in h
  have hlen := h.2.1
  clear h
  cases hzz : hasZ zs with
  | true =>
    rw [hzz] at hz0
    rw [prod_zero hzz]
    go_enter Tryd.func64, Tryd.ntmps64
    go_wp2_with (go_at_call 80; refine hz0.mono ?_; rintro e w' ⟨rfl, rfl⟩)
    go_ret2
    exact ⟨rfl, rfl⟩
  | false =>
    rw [hzz] at hz0
    have HZ : Hid (hasZ zs = false) := hzz
    clear hzz
    go_enter Tryd.func64, Tryd.ntmps64
    go_wp2_with (go_at_call 80; refine hz0.mono ?_; rintro e w' ⟨rfl, hw⟩; rw [hw])
    clear hz0
    go_loop [4, 5, 13] (fun s b i => ∃ k : Nat, k ≤ zs.length ∧ i = .int .i64 k ∧ s = .int .u64 ((prodL (zs.take k)).natAbs : Int) ∧ (prodL (zs.take k)).natAbs < 18446744073709551616 ∧ b = .bool (decide (prodL (zs.take k) < 0))) (fun _ _ i => zs.length - (intOf i).toNat)
    case atStart => exact ⟨0, Nat.zero_le _, rfl, rfl, by simp [prodL], rfl⟩
    case round =>
      obtain ⟨k, hk, rfl, rfl, hs, rfl⟩ := hrel
      by_cases hlt : k < zs.length
      · have hp : prodL (zs.take k) ≠ 0 := prod_ne (hasZ_take HZ.out k).1
        have HP : Hid (prodL (zs.take (k + 1)) = prodL (zs.take k) * zs[k]?.getD 0) := take_prod zs k hlt
        have HG : Hid ((prodL (zs.take (k + 1))).natAbs ≤ (prodL zs).natAbs) := prod_grows HZ.out (k + 1)
        have hzn := hasZ_get HZ.out hlt
        obtain ⟨b, off, ha, hb, hck⟩ := hrow hlt
        have hi := hin k
        subst ha
        generalize hPP : prodL (zs.take k) = p at *
        generalize hzzz : zs[k]?.getD 0 = z at *
        clear hPP hzzz hrow hin
        have hz' : z.natAbs < 18446744073709551616 := by obtain ⟨h1, h2⟩ := hi; omega
        by_cases hov : p.natAbs * z.natAbs < 18446744073709551616
        · have e1 : p.natAbs * z.natAbs / 18446744073709551616 = 0 := Nat.div_eq_of_lt hov
          have e2 : p.natAbs * z.natAbs % 18446744073709551616 = p.natAbs * z.natAbs := Nat.mod_eq_of_lt hov
          have HN := (show Hid _ from neg_mul_iff hp hzn)
          clear hp hzn
          go_wp2_with (first | (go_at_call 82; refine (sizeOf_any _ hi _).mono ?_; rintro e w' ⟨rfl, rfl⟩) | (go_at_call 81; refine (mul64_any _ _ hs hz' _).mono ?_; rintro e w' ⟨rfl, rfl⟩; rw [e1, e2]))
          go_round
          case rel =>
            refine ⟨k + 1, by omega, by go_num, ?_, ?_, ?_⟩
            · rw [HP.out, Int.natAbs_mul]; simp
            · rw [HP.out, Int.natAbs_mul]; exact hov
            · rw [HP.out, ← HN.out]
          case measure => simp [intOf]; omega
        · have f := fit_big (x := prodL zs) (by have h1 := HP.out; have h2 := HG.out; rw [h1, Int.natAbs_mul] at h2; omega)
          have F := (show Hid _ from f)
          have e1 : ¬ ((p.natAbs * z.natAbs / 18446744073709551616 : Nat) : Int) = 0 := by omega
          have e2 : (((p.natAbs * z.natAbs / 18446744073709551616 : Nat) : Int) != 0) = true := by simpa using e1
          obtain ⟨hi', hhi⟩ : ∃ n : Nat, n = p.natAbs * z.natAbs / 18446744073709551616 := ⟨_, rfl⟩
          obtain ⟨lo', hlo⟩ : ∃ n : Nat, n = p.natAbs * z.natAbs % 18446744073709551616 := ⟨_, rfl⟩
          rw [← hhi] at e1 e2
          have HH := (show Hid _ from hhi)
          have HL := (show Hid _ from hlo)
          clear hhi hlo hov f hp hzn
          go_wp2_with (first | (go_at_call 82; refine (sizeOf_any _ hi _).mono ?_; rintro e w' ⟨rfl, rfl⟩) | (go_at_call 81; refine (mul64_any _ _ hs hz' _).mono ?_; rintro e w' ⟨rfl, rfl⟩; rw [← HH.out, ← HL.out]))
          go_ret2
          exact ⟨ret2 F.out.1.symm F.out.2.symm, rfl⟩
      · have hke : k = zs.length := by omega
        subst hke
        have ht : zs.take zs.length = zs := List.take_length
        rw [ht] at hs ⊢
        have hsg := sgd_self (prodL zs)
        clear ht
        go_wp2_with (go_at_call 83; refine (signed_any _ _ (by omega) (by omega) _).mono ?_; rintro e w' ⟨rfl, rfl⟩)
        go_ret2
        exact ⟨rfl, rfl⟩
end Go.Proofs.YtlfacpclihmnnaaDoor.Num
namespace Go.Proofs.YtlfacpclihmnnaaDoor.Num
open Go.ChangeShapes Go.WideShapes Go.ChangeAt Go.RowKit
theorem rstep_over {p z M : Int} {n : Nat} {ov : Bool} (hM : M = (z.natAbs : Int)) (hz : z ≠ 0) (h : 9223372036854775808 / M < (n : Int)) (h1 : ov = false → n = p.natAbs) (h2 : ov = true → 9223372036854775808 < p.natAbs) :
    9223372036854775808 < (p * z).natAbs := by
  subst hM
  have hm : 0 < z.natAbs := by omega
  rw [Int.natAbs_mul]
  cases ov with
  | true =>
    have := h2 rfl
    exact Nat.lt_of_lt_of_le this (Nat.le_mul_of_pos_right _ hm)
  | false =>
    rw [← h1 rfl]
    have h' : 9223372036854775808 / z.natAbs < n := by
      have e : ((9223372036854775808 / z.natAbs : Nat) : Int) = 9223372036854775808 / (z.natAbs : Int) := by simp
      omega
    exact (Nat.div_lt_iff_lt_mul hm).1 h'
theorem rstep_in {p z M : Int} {n : Nat} {ov : Bool} (hM : M = (z.natAbs : Int)) (hz : z ≠ 0) (hn : 1 ≤ n) (h : (n : Int) ≤ 9223372036854775808 / M) (h1 : ov = false → n = p.natAbs) (h2 : ov = true → 9223372036854775808 < p.natAbs) :
    IntKind.u64.wrap ((n : Int) * M) = ((n * z.natAbs : Nat) : Int) ∧ 1 ≤ n * z.natAbs ∧ n * z.natAbs ≤ 9223372036854775808 ∧ (ov = false → n * z.natAbs = (p * z).natAbs) ∧ (ov = true → 9223372036854775808 < (p * z).natAbs) := by
  subst hM
  have hm : 0 < z.natAbs := by omega
  have h' : n ≤ 9223372036854775808 / z.natAbs := by
    have e : ((9223372036854775808 / z.natAbs : Nat) : Int) = 9223372036854775808 / (z.natAbs : Int) := by simp
    omega
  have hle := (Nat.le_div_iff_mul_le hm).1 h'
  refine ⟨?_, Nat.mul_pos hn hm, hle, ?_, ?_⟩
  · rw [mulN, wrapN]; omega
  · intro e; rw [Int.natAbs_mul, h1 e]
  · intro e
    rw [Int.natAbs_mul]
    exact Nat.lt_of_lt_of_le (h2 e) (Nat.le_mul_of_pos_right _ hm)
set_option maxHeartbeats 1000000 in
theorem rprod_any (zs : List Int) (a : Option Addr) (cap : Nat) (w : World) (h : Row w a zs) :
    Calls Tryd.prog 67 #[.slice a zs.length cap] w fun e w' => e = .returned (.tuple #[.int .i64 (resV (prodL zs)), .int .i64 (resE (prodL zs))]) ∧ w' = w := by
  have hrow := @row_at _ _ _ h
  have hin := row_in h
  have hlen := h.2.1
  clear h
  go_enter Tryd.func67, Tryd.ntmps67
  go_wp2
  go_loop [7] (fun i => ∃ k : Nat, k ≤ zs.length ∧ i = .int .i64 k ∧ ∀ j, j < k → zs[j]?.getD 0 ≠ 0) (fun i => zs.length - (intOf i).toNat)
  case atStart => exact ⟨0, Nat.zero_le _, rfl, fun j hj => by omega⟩
  case round =>
    obtain ⟨k, hk, rfl, hno⟩ := hrel
    by_cases hlt : k < zs.length
    · obtain ⟨b, off, ha, hb, hck⟩ := hrow hlt
      subst ha
      by_cases hz : zs[k]?.getD 0 = 0
      · have H := (show Hid _ from prod_zero (hasZ_yes hlt hz))
        rw [hz] at hck
        clear hrow hno hz hin
        go_wp2
        go_ret2
        exact ⟨ret2 (by rw [H.out]; rfl) (by rw [H.out]; rfl), rfl⟩
      · have H : Hid (∀ j, j < k + 1 → zs[j]?.getD 0 ≠ 0) := by
          intro j hj
          by_cases e : j = k
          · subst e; exact hz
          · exact hno j (by omega)
        obtain ⟨z, hzz⟩ : ∃ z, z = zs[k]?.getD 0 := ⟨_, rfl⟩
        rw [← hzz] at hck hz
        clear hrow hno hzz hin
        go_wp2
        go_round
        case rel => exact ⟨k + 1, by omega, by go_num, H.out⟩
        case measure => simp [intOf]; omega
    · have HZ := (show Hid _ from hasZ_no (zs := zs) fun j hj => hno j (by omega))
      clear hno
      go_wp2
      go_loop [4, 5, 6, 8] (fun s b o i => ∃ k n : Nat, ∃ ov : Bool, k ≤ zs.length ∧ i = .int .i64 k ∧ s = .int .u64 n ∧ 1 ≤ n ∧ n ≤ 9223372036854775808 ∧ b = .bool (decide (prodL (zs.take k) < 0)) ∧ o = .bool ov ∧ (ov = false → n = (prodL (zs.take k)).natAbs) ∧ (ov = true → 9223372036854775808 < (prodL (zs.take k)).natAbs)) (fun _ _ _ i => zs.length - (intOf i).toNat)
      case atStart => exact ⟨0, 1, false, Nat.zero_le _, rfl, rfl, by omega, by omega, rfl, rfl, fun _ => rfl, fun h => by cases h⟩
      case round =>
        obtain ⟨k2, n, ov, hk2, rfl, rfl, hn1, hn2, rfl, rfl, ho1, ho2⟩ := hrel
        have HO1 := (show Hid _ from ho1)
        have HO2 := (show Hid _ from ho2)
        clear ho1 ho2
        by_cases hlt2 : k2 < zs.length
        · have hp : prodL (zs.take k2) ≠ 0 := prod_ne (hasZ_take HZ.out k2).1
          have HP : Hid (prodL (zs.take (k2 + 1)) = prodL (zs.take k2) * zs[k2]?.getD 0) := take_prod zs k2 hlt2
          have hzn := hasZ_get HZ.out hlt2
          obtain ⟨b, off, ha, hb, hck⟩ := hrow hlt2
          have hi := hin k2
          subst ha
          generalize hPP : prodL (zs.take k2) = p at *
          generalize hzzz : zs[k2]?.getD 0 = z at *
          clear hPP hzzz hrow hin
          have HN := (show Hid _ from neg_mul_iff hp hzn)
          clear hp
          obtain ⟨hi1, hi2⟩ := hi
          by_cases hneg : z < 0
          · have HM : Hid (-(z + 1) + 1 = (z.natAbs : Int)) := by show -(z + 1) + 1 = (z.natAbs : Int); omega
            have HB : Hid ((!decide (p < 0)) = decide (p * z < 0)) := by
              have := HN.out
              show (!decide (p < 0)) = decide (p * z < 0)
              rw [← this]; simp [hneg]
            clear HN
            go_wp2
            · have hq : 9223372036854775808 / (-(z + 1) + 1) < (n : Int) := by assumption
              have S := rstep_over HM.out hzn hq HO1.out HO2.out
              go_round
              case rel => exact ⟨k2 + 1, z.natAbs, true, by omega, by go_num, by rw [HM.out], by omega, by omega, by rw [HP.out, HB.out], rfl, (fun h => nomatch h), (fun _ => by rw [HP.out]; exact S)⟩
              case measure => simp [intOf]; omega
            · have hq : (n : Int) ≤ 9223372036854775808 / (-(z + 1) + 1) := by assumption
              have S := rstep_in HM.out hzn hn1 hq HO1.out HO2.out
              go_round
              case rel => exact ⟨k2 + 1, n * z.natAbs, ov, by omega, by go_num, by rw [S.1], S.2.1, S.2.2.1, by rw [HP.out, HB.out], rfl, (fun h => by rw [HP.out]; exact S.2.2.2.1 h), (fun h => by rw [HP.out]; exact S.2.2.2.2 h)⟩
              case measure => simp [intOf]; omega
          · have HM : Hid (z = (z.natAbs : Int)) := by show z = (z.natAbs : Int); omega
            have HB : Hid (decide (p < 0) = decide (p * z < 0)) := by
              have := HN.out
              show decide (p < 0) = decide (p * z < 0)
              rw [← this]; simp [hneg]
            clear HN
            go_wp2
            · have hq : 9223372036854775808 / z < (n : Int) := by assumption
              have S := rstep_over HM.out hzn hq HO1.out HO2.out
              go_round
              case rel => exact ⟨k2 + 1, z.natAbs, true, by omega, by go_num, by rw [← HM.out], by omega, by omega, by rw [HP.out, HB.out], rfl, (fun h => nomatch h), (fun _ => by rw [HP.out]; exact S)⟩
              case measure => simp [intOf]; omega
            · have hq : (n : Int) ≤ 9223372036854775808 / z := by assumption
              have S := rstep_in HM.out hzn hn1 hq HO1.out HO2.out
              go_round
              case rel => exact ⟨k2 + 1, n * z.natAbs, ov, by omega, by go_num, by rw [S.1], S.2.1, S.2.2.1, by rw [HP.out, HB.out], rfl, (fun h => by rw [HP.out]; exact S.2.2.2.1 h), (fun h => by rw [HP.out]; exact S.2.2.2.2 h)⟩
              case measure => simp [intOf]; omega
        · have hke : k2 = zs.length := by omega
          subst hke
          have ht : zs.take zs.length = zs := List.take_length
          rw [ht] at HO1 HO2 ⊢
          clear ht hrow hin HZ
          cases ov with
          | true =>
            have F := (show Hid _ from fit_out (x := prodL zs) (by have := HO2.out rfl; omega))
            clear HO1 HO2
            go_wp2
            all_goals
              go_ret2
              exact ⟨ret2 F.out.1.symm F.out.2.symm, rfl⟩
          | false =>
            have hn := HO1.out rfl
            have HNP : Hid (n = (prodL zs).natAbs) := hn
            clear HO1 HO2 hn
            by_cases hP : prodL zs < 0
            · have F := (show Hid _ from fit_in (x := prodL zs) (by have := HNP.out; omega) (by omega))
              have HV : Hid (-((n : Int) - 1) - 1 = resV (prodL zs) ∧ 0 = resE (prodL zs) ∧ ((n : Int) = 9223372036854775808 → -9223372036854775808 = resV (prodL zs))) := by
                rw [F.out.1, F.out.2]
                have := HNP.out
                exact ⟨by omega, rfl, by omega⟩
              clear F HNP
              go_wp2
              all_goals
                go_ret2
                first
                  | exact ⟨ret2 HV.out.1 HV.out.2.1, rfl⟩
                  | exact ⟨ret2 (HV.out.2.2 (by assumption)) HV.out.2.1, rfl⟩
            · by_cases hn : n = 9223372036854775808
              · have F := (show Hid _ from fit_out (x := prodL zs) (by have := HNP.out; omega))
                clear HNP
                subst hn
                go_wp2
                all_goals
                  go_ret2
                  exact ⟨ret2 F.out.1.symm F.out.2.symm, rfl⟩
              · have F := (show Hid _ from fit_in (x := prodL zs) (by omega) (by have := HNP.out; omega))
                have HV : Hid ((n : Int) = resV (prodL zs) ∧ 0 = resE (prodL zs)) := by
                  rw [F.out.1, F.out.2]
                  have := HNP.out
                  exact ⟨by omega, rfl⟩
                clear HNP F
                go_wp2
                all_goals
                  go_ret2
                  exact ⟨ret2 HV.out.1 HV.out.2, rfl⟩
end Go.Proofs.YtlfacpclihmnnaaDoor.Num
namespace Go.Proofs.YtlfacpclihmnnaaDoor
open Go.ChangeShapes Go.WideShapes Go.ChangeAt Go.RowKit
set_option linter.unusedVariables false
/-- What a comparison of arrays promises. -/
def CmpC (k n : Nat) : Prop := ∀ x y lo lo' va vb w, ArIn n lo w x va → ArIn n lo' w y vb → Calls Tryd.prog k #[va, vb] w fun e w' => e = .returned (.int .i64 (cmpA n x y)) ∧ Below w.heap.size w w'
theorem two_allocs (w : World) (o1 o2 : Obj) : Below w.heap.size w ((w.alloc o1).alloc o2) := ((Below.refl _ _).alloc (Nat.le_refl _) _).alloc (by simp) _
theorem cell_two {w : World} {b off : Nat} {v : Value} (h : w.cell? ⟨b, off, none⟩ = some v) (hb : b < w.heap.size) (o1 o2 : Obj) : ((w.alloc o1).alloc o2).cell? ⟨b, off, none⟩ = some v :=
  ((two_allocs w o1 o2).cell (p := ⟨b, off, none⟩) hb).trans h
theorem cmp3_self (a : Int) : cmp3 a a = 0 := by simp [cmp3]
theorem cmp3_ne {a b : Int} : cmp3 a b ≠ 0 ↔ a ≠ b := by
  unfold cmp3
  constructor
  · intro h e; subst e; simp at h
  · intro h
    by_cases h1 : a < b
    · simp [h1]
    · have : b < a := by omega
      simp [h1, this]
end Go.Proofs.YtlfacpclihmnnaaDoor
namespace Go.Proofs.YtlfacpclihmnnaaDoor.Num
open Go.ChangeShapes Go.WideShapes Go.ChangeAt Go.RowKit
theorem ret_agg {a b c d : Int} (h : a = b) (h' : c = d) : Ending.returned (.agg #[.int .i64 a, .int .i64 c]) = .returned (.agg #[.int .i64 b, .int .i64 d]) := by rw [h, h']
theorem wide_any (a : Int) (h1 : -9223372036854775808 ≤ a) (h2 : a < 0) (w : World) :
    Calls Tryd.prog 93 #[.int .i64 a] w fun e w' => e = .returned (.agg #[.int .i64 (a / 4294967296), .int .i64 (a % 4294967296)]) ∧ Below w.heap.size w w' := by
  have hb : -4294967296 < a.tmod 4294967296 := Int.lt_tmod_of_pos a (by decide)
  have ht := Int.tmod_eq_emod (a := a) (b := 4294967296)
  have HD : Hid ((a - a % 4294967296).tdiv 4294967296 = a / 4294967296) := by
    show (a - a % 4294967296).tdiv 4294967296 = a / 4294967296
    have : a - a % 4294967296 = 4294967296 * (a / 4294967296) := by omega
    rw [this, Int.mul_tdiv_cancel_left _ (by decide)]
  by_cases h : a.tmod 4294967296 < 0
  · have e1 : a.tmod 4294967296 + 4294967296 = a % 4294967296 := by split at ht <;> omega
    clear ht
    go_enter Tryd.func93, Tryd.ntmps93
    go_wp2
    exact bodyPost_ret (v := .agg #[.int .i64 ((a - a % 4294967296).tdiv 4294967296), .int .i64 (a % 4294967296)]) (by simp [results, Tryd.results93, go_sem]) rfl ⟨ret_agg HD.out rfl, (Below.refl _ _).alloc (Nat.le_refl _) _⟩
  · have e1 : a.tmod 4294967296 = a % 4294967296 := by split at ht <;> omega
    clear ht
    go_enter Tryd.func93, Tryd.ntmps93
    go_wp2
    exact bodyPost_ret (v := .agg #[.int .i64 ((a - a % 4294967296).tdiv 4294967296), .int .i64 (a % 4294967296)]) (by simp [results, Tryd.results93, go_sem]) rfl ⟨ret_agg HD.out rfl, (Below.refl _ _).alloc (Nat.le_refl _) _⟩
theorem bcell {W w1 : World} (hb : Below W.heap.size W w1) : (∀ b o, b < W.heap.size → w1.cell? ⟨b, o, none⟩ = W.cell? ⟨b, o, none⟩) ∧ (∀ b o, b < W.heap.size → w1.frozen? ⟨b, o, none⟩ = W.frozen? ⟨b, o, none⟩) :=
  ⟨fun b o h => hb.cell (p := ⟨b, o, none⟩) h, fun b o h => hb.frozen (p := ⟨b, o, none⟩) h⟩
set_option maxHeartbeats 400000 in
theorem wide0_any (a : Int) (ha : In64 a) (w : World) :
    Calls Tryd.prog 84 #[.int .i64 a] w fun e w' => e = .returned (.agg #[.int .i64 (a / 4294967296), .int .i64 (a % 4294967296)]) ∧ Below w.heap.size w w' := by
  obtain ⟨h1, h2⟩ := ha
  by_cases h : 0 ≤ a
  · go_enter Tryd.func84, Tryd.ntmps84
    go_wp2
    exact bodyPost_ret (v := .agg #[.int .i64 (a / 4294967296), .int .i64 (a % 4294967296)]) (by simp [results, Tryd.results84, go_sem]) rfl ⟨rfl, (Below.refl _ _).alloc (Nat.le_refl _) _⟩
  · by_cases hm : a = -9223372036854775808
    · subst hm
      go_enter Tryd.func84, Tryd.ntmps84
      go_wp2
      exact bodyPost_ret (v := .agg #[.int .i64 (-2147483648), .int .i64 0]) (by simp [results, Tryd.results84, go_sem]) rfl ⟨rfl, (Below.refl _ _).alloc (Nat.le_refl _) _⟩
    · go_enter Tryd.func84, Tryd.ntmps84
      go_wp2_with (go_at_call 93; refine (wide_any _ h1 (by omega) _).mono ?_; rintro e w' ⟨rfl, hbel⟩; obtain ⟨hc, hf⟩ := bcell hbel)
      refine bodyPost_ret (v := .agg #[.int .i64 (a / 4294967296), .int .i64 (a % 4294967296)]) (by simp [results, Tryd.results84, go_sem, hc]) rfl ⟨rfl, ?_⟩
      exact ((((Below.refl _ _).alloc (Nat.le_refl _) _).trans (hbel.mono (by simp))).setCell (by simp) _).setCell (by simp) _
theorem fits_any (hi lo : Int) (h1 : 0 ≤ lo) (h2 : lo < 4294967296) (h3 : -4611686018427387904 ≤ hi ∧ hi ≤ 4611686018427387904) (w : World) :
    Calls Tryd.prog 85 #[.agg #[.int .i64 hi, .int .i64 lo]] w fun e w' => e = .returned (.tuple #[.int .i64 (resV (hi * 4294967296 + lo)), .int .i64 (resE (hi * 4294967296 + lo))]) ∧ Below w.heap.size w w' := by
  by_cases a : hi < -2147483648
  · have f := fit_out (x := hi * 4294967296 + lo) (by omega)
    rw [f.1, f.2]
    go_enter Tryd.func85, Tryd.ntmps85
    go_wp2
    go_ret2
    exact ⟨rfl, (Below.refl _ _).alloc (Nat.le_refl _) _⟩
  · by_cases b : 2147483647 < hi
    · have f := fit_out (x := hi * 4294967296 + lo) (by omega)
      rw [f.1, f.2]
      go_enter Tryd.func85, Tryd.ntmps85
      go_wp2
      go_ret2
      exact ⟨rfl, (Below.refl _ _).alloc (Nat.le_refl _) _⟩
    · have f := fit_in (x := hi * 4294967296 + lo) (by omega) (by omega)
      rw [f.1, f.2]
      go_enter Tryd.func85, Tryd.ntmps85
      go_wp2
      go_ret2
      exact ⟨rfl, (Below.refl _ _).alloc (Nat.le_refl _) _⟩

set_option maxHeartbeats 1000000 in
theorem rsum_any (zs : List Int) (a : Option Addr) (cap : Nat) (w : World) (h : Row w a zs) (hl : zs.length ≤ 2147483647) :
    Calls Tryd.prog 66 #[.slice a zs.length cap] w fun e w' => e = .returned (.tuple #[.int .i64 (resV zs.sum), .int .i64 (resE zs.sum)]) ∧ Below w.heap.size w w' := by
  have hrow := @row_at _ _ _ h
  have hin := row_in h
  clear h
  go_enter Tryd.func66, Tryd.ntmps66
  go_wp2
  go_loopw [5] (fun i wr => ∃ k : Nat, ∃ hi lo : Int, k ≤ zs.length ∧ i = .int .i64 k ∧ wr.cell? ⟨w.heap.size, 0, none⟩ = some (.int .i64 hi) ∧ wr.cell? ⟨w.heap.size, 1, none⟩ = some (.int .i64 lo) ∧ wr.frozen? ⟨w.heap.size, 0, none⟩ = false ∧ wr.frozen? ⟨w.heap.size, 1, none⟩ = false ∧ Below w.heap.size w wr ∧ w.heap.size < wr.heap.size ∧ 0 ≤ lo ∧ lo ≤ k * 4294967295 ∧ -(k * 2147483648) ≤ hi ∧ hi ≤ k * 2147483648 ∧ hi * 4294967296 + lo = (zs.take k).sum) (fun i _ => zs.length - (intOf i).toNat)
  case atStart => exact ⟨0, 0, 0, Nat.zero_le _, rfl, by simp, by simp, by simp, by simp, (Below.refl _ _).alloc (Nat.le_refl _) _, by simp, by omega, by omega, by omega, by omega, by simp⟩
  case round =>
    obtain ⟨k, hi, lo, hk, rfl, hc0, hc1, hf0, hf1, hbel, hsz, hlo1, hlo2, hhi1, hhi2, hS⟩ := hrel
    by_cases hlt : k < zs.length
    · obtain ⟨b, off, ha, hb, hck⟩ := hrow hlt
      subst ha
      have hz := hin k
      have HS := (show Hid _ from take_sum zs k hlt)
      have HT := (show Hid _ from hS)
      generalize hzz : zs[k]?.getD 0 = z at *
      clear hrow hin hS hzz
      have hckr : wr.cell? ⟨b, off + k, none⟩ = some (.int .i64 z) := (hbel.cell (p := ⟨b, off + k, none⟩) hb).trans hck
      have hz' := hz
      obtain ⟨hz1, hz2⟩ := hz'
      clear hck
      go_wp2_with (go_at_call 84; refine (wide0_any _ hz _).mono ?_; rintro e w1 ⟨rfl, hb1⟩; obtain ⟨hc, hf⟩ := bcell hb1; have hc0' := (hc w.heap.size 0 hsz).trans hc0; have hc1' := (hc w.heap.size 1 hsz).trans hc1; have hf0' := (hf w.heap.size 0 hsz).trans hf0; have hf1' := (hf w.heap.size 1 hsz).trans hf1; have hsz1 : w.heap.size < w1.heap.size := Nat.lt_of_lt_of_le hsz hb1.size; clear hc hf hc0 hc1 hf0 hf1 hckr)
      have hbW : Below w.heap.size w w1 := hbel.trans (hb1.mono (by omega))
      have hzd : z / 4294967296 * 4294967296 + z % 4294967296 = z := by omega
      go_roundw
      case rel =>
        refine ⟨k + 1, hi + z / 4294967296, lo + z % 4294967296, by omega, by go_num, by go_simp, by go_simp, by go_simp, by go_simp, ?_, by simp; omega, by omega, by omega, by omega, by omega, ?_⟩
        · exact ((hbW.setCell (by simp) _).setCell (by simp) _).alloc (by simp; omega) _
        · rw [HS.out, ← HT.out]; omega
      case measure => simp [intOf]; omega
    · have hke : k = zs.length := by omega
      subst hke
      have HT : Hid (hi * 4294967296 + lo = zs.sum) := by rw [List.take_length] at hS; exact hS
      clear hS hrow hin
      go_wp2_with (go_at_call 85; refine (fits_any _ _ (by omega) (by omega) (by omega) _).mono ?_; rintro e w1 ⟨rfl, hb1⟩)
      have HE : (hi + lo / 4294967296) * 4294967296 + lo % 4294967296 = zs.sum := by have := HT.out; omega
      go_ret2
      exact ⟨ret2 (by rw [HE]) (by rw [HE]), ((hbel.setCell (by simp) _).setCell (by simp) _).trans (hb1.mono (by simp; omega))⟩
end Go.Proofs.YtlfacpclihmnnaaDoor.Num
namespace Go.Proofs.YtlfacpclihmnnaaDoor.Num
open Go.ChangeShapes Go.WideShapes Go.ChangeAt Go.RowKit
theorem row_two (a b : Int) (ha : In64 a) (hb : In64 b) (w : World) (T : TypeId) : Row (w.alloc (.cells #[.int .i64 a, .int .i64 b] T)) (some ⟨w.heap.size, 0, none⟩) [a, b] := by
  refine ⟨by simp [ha, hb], by simp, Or.inr ⟨_, _, rfl, by simp, ?_⟩⟩
  intro k hk
  match k, hk with
  | 0, _ => simp
  | 1, _ => simp
theorem radd_any (a b : Int) (ha : In64 a) (hb : In64 b) (w : World) :
    Calls Tryd.prog 51 #[.int .i64 a, .int .i64 b] w fun e w' => e = .returned (.tuple #[.int .i64 (resV (a + b)), .int .i64 (resE (a + b))]) ∧ Below w.heap.size w w' := by
  have hs : [a, b].sum = a + b := by simp
  have C := rsum_any [a, b] (some ⟨w.heap.size, 0, none⟩) 2 _ (row_two a b ha hb w 2) (by simp)
  rw [hs] at C
  go_enter Tryd.func51, Tryd.ntmps51
  go_wp2_with (go_at_call 66; refine C.mono ?_; rintro e w1 ⟨rfl, hb1⟩)
  go_ret2
  exact ⟨rfl, ((Below.refl _ _).alloc (Nat.le_refl _) _).trans (hb1.mono (by simp))⟩
theorem rmul_any (a b : Int) (ha : In64 a) (hb : In64 b) (w : World) :
    Calls Tryd.prog 53 #[.int .i64 a, .int .i64 b] w fun e w' => e = .returned (.tuple #[.int .i64 (resV (a * b)), .int .i64 (resE (a * b))]) ∧ Below w.heap.size w w' := by
  have hs : prodL [a, b] = a * b := by simp [prodL]
  have C := rprod_any [a, b] (some ⟨w.heap.size, 0, none⟩) 2 _ (row_two a b ha hb w 2)
  rw [hs] at C
  go_enter Tryd.func53, Tryd.ntmps53
  go_wp2_with (go_at_call 67; refine C.mono ?_; rintro e w1 ⟨rfl, rfl⟩)
  go_ret2
  exact ⟨rfl, ((Below.refl _ _).alloc (Nat.le_refl _) _)⟩
theorem rsub_any (a b : Int) (ha : In64 a) (hb : In64 b) (w : World) :
    Calls Tryd.prog 52 #[.int .i64 a, .int .i64 b] w fun e w' => e = .returned (.tuple #[.int .i64 (resV (a - b)), .int .i64 (resE (a - b))]) ∧ Below w.heap.size w w' := by
  obtain ⟨ha1, ha2⟩ := ha
  obtain ⟨hb1, hb2⟩ := hb
  by_cases h : b = -9223372036854775808
  · subst h
    by_cases h0 : 0 ≤ a
    · have f := fit_out (x := a - -9223372036854775808) (by omega)
      rw [f.1, f.2]
      go_enter Tryd.func52, Tryd.ntmps52
      go_wp2
      go_ret2
      exact ⟨rfl, Below.refl _ _⟩
    · have f := fit_in (x := a - -9223372036854775808) (by omega) (by omega)
      rw [f.1, f.2]
      go_enter Tryd.func52, Tryd.ntmps52
      go_wp2
      go_ret2
      exact ⟨ret2 (by omega) rfl, Below.refl _ _⟩
  · have hs : [a, -b].sum = a - b := by simp; omega
    have t : (b == -9223372036854775808) = false := by simpa using h
    have C := rsum_any [a, -b] (some ⟨w.heap.size, 0, none⟩) 2 _ (row_two a (-b) ⟨by omega, by omega⟩ ⟨by omega, by omega⟩ w 2) (by simp)
    rw [hs] at C
    go_enter Tryd.func52, Tryd.ntmps52
    go_wp2_with (go_at_call 66; refine C.mono ?_; rintro e w1 ⟨rfl, hb1⟩)
    go_ret2
    exact ⟨rfl, ((Below.refl _ _).alloc (Nat.le_refl _) _).trans (hb1.mono (by simp))⟩
end Go.Proofs.YtlfacpclihmnnaaDoor.Num
namespace Go.Proofs.YtlfacpclihmnnaaDoor
open Go.ChangeShapes Go.WideShapes Go.ChangeAt Go.RowKit
theorem inAxes_iff (l at' : List Int) : inAxes l at' ↔ at'.length = l.length ∧ ∀ i, i < l.length → 0 ≤ at'[i]?.getD 0 ∧ at'[i]?.getD 0 < l[i]?.getD 0 := by
  induction l generalizing at' with
  | nil => cases at' <;> simp [inAxes]
  | cons s ss ih =>
    cases at' with
    | nil => simp [inAxes]
    | cons a ms =>
      simp only [inAxes, ih, List.length_cons]
      constructor
      · rintro ⟨h1, h2, h3⟩
        refine ⟨by omega, ?_⟩
        intro i hi
        cases i with
        | zero => simpa using h1
        | succ i => simpa using h3 i (by omega)
      · rintro ⟨h1, h2⟩
        refine ⟨by simpa using h2 0 (by omega), by omega, ?_⟩
        intro i hi
        simpa using h2 (i + 1) (by omega)
noncomputable instance (l at' : List Int) : Decidable (inAxes l at') := Classical.propDecidable _
theorem place_snoc (l m : List Int) (s a : Int) (h : l.length = m.length) : place (l ++ [s]) (m ++ [a]) = place l m * s + a := by
  induction l generalizing m with
  | nil =>
    cases m with
    | nil => simp [place, prodL]
    | cons y m => simp at h
  | cons x l ih =>
    cases m with
    | nil => simp at h
    | cons y m =>
      simp only [List.cons_append, place, prodL_append, ih m (by simpa using h), prodL]
      rw [Int.add_mul, Int.mul_one, Int.mul_assoc]
      omega
theorem place_take (l m : List Int) (h : m.length = l.length) (j : Nat) (hj : j < l.length) : place (l.take (j + 1)) (m.take (j + 1)) = place (l.take j) (m.take j) * l[j]?.getD 0 + m[j]?.getD 0 := by
  rw [List.take_succ_eq_append_getElem hj, List.take_succ_eq_append_getElem (l := m) (by omega), place_snoc _ _ _ _ (by simp; omega)]
  simp [hj, h]
theorem inAxes_take {l m : List Int} (h : m.length = l.length) {j : Nat} (hj : j ≤ l.length) (hi : ∀ i, i < j → 0 ≤ m[i]?.getD 0 ∧ m[i]?.getD 0 < l[i]?.getD 0) : inAxes (l.take j) (m.take j) := by
  rw [inAxes_iff]
  refine ⟨by simp; omega, ?_⟩
  intro i hi'
  have : i < j := by simp at hi'; omega
  simpa [this] using hi i this
/-- Place's answer. -/
noncomputable def plcV (l m : List Int) : Int := if sizeE l = 0 ∧ inAxes l m then place l m else 0
noncomputable def plcE (l m : List Int) : Int := if sizeE l ≠ 0 then sizeE l else if m.length ≠ l.length then 6 else if inAxes l m then 0 else 8
theorem sizeE_ok {l : List Int} (h : sizeE l = 0) : ¬ 8 < l.length ∧ ¬ hasNeg l ∧ (hasZero l ∨ (¬ hasZero l ∧ prodL l ≤ 16384)) := by
  unfold sizeE at h
  by_cases h8 : 8 < l.length
  · simp [h8] at h
  · by_cases hn : hasNeg l
    · simp [h8, hn] at h
    · by_cases hz : hasZero l
      · exact ⟨h8, hn, Or.inl hz⟩
      · by_cases hm : 16384 < prodL l
        · simp [h8, hn, hz, hm] at h
        · exact ⟨h8, hn, Or.inr ⟨hz, by omega⟩⟩
theorem place_facts {l m : List Int} (hs : sizeE l = 0) (h : m.length = l.length) (hz : ¬ hasZero l) {j : Nat} (hj : j < l.length) (hi : ∀ i, i < j → 0 ≤ m[i]?.getD 0 ∧ m[i]?.getD 0 < l[i]?.getD 0) (h1 : 0 ≤ m[j]?.getD 0) (h2 : m[j]?.getD 0 < l[j]?.getD 0) :
    0 ≤ place (l.take j) (m.take j) ∧ place (l.take j) (m.take j) ≤ 16384 ∧ l[j]?.getD 0 ≤ 16384 ∧ 0 ≤ place (l.take j) (m.take j) * l[j]?.getD 0 ∧ place (l.take j) (m.take j) * l[j]?.getD 0 ≤ 268435456 := by
  obtain ⟨_, hn, h3⟩ := sizeE_ok hs
  have hp := all_pos hn hz
  rcases h3 with h3 | ⟨_, h3⟩
  · exact absurd h3 hz
  · obtain ⟨_, b2, b3, _⟩ := place_bound (inAxes_take h (Nat.le_of_lt hj) hi)
    have b4 := prodL_take_le hp j
    have b5 := prod_of_mem hp (getD_mem hj)
    have b6 := Int.mul_nonneg (a := place (l.take j) (m.take j)) (b := l[j]?.getD 0) b2 (by omega)
    have b7 := Int.mul_le_mul (a := place (l.take j) (m.take j)) (b := l[j]?.getD 0) (c := 16384) (d := 16384) (by omega) (by omega) (by omega) (by omega)
    exact ⟨b2, by omega, by omega, b6, by omega⟩
theorem plc_out {l m : List Int} (hs : sizeE l = 0) (h : m.length = l.length) {j : Nat} (hj : j < l.length) (ho : m[j]?.getD 0 < 0 ∨ l[j]?.getD 0 ≤ m[j]?.getD 0) : plcV l m = 0 ∧ plcE l m = 8 := by
  have : ¬ inAxes l m := by
    intro hx
    have := ((inAxes_iff l m).1 hx).2 j hj
    omega
  simp [plcV, plcE, hs, h, this]
theorem plc_in {l m : List Int} (hs : sizeE l = 0) (h : m.length = l.length) (hi : ∀ i, i < l.length → 0 ≤ m[i]?.getD 0 ∧ m[i]?.getD 0 < l[i]?.getD 0) : plcV l m = place l m ∧ plcE l m = 0 ∧ ¬ hasZero l := by
  have : inAxes l m := (inAxes_iff l m).2 ⟨h, hi⟩
  refine ⟨by simp [plcV, hs, this], by simp [plcE, hs, h, this], ?_⟩
  rintro ⟨z, hz, rfl⟩
  obtain ⟨k, hk, e⟩ := mem_getD hz
  have := hi k hk
  omega
theorem plc_len {l m : List Int} (hs : sizeE l = 0) (h : ¬ m.length = l.length) : plcV l m = 0 ∧ plcE l m = 6 := by
  refine ⟨?_, by simp [plcE, hs, h]⟩
  unfold plcV
  rw [if_neg]
  rintro ⟨_, hx⟩
  exact h ((inAxes_iff l m).1 hx).1
theorem plc_bad {l m : List Int} (hs : ¬ sizeE l = 0) : plcV l m = 0 ∧ plcE l m = sizeE l := ⟨by simp [plcV, hs], by simp [plcE, hs]⟩
end Go.Proofs.YtlfacpclihmnnaaDoor
namespace Go.Proofs.YtlfacpclihmnnaaDoor
open Go.ChangeShapes Go.WideShapes Go.ChangeAt Go.RowKit
theorem wrapId {x : Int} (h1 : -9223372036854775808 ≤ x) (h2 : x ≤ 9223372036854775807) : wrap64 x = x := by unfold wrap64; omega
theorem drewN_below {B : Nat} {w wr : World} (h : Below B w wr) (m : Nat) : Below B w (wr.drewN m) := ⟨h.os, h.tape, h.output, h.size, h.block⟩
set_option maxHeartbeats 1000000 in
theorem rplace_any {lo lo' : Nat} (l m : List Int) (a a' : Option Addr) (cap cap' : Nat) (w : World) (R : Row lo w a l) (R' : Row lo' w a' m) :
    Calls Tryd.prog 43 #[.slice a l.length cap, .slice a' m.length cap'] w fun e w' => e = .returned (.tuple #[.int .i64 (plcV l m), .int .i64 (plcE l m)]) ∧ Below w.heap.size w w' := by
  have C := rsize_any l a cap w R
  have hrow := @row_at _ _ _ _ R
  have hrow' := @row_at _ _ _ _ R'
  have hl := R.1
  have hl' := R'.1
  clear R R'
  by_cases hs : sizeE l = 0
  · by_cases h : m.length = l.length
    · have FO : Hid (∀ j, j < l.length → m[j]?.getD 0 < 0 ∨ l[j]?.getD 0 ≤ m[j]?.getD 0 → plcV l m = 0 ∧ plcE l m = 8) := fun j hj ho => plc_out hs h hj ho
      have FI : Hid ((∀ i, i < l.length → 0 ≤ m[i]?.getD 0 ∧ m[i]?.getD 0 < l[i]?.getD 0) → plcV l m = place l m ∧ plcE l m = 0 ∧ ¬ hasZero l) := fun hi => plc_in hs h hi
      have FB : Hid (¬ hasZero l → ∀ j, j < l.length → (∀ i, i < j → 0 ≤ m[i]?.getD 0 ∧ m[i]?.getD 0 < l[i]?.getD 0) → 0 ≤ m[j]?.getD 0 → m[j]?.getD 0 < l[j]?.getD 0 → 0 ≤ place (l.take j) (m.take j) ∧ place (l.take j) (m.take j) ≤ 16384 ∧ l[j]?.getD 0 ≤ 16384 ∧ 0 ≤ place (l.take j) (m.take j) * l[j]?.getD 0 ∧ place (l.take j) (m.take j) * l[j]?.getD 0 ≤ 268435456) := fun hz j hj hi h1 h2 => place_facts hs h hz hj hi h1 h2
      have FS : Hid (∀ j, j < l.length → place (l.take (j + 1)) (m.take (j + 1)) = place (l.take j) (m.take j) * l[j]?.getD 0 + m[j]?.getD 0) := fun j hj => place_take l m h j hj
      rw [hs] at C
      generalize plcV l m = V at FO FI
      generalize plcE l m = E at FO FI
      clear hs
      generalize sizeV l = S at C
      have hm0 : Hid (m.length = l.length) := h
      rw [h]
      clear h
      go_enter Tryd.func43, Tryd.ntmps43
      go_wp2_with (go_at_call 36; refine C.mono ?_; rintro e w' ⟨rfl, hw⟩; rw [hw])
      clear C
      go_loopw [8, 9] (fun x i wr => ∃ j : Nat, ∃ z : Int, j ≤ l.length ∧ i = .int .i64 j ∧ x = .int .i64 z ∧ Below w.heap.size w wr ∧ (¬ hasZero l → z = place (l.take j) (m.take j)) ∧ (∀ i, i < j → 0 ≤ m[i]?.getD 0 ∧ m[i]?.getD 0 < l[i]?.getD 0)) (fun _ i _ => l.length - (intOf i).toNat)
      case atStart => exact ⟨0, 0, Nat.zero_le _, rfl, rfl, Below.refl _ _, by simp [place], by simp⟩
      case round =>
        obtain ⟨j, z, hj, rfl, rfl, hnx, g1, g2⟩ := hrel
        have G : Hid ((¬ hasZero l → z = place (l.take j) (m.take j)) ∧ (∀ i, i < j → 0 ≤ m[i]?.getD 0 ∧ m[i]?.getD 0 < l[i]?.getD 0)) := ⟨g1, g2⟩
        clear g1 g2
        by_cases hlt : j < l.length
        · obtain ⟨b, off, ha, hb, hck⟩ := hrow hlt
          obtain ⟨b', off', ha', hb', hck'⟩ := hrow' (j := j) (by rw [hm0.out]; exact hlt)
          subst ha
          subst ha'
          have hc1 : wr.cell? ⟨b, off + j, none⟩ = some (.int .i64 (l[j]?.getD 0)) := (hnx.cell (p := ⟨b, off + j, none⟩) hb).trans hck
          have hc2 : wr.cell? ⟨b', off' + j, none⟩ = some (.int .i64 (m[j]?.getD 0)) := (hnx.cell (p := ⟨b', off' + j, none⟩) hb').trans hck'
          obtain ⟨s, hs⟩ : ∃ s, l[j]?.getD 0 = s := ⟨_, rfl⟩
          obtain ⟨t, ht⟩ : ∃ t, m[j]?.getD 0 = t := ⟨_, rfl⟩
          have HS : Hid (l[j]?.getD 0 = s ∧ m[j]?.getD 0 = t) := ⟨hs, ht⟩
          rw [hs] at hc1
          rw [ht] at hc2
          clear hrow hrow' hs ht hck hck'
          by_cases ho : t < 0 ∨ s ≤ t
          · have fm : Hid (V = 0 ∧ E = 8) := FO.out j hlt (by rw [HS.out.1, HS.out.2]; exact ho)
            by_cases ht0 : t < 0
            · have hd : decide (t < 0) = true := decide_eq_true ht0
              clear ho
              go_wp2
              go_quiet (fail)
              go_wp2
              go_ret2
              exact ⟨retII ⟨fm.out.1.symm, fm.out.2.symm⟩, drewN_below hnx _⟩
            · have hd : decide (t < 0) = false := decide_eq_false ht0
              have hd2 : s ≤ t := by omega
              clear ho
              go_wp2
              go_quiet (fail)
              go_wp2
              go_ret2
              exact ⟨retII ⟨fm.out.1.symm, fm.out.2.symm⟩, drewN_below hnx _⟩
          · have ht0 : ¬ t < 0 := by omega
            have hts : ¬ s ≤ t := by omega
            have GN : Hid (∀ i, i < j + 1 → 0 ≤ m[i]?.getD 0 ∧ m[i]?.getD 0 < l[i]?.getD 0) := by
              intro i hi
              rcases Nat.lt_succ_iff_lt_or_eq.1 hi with h | rfl
              · exact G.out.2 i h
              · rw [HS.out.1, HS.out.2]; omega
            have HZ : Hid (¬ hasZero l → wrap64 (wrap64 (z * s) + t) = place (l.take (j + 1)) (m.take (j + 1))) := by
              intro hz
              have hzz := G.out.1 hz
              obtain ⟨f1, f2, f3, f4, f5⟩ := FB.out hz j hlt G.out.2 (by rw [HS.out.2]; omega) (by rw [HS.out.1, HS.out.2]; omega)
              rw [← hzz, HS.out.1] at f4 f5
              rw [HS.out.1] at f3
              rw [FS.out j hlt, ← hzz, HS.out.1, HS.out.2, wrapId (x := z * s) (by omega) (by omega), wrapId (by omega) (by omega)]
            clear ho
            have hd : decide (t < 0) = false := decide_eq_false ht0
            go_wp2
            go_quiet (fail)
            go_wp2
            go_quiet (fail)
            go_wp2
            go_roundw
            case rel => exact ⟨j + 1, _, by omega, by go_num, rfl, drewN_below hnx _, HZ.out, GN.out⟩
            case measure => simp [intOf]; omega
        · have hje : j = l.length := by omega
          subst hje
          have fi := FI.out G.out.2
          have hz := G.out.1 fi.2.2
          rw [List.take_length, ← hm0.out, List.take_length] at hz
          have fo : Hid (V = z ∧ E = 0) := ⟨by rw [hz, fi.1], fi.2.1⟩
          clear fi hz
          go_wp2
          go_ret2
          exact ⟨retII ⟨fo.out.1.symm, fo.out.2.symm⟩, hnx⟩
    · rw [(plc_len hs h).1, (plc_len hs h).2]
      rw [hs] at C
      clear hs
      have h' : ¬ (m.length : Int) = (l.length : Int) := by omega
      go_enter Tryd.func43, Tryd.ntmps43
      go_wp2_with (go_at_call 36; refine C.mono ?_; rintro e w' ⟨rfl, hw⟩; rw [hw])
      go_ret2
      exact ⟨rfl, Below.refl _ _⟩
  · rw [(plc_bad hs).1, (plc_bad hs).2]
    generalize sizeE l = E at C hs
    go_enter Tryd.func43, Tryd.ntmps43
    go_wp2_with (go_at_call 36; refine C.mono ?_; rintro e w' ⟨rfl, hw⟩; rw [hw])
    go_ret2
    exact ⟨rfl, Below.refl _ _⟩
theorem int3 : (Tryd.prog.info? 3).map (fun i => (i.zero, i.size, i.bytes)) = some (some (.int .i64 0), 1, 8) := by kernel_rfl
/-- Places' answer. -/
def PlacesIs (l : List Int) (n : Int) (w : World) (e : Ending) (w' : World) : Prop :=
  Below w.heap.size w w' ∧ (sizeE l ≠ 0 → e = .returned (.tuple #[.slice none 0 0, .int .i64 (sizeE l)])) ∧
  (sizeE l = 0 → ¬ (0 ≤ n ∧ n < sizeV l) → e = .returned (.tuple #[.slice none 0 0, .int .i64 8])) ∧
  (sizeE l = 0 → 0 ≤ n → n < sizeV l → ∃ b, e = .returned (.tuple #[.slice (some ⟨b, 0, none⟩) l.length l.length, .int .i64 0]) ∧ Row w.heap.size w' (some ⟨b, 0, none⟩) (digits l n) ∧ (∀ z ∈ l, 0 < z) ∧ n < prodL l)
theorem sizeV_in {l : List Int} {n : Int} (hs : sizeE l = 0) (h0 : 0 ≤ n) (h1 : n < sizeV l) : ¬ 8 < l.length ∧ (∀ z ∈ l, 0 < z) ∧ sizeV l = prodL l ∧ prodL l ≤ 16384 := by
  obtain ⟨a, b, c⟩ := sizeE_ok hs
  rcases c with c | ⟨c, d⟩
  · rw [(size_zero a b c).1] at h1
    omega
  · exact ⟨a, all_pos b c, (size_ok a b c (by omega)).1, d⟩
/-- Digit i of the places. -/
theorem digits_get (l : List Int) (hp : ∀ z ∈ l, 0 < z) (n : Int) (i : Nat) (hi : i < l.length) : (digits l n)[i]?.getD 0 = n % prodL (l.drop i) / prodL (l.drop (i + 1)) ∨ i = 0 := by
  induction l generalizing n i with
  | nil => simp at hi
  | cons s ss ih =>
    cases i with
    | zero => exact Or.inr rfl
    | succ i =>
      left
      have hp' : ∀ z ∈ ss, 0 < z := fun z hz => hp z (List.mem_cons_of_mem _ hz)
      simp only [digits, List.getElem?_cons_succ, List.drop_succ_cons]
      have hi' : i < ss.length := by simpa using hi
      rcases ih hp' (n % prodL ss) i hi' with h | h
      · rw [h]
        have e : prodL ss = prodL (ss.take i) * prodL (ss.drop i) := by rw [← prodL_append, List.take_append_drop]
        have : n % prodL ss % prodL (ss.drop i) = n % prodL (ss.drop i) := by
          rw [e]
          exact Int.emod_emod_of_dvd n ⟨prodL (ss.take i), Int.mul_comm _ _⟩
        rw [this]
      · subst h
        cases ss with
        | nil => simp at hi'
        | cons x xs => simp [digits]
theorem digit_ref (l : List Int) (hp : ∀ z ∈ l, 0 < z) (n : Int) (h0 : 0 ≤ n) (h1 : n < prodL l) (i : Nat) (hi : i < l.length) : (digits l n)[i]?.getD 0 = n % prodL (l.drop i) / prodL (l.drop (i + 1)) := by
  rcases digits_get l hp n i hi with h | h
  · exact h
  · subst h
    cases l with
    | nil => simp at hi
    | cons x xs =>
      simp only [digits, List.drop_zero, List.drop_succ_cons, Int.emod_eq_of_lt h0 h1]
      simp
theorem prodL_drop (l : List Int) (i : Nat) (hi : i < l.length) : prodL (l.drop i) = l[i]?.getD 0 * prodL (l.drop (i + 1)) := by
  rw [List.drop_eq_getElem_cons hi]
  simp [prodL, hi]
theorem mod_div (n s p : Int) (hs : 0 < s) (hp : 0 < p) (h0 : 0 ≤ n) : n % (s * p) / p = n / p % s := by
  obtain ⟨n', rfl⟩ := Int.eq_ofNat_of_zero_le h0
  obtain ⟨s', rfl⟩ := Int.eq_ofNat_of_zero_le (Int.le_of_lt hs)
  obtain ⟨p', rfl⟩ := Int.eq_ofNat_of_zero_le (Int.le_of_lt hp)
  have := Nat.mod_mul_right_div_self n' p' s'
  rw [Nat.mul_comm] at this
  exact_mod_cast this
theorem digit_own (l : List Int) (hp : ∀ z ∈ l, 0 < z) (n : Int) (h0 : 0 ≤ n) (h1 : n < prodL l) (i : Nat) (hi : i < l.length) : (digits l n)[i]?.getD 0 = n / prodL (l.drop (i + 1)) % l[i]?.getD 0 := by
  rw [digit_ref l hp n h0 h1 i hi, prodL_drop l i hi, mod_div n _ _ (hp _ (getD_mem hi)) (by have := prodL_pos (l := l.drop (i + 1)) fun z hz => hp z (List.mem_of_mem_drop hz); omega) h0]
theorem row_made {w : World} {b : Nat} {t : TypeId} {n : Nat} {f : Nat → Value} {zs : List Int} {lo : Nat} (h : w.rowIs b t n f) (hl : zs.length = n) (hlo : lo ≤ b) (hm : n ≤ 140737488355328) (hf : ∀ i, i < n → f i = .int .i64 (zs[i]?.getD 0)) : Row lo w (some ⟨b, 0, none⟩) zs := by
  refine ⟨by omega, Or.inr ⟨b, 0, rfl, hlo, h.lt, ?_⟩⟩
  intro i hi
  rw [Nat.zero_add, h.cell (by omega), hf i (by omega)]
end Go.Proofs.YtlfacpclihmnnaaDoor
namespace Go.Proofs.YtlfacpclihmnnaaDoor
open Go.ChangeShapes Go.WideShapes Go.ChangeAt Go.RowKit
set_option linter.unusedVariables false
theorem cell_new (w : World) (cs : Array Value) (t : TypeId) (fr : Nat × Nat) (i : Nat) (v : Value) (h : cs[i]? = some v) : (w.alloc (.cells cs t fr)).cell? ⟨w.heap.size, i, none⟩ = some v := by
  have : (w.alloc (.cells cs t fr)).heap[w.heap.size]? = some (.cells cs t fr) := by
    show (w.heap.push _)[w.heap.size]? = _
    simp
  unfold World.cell?
  simp only [this, h]
  rfl
theorem cell_new1 (w : World) (cs : Array Value) (t : TypeId) (fr : Nat × Nat) (o2 : Obj) (i : Nat) (v : Value) (h : cs[i]? = some v) : ((w.alloc (.cells cs t fr)).alloc o2).cell? ⟨w.heap.size, i, none⟩ = some v :=
  (((Below.refl _ _).alloc (Nat.le_refl _) o2).cell (p := ⟨w.heap.size, i, none⟩) (by simp)).trans (cell_new w cs t fr i v h)
theorem cell_new2 (w : World) (cs : Array Value) (t : TypeId) (fr : Nat × Nat) (o1 : Obj) (i : Nat) (v : Value) (h : cs[i]? = some v) : ((w.alloc o1).alloc (.cells cs t fr)).cell? ⟨w.heap.size + 1, i, none⟩ = some v := by
  have := cell_new (w.alloc o1) cs t fr i v h
  simpa using this
theorem size_two (w : World) (o1 o2 : Obj) : ((w.alloc o1).alloc o2).heap.size = w.heap.size + 2 := by simp
end Go.Proofs.YtlfacpclihmnnaaDoor
namespace Go.Proofs.YtlfacpclihmnnaaDoor
open Go.ChangeShapes Go.WideShapes Go.ChangeAt Go.RowKit
theorem nan_any (a : Int) (w : World) : Calls Tryd.prog 104 #[.int .i64 a] w fun e w' => e = .returned (.bool false) ∧ w' = w := by
  go_enter Tryd.func104, Tryd.ntmps104
  go_wp2
  go_ret
  exact ⟨rfl, rfl⟩
theorem nan64_any (a : Int) (w : World) : Calls Tryd.prog 105 #[.int .i64 a] w fun e w' => e = .returned (.bool false) ∧ w' = w := by
  go_enter Tryd.func105, Tryd.ntmps105
  go_wp2
  go_ret
  exact ⟨rfl, rfl⟩
set_option maxHeartbeats 1000000 in
theorem compare_any (a b : Int) (w : World) : Calls Tryd.prog 99 #[.int .i64 a, .int .i64 b] w fun e w' => e = .returned (.int .i64 (cmp3 a b)) ∧ w' = w := by
  have e1 : a < b → cmp3 a b = -1 := fun h => by simp [cmp3, h]
  have e2 : b < a → cmp3 a b = 1 := fun h => by simp [cmp3, h, Int.not_lt.2 (Int.le_of_lt h)]
  have e3 : ¬ a < b → ¬ b < a → cmp3 a b = 0 := fun h h' => by simp [cmp3, h, h']
  by_cases h1 : a < b
  · rw [e1 h1]
    go_enter Tryd.func99, Tryd.ntmps99
    go_wp2_with (go_at_call 104; refine (nan_any _ _).mono ?_; rintro e w' ⟨rfl, hw⟩; rw [hw])
    go_ret
    exact ⟨rfl, rfl⟩
  · by_cases h2 : b < a
    · rw [e2 h2]
      go_enter Tryd.func99, Tryd.ntmps99
      go_wp2_with (go_at_call 104; refine (nan_any _ _).mono ?_; rintro e w' ⟨rfl, hw⟩; rw [hw])
      go_ret
      exact ⟨rfl, rfl⟩
    · rw [e3 h1 h2]
      go_enter Tryd.func99, Tryd.ntmps99
      go_wp2_with (go_at_call 104; refine (nan_any _ _).mono ?_; rintro e w' ⟨rfl, hw⟩; rw [hw])
      go_ret
      exact ⟨rfl, rfl⟩
set_option maxHeartbeats 1000000 in
theorem compare64_any (a b : Int) (w : World) : Calls Tryd.prog 100 #[.int .i64 a, .int .i64 b] w fun e w' => e = .returned (.int .i64 (cmp3 a b)) ∧ w' = w := by
  have e1 : a < b → cmp3 a b = -1 := fun h => by simp [cmp3, h]
  have e2 : b < a → cmp3 a b = 1 := fun h => by simp [cmp3, h, Int.not_lt.2 (Int.le_of_lt h)]
  have e3 : ¬ a < b → ¬ b < a → cmp3 a b = 0 := fun h h' => by simp [cmp3, h, h']
  by_cases h1 : a < b
  · rw [e1 h1]
    go_enter Tryd.func100, Tryd.ntmps100
    go_wp2_with (go_at_call 105; refine (nan64_any _ _).mono ?_; rintro e w' ⟨rfl, hw⟩; rw [hw])
    go_ret
    exact ⟨rfl, rfl⟩
  · by_cases h2 : b < a
    · rw [e2 h2]
      go_enter Tryd.func100, Tryd.ntmps100
      go_wp2_with (go_at_call 105; refine (nan64_any _ _).mono ?_; rintro e w' ⟨rfl, hw⟩; rw [hw])
      go_ret
      exact ⟨rfl, rfl⟩
    · rw [e3 h1 h2]
      go_enter Tryd.func100, Tryd.ntmps100
      go_wp2_with (go_at_call 105; refine (nan64_any _ _).mono ?_; rintro e w' ⟨rfl, hw⟩; rw [hw])
      go_ret
      exact ⟨rfl, rfl⟩
set_option maxHeartbeats 1000000 in
theorem ref_ints (a b : Int) (w : World) : Calls Tryd.prog 48 #[.int .i64 a, .int .i64 b] w fun e w' => e = .returned (.int .i64 (cmp3 a b)) ∧ w' = w := by
  have e1 : a < b → cmp3 a b = -1 := fun h => by simp [cmp3, h]
  have e2 : b < a → cmp3 a b = 1 := fun h => by simp [cmp3, h, Int.not_lt.2 (Int.le_of_lt h)]
  have e3 : ¬ a < b → ¬ b < a → cmp3 a b = 0 := fun h h' => by simp [cmp3, h, h']
  by_cases h1 : a < b
  · rw [e1 h1]
    go_enter Tryd.func48, Tryd.ntmps48
    go_wp2
    go_ret
    exact ⟨rfl, rfl⟩
  · by_cases h2 : b < a
    · rw [e2 h2]
      go_enter Tryd.func48, Tryd.ntmps48
      go_wp2
      go_ret
      exact ⟨rfl, rfl⟩
    · rw [e3 h1 h2]
      go_enter Tryd.func48, Tryd.ntmps48
      go_wp2
      go_ret
      exact ⟨rfl, rfl⟩
end Go.Proofs.YtlfacpclihmnnaaDoor
namespace Go.Proofs.YtlfacpclihmnnaaDoor
open Go.ChangeShapes Go.WideShapes Go.ChangeAt Go.RowKit
set_option linter.unusedVariables false
set_option maxHeartbeats 1000000 in
theorem rcell_any (n : Nat) (IH : CmpC 40 n) (c d : Ce) (lo lo' : Nat) (w : World) (v0 v1 v2 u0 u1 u2 : Value) (hc : CeIn (ArIn n lo w) lo w c v0 v1 v2) (hd : CeIn (ArIn n lo' w) lo' w d u0 u1 u2) :
    Calls Tryd.prog 20 #[.agg #[v0, v1, v2], .agg #[u0, u1, u2]] w fun e w' => e = .returned (.int .i64 (cmpC (cmpA n) c d)) ∧ Below w.heap.size w w' := by
  obtain ⟨rfl, rfl, a, cap, rfl, hl, hx⟩ := hc
  obtain ⟨rfl, rfl, a', cap', rfl, hl', hx'⟩ := hd
  obtain ⟨k, N, box⟩ := c
  obtain ⟨k', N', box'⟩ := d
  simp only at hl hl' hx hx' ⊢
  have K1 : Hid (cmp3 k k' ≠ 0 → cmpC (cmpA n) (k, N, box) (k', N', box') = cmp3 k k') := fun h => by simp [cmpC, h]
  have K2 : Hid (¬ cmp3 k k' ≠ 0 → cmp3 N N' ≠ 0 → cmpC (cmpA n) (k, N, box) (k', N', box') = cmp3 N N') := fun h h' => by simp [cmpC, h, h']
  have K3 : Hid (¬ cmp3 k k' ≠ 0 → ¬ cmp3 N N' ≠ 0 → 0 < box.length ∧ 0 < box'.length → cmpC (cmpA n) (k, N, box) (k', N', box') = cmpA n (bAt box 0) (bAt box' 0)) := fun h h' h'' => by
    unfold cmpC; rw [if_neg h, if_neg h', if_pos h'']
  have K4 : Hid (¬ cmp3 k k' ≠ 0 → ¬ cmp3 N N' ≠ 0 → ¬ (0 < box.length ∧ 0 < box'.length) → cmpC (cmpA n) (k, N, box) (k', N', box') = cmp3 box.length box'.length) := fun h h' h'' => by
    unfold cmpC; rw [if_neg h, if_neg h', if_neg h'']
  generalize cmpC (cmpA n) (k, N, box) (k', N', box') = r at K1 K2 K3 K4
  by_cases h1 : cmp3 k k' ≠ 0
  · have hr : Hid (r = cmp3 k k') := K1.out h1
    clear K1 K2 K3 K4 hx hx'
    generalize box.length = B1
    generalize box'.length = B2
    go_enter Tryd.func20, Tryd.ntmps20
    go_wp2_with fail
    refine (ref_ints _ _ _).mono ?_
    rintro e w1 ⟨rfl, hw⟩
    rw [hw]
    clear hw
    go_wp2
    go_ret
    exact ⟨retI hr.out.symm, two_allocs _ _ _⟩
  · have H1 : Hid (¬ cmp3 k k' ≠ 0) := h1
    have z1 : cmp3 k k' = 0 := by simpa using h1
    clear h1 K1
    by_cases h2 : cmp3 N N' ≠ 0
    · have hr : Hid (r = cmp3 N N') := K2.out H1.out h2
      clear K2 K3 K4 hx hx'
      generalize box.length = B1
      generalize box'.length = B2
      go_enter Tryd.func20, Tryd.ntmps20
      go_wp2_with fail
      refine (ref_ints _ _ _).mono ?_
      rintro e w1 ⟨rfl, hw⟩
      rw [hw, z1]
      clear hw
      go_wp2_with fail
      refine (ref_ints _ _ _).mono ?_
      rintro e w1 ⟨rfl, hw⟩
      rw [hw]
      clear hw
      go_wp2
      go_ret
      exact ⟨retI hr.out.symm, two_allocs _ _ _⟩
    · have H2 : Hid (¬ cmp3 N N' ≠ 0) := h2
      have z2 : cmp3 N N' = 0 := by simpa using h2
      clear h2 K2
      by_cases h3 : 0 < box.length ∧ 0 < box'.length
      · have hr : Hid (r = cmpA n (bAt box 0) (bAt box' 0)) := K3.out H1.out H2.out h3
        rcases hx with hx | ⟨b, off, rfl, hlo, hb, hx⟩
        · rw [hx] at h3; simp at h3
        rcases hx' with hx' | ⟨b', off', rfl, hlo', hb', hx'⟩
        · rw [hx'] at h3; simp at h3
        obtain ⟨s0, s1, e0, e1, e2⟩ := hx 0 h3.1
        obtain ⟨t0, t1, f0, f1, f2⟩ := hx' 0 h3.2
        simp only [Nat.zero_mul, Nat.add_zero] at e0 e1 f0 f1
        have g0 := cell_two e0 hb
        have g1 := cell_two e1 hb
        have j0 := cell_two f0 hb'
        have j1 := cell_two f1 hb'
        obtain ⟨h3a, h3b⟩ := h3
        have HX : Hid (Calls Tryd.prog 40 #[.agg #[s0, s1], .agg #[t0, t1]] ((w.alloc (.cells #[.int .i64 k, .int .i64 N, .slice (some ⟨b, off, none⟩) box.length cap] 43)).alloc (.cells #[.int .i64 k', .int .i64 N', .slice (some ⟨b', off', none⟩) box'.length cap'] 43)).drew fun e w' => e = .returned (.int .i64 r) ∧ Below w.heap.size w w') := by
          have hbel := (two_allocs w (.cells #[.int .i64 k, .int .i64 N, .slice (some ⟨b, off, none⟩) box.length cap] 43) (.cells #[.int .i64 k', .int .i64 N', .slice (some ⟨b', off', none⟩) box'.length cap'] 43)).drew
          refine (IH _ _ lo lo' _ _ _ (e2.next hbel) (f2.next hbel)).mono ?_
          rintro e w1 ⟨rfl, hb1⟩
          exact ⟨retI hr.out.symm, hbel.trans (hb1.mono hbel.size)⟩
        clear K3 K4 hx hx' IH e2 f2 e0 e1 f0 f1 hr H1 H2
        generalize box.length = B1 at h3a hl HX
        generalize box'.length = B2 at h3b hl' HX
        go_enter Tryd.func20, Tryd.ntmps20
        go_wp2_with fail
        refine (ref_ints _ _ _).mono ?_
        rintro e w1 ⟨rfl, hw⟩
        rw [hw, z1]
        clear hw
        go_wp2_with fail
        refine (ref_ints _ _ _).mono ?_
        rintro e w1 ⟨rfl, hw⟩
        rw [hw, z2]
        clear hw z1 z2
        go_wp2
        go_region_with (go_at_call 40; refine HX.out.mono ?_; rintro e w1 ⟨rfl, hb1⟩)
        all_goals go_wp2
        all_goals go_ret
        all_goals exact ⟨rfl, hb1⟩
      · have hr : Hid (r = cmp3 box.length box'.length) := K4.out H1.out H2.out h3
        clear K3 K4 hx hx' IH H1 H2
        generalize box.length = B1 at h3 hl hr
        generalize box'.length = B2 at h3 hl' hr
        by_cases h4 : 0 < B1
        · have h5 : B2 = 0 := by omega
          subst h5
          clear h3
          go_enter Tryd.func20, Tryd.ntmps20
          go_wp2_with fail
          refine (ref_ints _ _ _).mono ?_
          rintro e w1 ⟨rfl, hw⟩
          rw [hw, z1]
          clear hw
          go_wp2_with fail
          refine (ref_ints _ _ _).mono ?_
          rintro e w1 ⟨rfl, hw⟩
          rw [hw, z2]
          clear hw z1 z2
          go_wp2_with fail
          refine (ref_ints _ _ _).mono ?_
          rintro e w1 ⟨rfl, hw⟩
          rw [hw]
          clear hw
          go_wp2
          go_ret
          exact ⟨retI hr.out.symm, two_allocs _ _ _⟩
        · have h5 : B1 = 0 := by omega
          subst h5
          clear h3 h4
          go_enter Tryd.func20, Tryd.ntmps20
          go_wp2_with fail
          refine (ref_ints _ _ _).mono ?_
          rintro e w1 ⟨rfl, hw⟩
          rw [hw, z1]
          clear hw
          go_wp2_with fail
          refine (ref_ints _ _ _).mono ?_
          rintro e w1 ⟨rfl, hw⟩
          rw [hw, z2]
          clear hw z1 z2
          go_wp2_with fail
          refine (ref_ints _ _ _).mono ?_
          rintro e w1 ⟨rfl, hw⟩
          rw [hw]
          clear hw
          go_wp2
          go_ret
          exact ⟨retI hr.out.symm, two_allocs _ _ _⟩
end Go.Proofs.YtlfacpclihmnnaaDoor
