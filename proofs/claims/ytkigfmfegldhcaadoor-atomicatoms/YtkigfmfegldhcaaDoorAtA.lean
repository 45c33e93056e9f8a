/-
  Layer 4 as plain mathematics: what a function of one cell, of two cells, of one array, of two arrays is, and what two shapes come to; no program is named.
-/
import Derived.Test.YtkigfmfegldhcaaDoorNumG
import Derived.Test.YtkigfmfegldhcaaDoorOwnAC
import Derived.Test.YtkigfmfegldhcaaDoorOwnAB
namespace Go.Proofs.YtkigfmfegldhcaaDoor
open Go.ChangeShapes Go.WideShapes Go.ChangeAt Go.RowKit
open Num (resV resE In64 sgnI absI)
/-- Not: 1 for 0, 0 for 1, ErrDomain for others. -/
def notV (n : Int) : Int := if n = 0 then 1 else 0
def notE (n : Int) : Int := if n = 0 then 0 else if n = 1 then 0 else 5
def oneV (op n : Int) : Int := if op = 1 then resV (-n) else if op = 2 then sgnI n else if op = 3 then resV (absI n) else notV n
def oneE (op n : Int) : Int := if op = 1 then resE (-n) else if op = 2 then 0 else if op = 3 then resE (absI n) else notE n
def c1V (op : Int) (c : Ce) : Int := if c.1 = 0 then oneV op c.2.1 else 0
def c1E (op : Int) (c : Ce) : Int := if c.1 = 0 then oneE op c.2.1 else 5
def isOp (op : Int) : Bool := decide (21 ≤ op ∧ op ≤ 32)
def tr (b : Bool) : Int := if b then 1 else 0
def twoV (op a b : Int) : Int :=
  if op = 21 then resV (a + b) else if op = 22 then resV (a - b) else if op = 23 then resV (a * b) else if op = 24 then min a b else if op = 25 then max a b else if op = 26 then b.fmod a
  else if op = 29 then tr (decide (a < b)) else if op = 30 then tr (decide (b < a)) else if op = 31 then tr (decide (a ≤ b)) else tr (decide (b ≤ a))
def twoE (op a b : Int) : Int := if op = 21 then resE (a + b) else if op = 22 then resE (a - b) else if op = 23 then resE (a * b) else 0
def eqE (c d : Ce) : Int := if c.1 = 2 ∨ d.1 = 2 then 5 else 0
def eqV (op : Int) (c d : Ce) : Int := if c.1 = 2 ∨ d.1 = 2 then 0 else if op = 27 then tr (decide (c.1 = d.1 ∧ c.2.1 = d.2.1)) else tr (!decide (c.1 = d.1 ∧ c.2.1 = d.2.1))
def c2E (op : Int) (c d : Ce) : Int := if isOp op = false then 1 else if op = 27 ∨ op = 28 then eqE c d else if c.1 = 0 ∧ d.1 = 0 then twoE op c.2.1 d.2.1 else 5
def c2V (op : Int) (c d : Ce) : Int := if isOp op = false then 0 else if op = 27 ∨ op = 28 then eqV op c d else if c.1 = 0 ∧ d.1 = 0 then twoV op c.2.1 d.2.1 else 0
theorem res_bad {x : Int} (h : resE x ≠ 0) : resV x = 0 := by
  unfold resE at h; unfold resV
  split at h
  · exact absurd rfl h
  · rename_i hf; rw [if_neg hf]
theorem one_bad {op n : Int} (h : oneE op n ≠ 0) : oneV op n = 0 := by
  unfold oneE at h; unfold oneV
  split
  · rw [if_pos ‹_›] at h; exact res_bad h
  · rw [if_neg ‹_›] at h
    split
    · rw [if_pos ‹_›] at h; exact absurd rfl h
    · rw [if_neg ‹_›] at h
      split
      · rw [if_pos ‹_›] at h; exact res_bad h
      · rw [if_neg ‹_›] at h
        unfold notE at h; unfold notV
        split
        · rw [if_pos ‹_›] at h; exact absurd rfl h
        · rfl
theorem c1_bad {op : Int} {c : Ce} (h : c1E op c ≠ 0) : c1V op c = 0 := by
  unfold c1E at h; unfold c1V
  split
  · rw [if_pos ‹_›] at h; exact one_bad h
  · rfl
theorem two_bad {op a b : Int} (h : twoE op a b ≠ 0) : twoV op a b = 0 := by
  unfold twoE at h; unfold twoV
  split
  · rw [if_pos ‹_›] at h; exact res_bad h
  · rw [if_neg ‹_›] at h
    split
    · rw [if_pos ‹_›] at h; exact res_bad h
    · rw [if_neg ‹_›] at h
      split
      · rw [if_pos ‹_›] at h; exact res_bad h
      · rw [if_neg ‹_›] at h; exact absurd rfl h
theorem eq_bad {op : Int} {c d : Ce} (h : eqE c d ≠ 0) : eqV op c d = 0 := by
  unfold eqE at h; unfold eqV
  split
  · rfl
  · rw [if_neg ‹_›] at h; exact absurd rfl h
theorem c2_bad {op : Int} {c d : Ce} (h : c2E op c d ≠ 0) : c2V op c d = 0 := by
  unfold c2E at h; unfold c2V
  split
  · rfl
  · rw [if_neg ‹_›] at h
    split
    · rw [if_pos ‹_›] at h; exact eq_bad h
    · rw [if_neg ‹_›] at h
      split
      · rw [if_pos ‹_›] at h; exact two_bad h
      · rfl
/-- Layer 4's Mo: its error, and its array (none where there is an error). -/
def moE (op : Int) (x : Ar) : Int := if chkA 8 x ≠ 0 then chkA 8 x else if op = 19 then 10 else if 1 ≤ op ∧ op ≤ 4 then firstUp (fun i => c1E op (cAt x.cells i)) x.cells.length else 1
def moA (op : Int) (x : Ar) : Ar := if moE op x = 0 then .mk x.shape (numCs 0 (x.cells.map (c1V op))) else .mk [] []
/-- Agree: its error, its shape. -/
def agrE (a b : List Int) : Int := if a = [] then 0 else if b = [] then 0 else if a.length = b.length then (if a = b then 0 else 7) else 6
def agrL (a b : List Int) : List Int := if a = [] then b else if b = [] then a else if a = b then a else []
/-- The cell of an array that stands beside a place. -/
def sideC (x : Ar) (i : Nat) : Ce := if x.shape = [] then cAt x.cells 0 else cAt x.cells i
def dyN (x y : Ar) : Nat := if x.shape = [] then y.cells.length else x.cells.length
def dyE (op : Int) (x y : Ar) : Int :=
  if chkA 8 x ≠ 0 then chkA 8 x else if chkA 8 y ≠ 0 then chkA 8 y else if op = 54 then 10 else if isOp op = false then 1 else if agrE x.shape y.shape ≠ 0 then agrE x.shape y.shape
  else firstUp (fun i => c2E op (sideC x i) (sideC y i)) (dyN x y)
def dyL (op : Int) (x y : Ar) : List Int := (List.range (dyN x y)).map fun i => c2V op (sideC x i) (sideC y i)
def dyA (op : Int) (x y : Ar) : Ar := if dyE op x y = 0 then .mk (agrL x.shape y.shape) (numCs 0 (dyL op x y)) else .mk [] []
theorem agr_sym (a b : List Int) : agrE a b = agrE b a ∧ agrL a b = agrL b a := by
  unfold agrE agrL
  by_cases h1 : a = []
  · subst h1
    by_cases h2 : b = []
    · subst h2; simp
    · simp [h2]
  · by_cases h2 : b = []
    · subst h2; simp [h1]
    · rw [if_neg h1, if_neg h2, if_neg h2, if_neg h1, if_neg h1, if_neg h2, if_neg h2, if_neg h1]
      by_cases h3 : a = b
      · subst h3; simp
      · have h3' : ¬ b = a := fun h => h3 h.symm
        rw [if_neg h3, if_neg h3', if_neg h3, if_neg h3']
        by_cases h4 : a.length = b.length
        · rw [if_pos h4, if_pos h4.symm]; exact ⟨rfl, rfl⟩
        · rw [if_neg h4, if_neg (fun h => h4 h.symm)]; exact ⟨rfl, rfl⟩
/-- What is known of an array that may be: its cells are as many as its shape says. -/
theorem chk_size {r : Nat} {x : Ar} (h : chkA r x = 0) : sizeE x.shape = 0 ∧ sizeV x.shape = x.cells.length := by
  have key : ∀ f : Ar → Int, chkB f x = 0 → sizeE x.shape = 0 ∧ sizeV x.shape = x.cells.length := by
    intro f hb
    unfold chkB at hb
    by_cases h1 : sizeE x.shape = 0
    · rw [if_neg (fun k => k h1)] at hb
      by_cases h2 : sizeV x.shape = x.cells.length
      · exact ⟨h1, h2⟩
      · rw [if_pos h2] at hb; omega
    · rw [if_pos h1] at hb; exact absurd hb h1
  cases r with
  | zero => exact key _ h
  | succ r => exact key _ h
theorem chk_atomic {r : Nat} {x : Ar} (h : chkA r x = 0) (hs : x.shape = []) : x.cells.length = 1 := by
  have h2 := (chk_size h).2
  rw [hs] at h2
  have : sizeV [] = 1 := by decide
  omega
end Go.Proofs.YtkigfmfegldhcaaDoor
