/-
  Memory that a call made and that may be written: no cell from the old memory's end on is frozen, and none of the old ones turned in that; kept by every step.
-/
import Derived.Test.YtmjncdhahdpplaaOwnQ
namespace Go.Proofs.Ytmjncdhahdpplaa
open Go.ChangeShapes Go.WideShapes Go.ChangeAt Go.RowKit
set_option linter.unusedVariables false
/-- A new block that may be written. -/
def softO : Obj → Prop
  | .cells _ _ f => f = (0, 0)
  | _ => True
def Fz (w w' : World) : Prop := w.heap.size ≤ w'.heap.size ∧ (∀ p : Addr, p.block < w.heap.size → w'.frozen? p = w.frozen? p) ∧ ∀ p : Addr, w.heap.size ≤ p.block → w'.frozen? p = false
theorem frozen_end {w : World} {p : Addr} (h : w.heap.size ≤ p.block) : w.frozen? p = false := by
  unfold World.frozen?
  rw [Array.getElem?_eq_none h]
theorem Fz.refl (w : World) : Fz w w := ⟨Nat.le_refl _, fun _ _ => rfl, fun _ h => frozen_end h⟩
theorem Fz.trans {a b c : World} (h : Fz a b) (k : Fz b c) : Fz a c := by
  refine ⟨Nat.le_trans h.1 k.1, fun p hp => (k.2.1 p (Nat.lt_of_lt_of_le hp h.1)).trans (h.2.1 p hp), fun p hp => ?_⟩
  by_cases hb : p.block < b.heap.size
  · exact (k.2.1 p hb).trans (h.2.2 p hp)
  · exact k.2.2 p (by omega)
theorem Fz.setCell (w : World) (q : Addr) (v : Value) : Fz w (w.setCell q v) := ⟨by simp, fun p _ => by simp, fun p hp => by simpa using frozen_end hp⟩
theorem Fz.alloc (w : World) (o : Obj) (ho : softO o) : Fz w (w.alloc o) := by
  refine ⟨by simp, fun p hp => World.frozen?_of_block (w := w) (Below.heap_alloc w o _ hp), fun p hp => ?_⟩
  unfold World.frozen?
  have e : (w.alloc o).heap[p.block]? = if p.block = w.heap.size then some o else w.heap[p.block]? := by
    show (w.heap.push o)[p.block]? = _
    rw [Array.getElem?_push]
  rw [e]
  by_cases h : p.block = w.heap.size
  · rw [if_pos h]
    cases o with
    | cells c t f => have : f = (0, 0) := ho; subst this; simp
    | _ => rfl
  · rw [if_neg h, Array.getElem?_eq_none hp]
structure BelowS (B : Nat) (w w' : World) : Prop where
  b : Below B w w'
  z : Fz w w'
instance {B : Nat} {w w' : World} : Coe (BelowS B w w') (Below B w w') := ⟨BelowS.b⟩
namespace BelowS
variable {B B' : Nat} {a b c w w' : World}
theorem refl (B : Nat) (w : World) : BelowS B w w := ⟨Below.refl _ _, Fz.refl _⟩
theorem trans (h : BelowS B a b) (k : BelowS B b c) : BelowS B a c := ⟨h.b.trans k.b, h.z.trans k.z⟩
theorem mono (h : BelowS B w w') (hB : B' ≤ B) : BelowS B' w w' := ⟨h.b.mono hB, h.z⟩
theorem drew (h : BelowS B a w) : BelowS B a w.drew := ⟨h.b.drew, h.z⟩
theorem heap_setCell (w : World) (a : Addr) (u : Value) (k : Nat) (h : k ≠ a.block) : (w.setCell a u).heap[k]? = w.heap[k]? := Below.heap_setCell w a u k h
theorem alloc (h : BelowS B a w) (hB : B ≤ w.heap.size) (o : Obj) (ho : softO o := by exact rfl) : BelowS B a (w.alloc o) := ⟨h.b.alloc hB o, h.z.trans (Fz.alloc w o ho)⟩
theorem setCell (h : BelowS B a w) {p : Addr} (hp : B ≤ p.block) (u : Value) : BelowS B a (w.setCell p u) := ⟨h.b.setCell hp u, h.z.trans (Fz.setCell w p u)⟩
theorem size (h : BelowS B w w') : w.heap.size ≤ w'.heap.size := h.b.size
theorem block (h : BelowS B w w') : ∀ k, k < B → w'.heap[k]? = w.heap[k]? := h.b.block
theorem cell (h : BelowS B w w') {p : Addr} (hp : p.block < B) : w'.cell? p = w.cell? p := h.b.cell hp
theorem frozen (h : BelowS B w w') {p : Addr} (hp : p.block < B) : w'.frozen? p = w.frozen? p := h.b.frozen hp
end BelowS
theorem two_allocsS (w : World) (o1 o2 : Obj) (h1 : softO o1 := by exact rfl) (h2 : softO o2 := by exact rfl) : BelowS w.heap.size w ((w.alloc o1).alloc o2) := ((BelowS.refl _ _).alloc (Nat.le_refl _) _ h1).alloc (by simp) _ h2
theorem one_allocS (w : World) (o : Obj) (h1 : softO o := by exact rfl) : BelowS w.heap.size w (w.alloc o) := (BelowS.refl _ _).alloc (Nat.le_refl _) _ h1
/-- The same array, in memory of the call's own that may be written. -/
def GivesS (n : Nat) (x : Ar) (w : World) (e : Ending) (w' : World) : Prop := (∃ v, e = .returned v ∧ ArIn n w.heap.size w' x v) ∧ BelowS w.heap.size w w'
end Go.Proofs.Ytmjncdhahdpplaa
