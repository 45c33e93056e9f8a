/-
  Layer 5's answers as plain data, and what a call's own memory holds while it goes on: the boxed argument, the answer's place.
-/
import Derived.Test.YtmjncdhahdpplaaLyD
namespace Go.Proofs.Ytmjncdhahdpplaa
open Go.ChangeShapes Go.WideShapes Go.ChangeAt Go.RowKit
set_option linter.unusedVariables false
set_option maxRecDepth 100000
def zeroA : Ar := .mk [] []
def tallyN (x : Ar) : Int := if x.shape.length = 0 then 1 else gI x.shape 0
def isC (c : Ce) : Bool := decide (c.1 = 0) && decide (0 ≤ c.2.1)
def upL (m : Nat) : List Int := (List.range m).map fun i : Nat => (i : Int)
def iotaR (x : Ar) : Ar × Int := if 0 < x.shape.length then (zeroA, 6) else if isC (cAt x.cells 0) = false then (zeroA, 5) else if 16384 < (cAt x.cells 0).2.1 then (zeroA, 12) else (numsA (upL (cAt x.cells 0).2.1.toNat), 0)
def revR (x : Ar) (k : Nat) : Ar := if x.shape.length = 0 then x else .mk x.shape (mkCs x.cells.length fun i => cAt x.cells (place x.shape (turnL x.shape (digits x.shape i) k)).toNat)
def flipR (x : Ar) : Ar := .mk x.shape.reverse (mkCs x.cells.length fun i => cAt x.cells (place x.shape (digits x.shape.reverse i).reverse).toNat)
def ravelR (x : Ar) : Ar := .mk [(x.cells.length : Int)] x.cells
def enclR (n : Nat) (x : Ar) : Ar × Int := if 8 ≤ deepA n x then (zeroA, 15) else (.mk [] [(2, 0, [x])], 0)
def discR (x : Ar) : Ar × Int := if 0 < x.shape.length then (zeroA, 6) else if (cAt x.cells 0).1 = 2 then (bAt (cAt x.cells 0).2.2 0, 0) else (x, 0)
def itemR (x : Ar) : Ar := .mk x.shape.tail (x.cells.take (x.cells.length / (tallyN x).toNat))
def firstR (x : Ar) : Ar × Int := if tallyN x = 0 then (zeroA, 8) else if x.shape.length = 0 then (x, 0) else (itemR x, 0)
def listR (x : Ar) : Ar × Int := if 8 ≤ x.shape.length then (zeroA, 6) else (.mk (1 :: x.shape) x.cells, 0)
/-- What Mo tells of an array of depth n. -/
def moR (n : Nat) (op : Int) (x : Ar) : Ar × Int :=
  if chkA 8 x ≠ 0 then (zeroA, chkA 8 x) else
  if op = 5 then iotaR x else if op = 6 then (numsA x.shape, 0) else if op = 7 then (atomA (tallyN x), 0) else if op = 8 then (ravelR x, 0) else
  if op = 9 then (revR x 0, 0) else if op = 10 then (revR x (x.shape.length - 1), 0) else if op = 11 then (flipR x, 0) else
  if op = 15 then enclR n x else if op = 16 then discR x else if op = 17 then firstR x else if op = 18 then listR x else (zeroA, 1)
theorem upL_len (m : Nat) : (upL m).length = m := by simp [upL]
theorem upL_at (m i : Nat) (hi : i < m) : gI (upL m) i = (i : Int) := by simp [gI, upL, hi]
theorem zeroA_in (n lo : Nat) (w : World) : ArIn (n + 1) lo w zeroA (.agg #[.slice none 0 0, .slice none 0 0]) := arIn_mk (x := zeroA) (row_nil _ _ _) (by simp [zeroA, Ar.cells]) (Or.inl rfl) rfl rfl
def Gives2 (n lo : Nat) (x : Ar) (E : Int) (w : World) (e : Ending) (w' : World) : Prop := (∃ v, e = .returned (.tuple #[v, .int .i64 E]) ∧ ArIn n lo w' x v) ∧ Below w.heap.size w w'
theorem gives2_of {n lo : Nat} {x : Ar} {E : Int} {w w' : World} {v : Value} {R : Ar × Int} (hR : R = (x, E)) (hx : ArIn n lo w' x v) (hb : Below w.heap.size w w') : Gives2 n lo R.1 R.2 w (.returned (.tuple #[v, .int .i64 E])) w' := by
  subst hR
  exact ⟨⟨_, rfl, hx⟩, hb⟩
/-- A world in which the boxed argument (block s) and the answer's place (block s + 1) still lie as they were made. -/
structure In2 (w : World) (v0 v1 : Value) (W : World) : Prop where
  bel : Below w.heap.size w W
  size : w.heap.size + 2 ≤ W.heap.size
  q0 : W.cell? ⟨w.heap.size, 0, none⟩ = some v0
  q1 : W.cell? ⟨w.heap.size, 1, none⟩ = some v1
  p0 : W.cell? ⟨w.heap.size + 1, 0, none⟩ = some (.slice none 0 0)
  p1 : W.cell? ⟨w.heap.size + 1, 1, none⟩ = some (.slice none 0 0)
  f0 : W.frozen? ⟨w.heap.size + 1, 0, none⟩ = false
  f1 : W.frozen? ⟨w.heap.size + 1, 1, none⟩ = false
theorem frozen_new1 (w : World) (c : Array Value) (t : TypeId) (o : Obj) (i : Nat) : ((w.alloc o).alloc (.cells c t)).frozen? ⟨w.heap.size + 1, i, none⟩ = false := by
  have := frozen_new (w.alloc o) c t i
  have s1 : (w.alloc o).heap.size = w.heap.size + 1 := by simp
  rw [s1] at this
  exact this
theorem in2_new (w : World) (v0 v1 : Value) : In2 w v0 v1 ((w.alloc (.cells #[v0, v1] 25)).alloc (.cells #[.slice none 0 0, .slice none 0 0] 25)) :=
  ⟨two_allocs _ _ _, by simp, cell_new1 w _ 25 (0, 0) _ 0 _ rfl, cell_new1 w _ 25 (0, 0) _ 1 _ rfl, cell_new2 w _ 25 (0, 0) _ 0 _ rfl, cell_new2 w _ 25 (0, 0) _ 1 _ rfl, frozen_new1 _ _ _ _ _, frozen_new1 _ _ _ _ _⟩
theorem In2.next {w W W' : World} {v0 v1 : Value} (h : In2 w v0 v1 W) (hb : Below W.heap.size W W') : In2 w v0 v1 W' := by
  have s := h.size
  refine ⟨h.bel.trans (hb.mono h.bel.size), Nat.le_trans s hb.size, ?_, ?_, ?_, ?_, ?_, ?_⟩
  · exact (hb.cell (p := ⟨w.heap.size, 0, none⟩) (by show w.heap.size < _; omega)).trans h.q0
  · exact (hb.cell (p := ⟨w.heap.size, 1, none⟩) (by show w.heap.size < _; omega)).trans h.q1
  · exact (hb.cell (p := ⟨w.heap.size + 1, 0, none⟩) (by show w.heap.size + 1 < _; omega)).trans h.p0
  · exact (hb.cell (p := ⟨w.heap.size + 1, 1, none⟩) (by show w.heap.size + 1 < _; omega)).trans h.p1
  · exact (hb.frozen (p := ⟨w.heap.size + 1, 0, none⟩) (by show w.heap.size + 1 < _; omega)).trans h.f0
  · exact (hb.frozen (p := ⟨w.heap.size + 1, 1, none⟩) (by show w.heap.size + 1 < _; omega)).trans h.f1
theorem In2.drew {w W : World} {v0 v1 : Value} (h : In2 w v0 v1 W) : In2 w v0 v1 W.drew := h.next (Below.refl _ _).drew
theorem In2.alloc {w W : World} {v0 v1 : Value} (h : In2 w v0 v1 W) (o : Obj) : In2 w v0 v1 (W.alloc o) := h.next (one_alloc _ _)
/-- A store behind the answer's place. -/
theorem In2.set {w W : World} {v0 v1 : Value} (h : In2 w v0 v1 W) {b i : Nat} (hb : w.heap.size + 2 ≤ b) (v : Value) : In2 w v0 v1 (W.setCell ⟨b, i, none⟩ v) := by
  have s := h.size
  have hk : Below (w.heap.size + 2) W (W.setCell ⟨b, i, none⟩ v) := (Below.refl _ _).setCell (p := ⟨b, i, none⟩) hb v
  refine ⟨h.bel.setCell (p := ⟨b, i, none⟩) (by show w.heap.size ≤ b; omega) v, Nat.le_trans s hk.size, ?_, ?_, ?_, ?_, ?_, ?_⟩
  · exact (hk.cell (p := ⟨w.heap.size, 0, none⟩) (by show w.heap.size < _; omega)).trans h.q0
  · exact (hk.cell (p := ⟨w.heap.size, 1, none⟩) (by show w.heap.size < _; omega)).trans h.q1
  · exact (hk.cell (p := ⟨w.heap.size + 1, 0, none⟩) (by show w.heap.size + 1 < _; omega)).trans h.p0
  · exact (hk.cell (p := ⟨w.heap.size + 1, 1, none⟩) (by show w.heap.size + 1 < _; omega)).trans h.p1
  · exact (hk.frozen (p := ⟨w.heap.size + 1, 0, none⟩) (by show w.heap.size + 1 < _; omega)).trans h.f0
  · exact (hk.frozen (p := ⟨w.heap.size + 1, 1, none⟩) (by show w.heap.size + 1 < _; omega)).trans h.f1
theorem In2.belowS {w W W' : World} {v0 v1 : Value} {B : Nat} (h : In2 w v0 v1 W) (hb : Below B W W') (hB : w.heap.size + 2 ≤ B) : In2 w v0 v1 W' := by
  have s := h.size
  have hk := hb.mono hB
  refine ⟨h.bel.trans (hb.mono (by omega)), Nat.le_trans s hk.size, ?_, ?_, ?_, ?_, ?_, ?_⟩
  · exact (hk.cell (p := ⟨w.heap.size, 0, none⟩) (by show w.heap.size < _; omega)).trans h.q0
  · exact (hk.cell (p := ⟨w.heap.size, 1, none⟩) (by show w.heap.size < _; omega)).trans h.q1
  · exact (hk.cell (p := ⟨w.heap.size + 1, 0, none⟩) (by show w.heap.size + 1 < _; omega)).trans h.p0
  · exact (hk.cell (p := ⟨w.heap.size + 1, 1, none⟩) (by show w.heap.size + 1 < _; omega)).trans h.p1
  · exact (hk.frozen (p := ⟨w.heap.size + 1, 0, none⟩) (by show w.heap.size + 1 < _; omega)).trans h.f0
  · exact (hk.frozen (p := ⟨w.heap.size + 1, 1, none⟩) (by show w.heap.size + 1 < _; omega)).trans h.f1
/-- The answer laid into its place: what is read there, and what was told stays. -/
theorem In2.put {w W : World} {v0 v1 : Value} (h : In2 w v0 v1 W) (u v : Value) : ((W.setCell ⟨w.heap.size + 1, 0, none⟩ u).cell? ⟨w.heap.size + 1, 0, none⟩ = some u ∧ ((W.setCell ⟨w.heap.size + 1, 0, none⟩ u).setCell ⟨w.heap.size + 1, 1, none⟩ v).cell? ⟨w.heap.size + 1, 1, none⟩ = some v) := set_two h.p0 h.p1 u v
theorem In2.fin {w W : World} {v0 v1 : Value} (h : In2 w v0 v1 W) (u v : Value) : Below w.heap.size w ((W.setCell ⟨w.heap.size + 1, 0, none⟩ u).setCell ⟨w.heap.size + 1, 1, none⟩ v) :=
  (h.bel.setCell (p := ⟨w.heap.size + 1, 0, none⟩) (by show w.heap.size ≤ w.heap.size + 1; omega) u).setCell (p := ⟨w.heap.size + 1, 1, none⟩) (by show w.heap.size ≤ w.heap.size + 1; omega) v
theorem In2.give {w W : World} {v0 v1 : Value} (h : In2 w v0 v1 W) {n lo : Nat} {x : Ar} {va : Value} (hx : ArIn n lo W x va) (hlo : w.heap.size + 2 ≤ lo) (u v : Value) : ArIn n w.heap.size ((W.setCell ⟨w.heap.size + 1, 0, none⟩ u).setCell ⟨w.heap.size + 1, 1, none⟩ v) x va := by
  have hk : Keeps (w.heap.size + 2) W ((W.setCell ⟨w.heap.size + 1, 0, none⟩ u).setCell ⟨w.heap.size + 1, 1, none⟩ v) := ((Keeps.refl _ _).setCell (p := ⟨w.heap.size + 1, 0, none⟩) (by show w.heap.size + 1 < _; omega) u).setCell (p := ⟨w.heap.size + 1, 1, none⟩) (by show w.heap.size + 1 < _; omega) v
  exact ((hx.mono hlo (Below.refl _ _)).keeps hk).mono (by omega) (Below.refl _ _)
theorem copyA {n r lo : Nat} {x : Ar} {va : Value} {w : World} (hc : chkA r x = 0) (hx : ArIn n lo w x va) : Calls Try.prog 30 #[va] w fun e w' => GivesA n x w e w' :=
  (copy_any n r x lo va w hc hx).mono fun e w' ⟨h, hb⟩ => ⟨h, hb.b⟩
/-- An array's value, opened. -/
theorem ArIn.form {n lo : Nat} {w : World} {x : Ar} {v : Value} (h : ArIn (n + 1) lo w x v) : ∃ a1 c1 a2 c2, v = .agg #[.slice a1 x.shape.length c1, .slice a2 x.cells.length c2] ∧ Row lo w a1 x.shape ∧ CellsIn n lo w x.cells a2 := by
  obtain ⟨a1, c1, a2, c2, h1, h2, -, h3⟩ := h
  exact ⟨a1, c1, a2, c2, h1, h2, h3⟩
/-- What is known of an array that may be. -/
theorem chk_len {r : Nat} {x : Ar} (h : chkA r x = 0) : x.shape.length ≤ 8 ∧ x.cells.length ≤ 16384 := by
  obtain ⟨f, -, h1, h2, -⟩ := chk_ok h
  exact ⟨h1, h2⟩
/-- The steps of an array that may be. -/
theorem chk_axes {r : Nat} {x : Ar} (h : chkA r x = 0) : (∀ z ∈ x.shape, 0 ≤ z ∧ z ≤ 16384) ∧ (0 < x.cells.length → (∀ z ∈ x.shape, 0 < z) ∧ prodL x.shape = x.cells.length) ∧ (x.cells.length = 0 → hasZero x.shape) := by
  obtain ⟨h1, h2, h3, h4⟩ := (chkA_iff r x).1 h
  obtain ⟨g1, g2, g3⟩ := fine_cases h1
  refine ⟨fun z hz => ⟨g2 z hz, ?_⟩, fun h0 => ?_, fun h0 => ?_⟩
  · rcases Int.lt_or_le 16384 z with hlt | hle
    · exact absurd ⟨z, hz, hlt⟩ h3
    · exact hle
  · rcases g3 with ⟨-, g3⟩ | ⟨g3, g4, g5⟩
    · omega
    · exact ⟨g3, by omega⟩
  · rcases g3 with ⟨g3, -⟩ | ⟨g3, g4, g5⟩
    · exact g3
    · have := prodL_pos g3; omega
end Go.Proofs.Ytmjncdhahdpplaa
