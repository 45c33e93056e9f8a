/-
  The contract of layer 5's first: the first item, of an array whose slices are no longer than their rows.
  The contracts of layer 5's shapeOf and copyCell.
  The contract of layer 5's Reshape: any array laid in any shape.
  The contract of layer 3's Text; and what the document's Nums and Text rest on: a row of cells put together by append.
  The contracts of the document's Nums and Text: numbers and signs as arrays, put together by append; at most 16384 numbers.
  Rows that append has put together, in a field of a variable: numbers, cells. No program's function is named.
  The contracts of layer 5's axes, tally, isCount and upTo.
  The contracts of the document's Tally, back and Numbers of layer 5.
  Parts of slices as letters, append of whatever row behind a row of the call's own, rows that append has put together and that may be written. The contracts of the document's Item, count and boxes.
  The contracts of layer 6's inTurn (a part of the one and a part of the other in turn) and cellsIn.
  The contract of layer 6's cellsIn: an array's cells in the shape in which it stands.
  The contract of layer 6's Dy, out of that of pieces.
  copy of elements of several cells into a row that is known whole, as a step; and the mathematics of places along an axis. No program's function is named.
  The contract of layer 6's along: an array with the places along an axis that a list says.
  The contract of layer 6's lookedUp.
  The contracts of the document's Atom and Nums once more: the slices of what they give are no longer than their rows.
  A variable that holds an array; what calls of Atom and Dy give, for regions that draw their order.
  Places by rules; a row that grows, at its beginning (mathematics and small laws for the document of layers 5 and 6).
  The contracts of the library's swapRangeCmpFunc and rotateCmpFunc, at numbers.
  The contract of the library's insertionSortCmpFunc, at numbers, for whatever comparison.
-/
import Derived.Test.YtimkcpbgnoekcaaM1
import Derived.Test.YtimkcpbgnoekcaaChecked
import GoSem.Claim
import GoSem.ClaimJoined
import GoSem.ClaimMapViews
import Derived.JoinedTies
import Derived.KernelRfl
import Derived.WalkKit
import Derived.ProofKit
import Derived.Below
import Derived.Deep.OwnRows
import Derived.Deep.QuietTactic
import Derived.BigQuiet
import Derived.Deep.RegionWith
import Derived.Laws.MakeOwn
import Derived.Deep.RegionHeld3
import Derived.Laws.IdiomCopy
import Derived.Deep.Cut
import Derived.Deep.LoopGhost
import Derived.OpenShut
import Derived.ChangeOld
import Derived.SizedLaws
import Derived.Deep.Slices
import Derived.Deep.Strs
import Derived.Laws.AppendOwn
import Derived.BigFrame
import Derived.Deep.CutRange
import Derived.Deep.RegionLaw
import Derived.Laws.OwnMore
import Derived.Lib.SliceRun
import Derived.Laws.CopyOwn
import Derived.Lib.Mul64
import Derived.Lib.Overlaps
import Derived.Laws.EntriesVeiled
namespace Go.Proofs.Ytimkcpbgnoekcaa
open Go.ChangeShapes Go.WideShapes Go.ChangeAt Go.RowKit
set_option linter.unusedVariables false
set_option maxRecDepth 100000
def Caps (v : Value) : Prop := ∃ a1 n1 c1 a2 n2 c2, v = .agg #[.slice a1 n1 c1, .slice a2 n2 c2] ∧ n1 ≤ c1 ∧ n2 ≤ c2
/-- A part of the cells. -/
theorem CellsIn.take {n lo : Nat} {w : World} {cs : List Ce} {a2 : Option Addr} (h : CellsIn n lo w cs a2) (m : Nat) : CellsIn n lo w (cs.take m) a2 := by
  rcases h with rfl | ⟨b, off, ha, hlo, hb, hc⟩
  · exact Or.inl (by simp)
  · refine Or.inr ⟨b, off, ha, hlo, hb, fun i hi => ?_⟩
    rw [List.length_take] at hi
    have := hc i (by omega)
    unfold cAt at this ⊢
    rw [List.getElem?_take_of_lt (by omega)]
    exact this
theorem Row.tail {lo b off : Nat} {w : World} {l : List Int} (h : Row lo w (some ⟨b, off, none⟩) l) : Row lo w (some ⟨b, off + 1, none⟩) l.tail := by
  obtain ⟨h1, h2⟩ := h
  refine ⟨by rw [List.length_tail]; omega, ?_⟩
  rcases h2 with rfl | ⟨b', off', ha, hlo, hb, hc⟩
  · exact Or.inl rfl
  · cases ha
    refine Or.inr ⟨b, off + 1, rfl, hlo, hb, fun i hi => ?_⟩
    rw [List.length_tail] at hi
    have := hc (i + 1) (by omega)
    rw [show off + 1 + i = off + (i + 1) by omega, this]
    simp
/-- As In2, whatever lies in the answer's place. -/
structure Fr (w : World) (v0 v1 : Value) (W : World) : Prop where
  bel : Below w.heap.size w W
  size : w.heap.size + 2 ≤ W.heap.size
  q0 : W.cell? ⟨w.heap.size, 0, none⟩ = some v0
  q1 : W.cell? ⟨w.heap.size, 1, none⟩ = some v1
  p0 : ∃ u, W.cell? ⟨w.heap.size + 1, 0, none⟩ = some u
  p1 : ∃ u, W.cell? ⟨w.heap.size + 1, 1, none⟩ = some u
  f0 : W.frozen? ⟨w.heap.size + 1, 0, none⟩ = false
  f1 : W.frozen? ⟨w.heap.size + 1, 1, none⟩ = false
theorem In2.fr {w W : World} {v0 v1 : Value} (h : In2 w v0 v1 W) : Fr w v0 v1 W := ⟨h.bel, h.size, h.q0, h.q1, ⟨_, h.p0⟩, ⟨_, h.p1⟩, h.f0, h.f1⟩
theorem Fr.next {w W W' : World} {v0 v1 : Value} (h : Fr w v0 v1 W) (hb : Below W.heap.size W W') : Fr w v0 v1 W' := by
  have s := h.size
  obtain ⟨u0, h0⟩ := h.p0
  obtain ⟨u1, h1⟩ := h.p1
  refine ⟨h.bel.trans (hb.mono h.bel.size), Nat.le_trans s hb.size, ?_, ?_, ⟨u0, ?_⟩, ⟨u1, ?_⟩, ?_, ?_⟩
  · exact (hb.cell (p := ⟨w.heap.size, 0, none⟩) (by show w.heap.size < _; omega)).trans h.q0
  · exact (hb.cell (p := ⟨w.heap.size, 1, none⟩) (by show w.heap.size < _; omega)).trans h.q1
  · exact (hb.cell (p := ⟨w.heap.size + 1, 0, none⟩) (by show w.heap.size + 1 < _; omega)).trans h0
  · exact (hb.cell (p := ⟨w.heap.size + 1, 1, none⟩) (by show w.heap.size + 1 < _; omega)).trans h1
  · exact (hb.frozen (p := ⟨w.heap.size + 1, 0, none⟩) (by show w.heap.size + 1 < _; omega)).trans h.f0
  · exact (hb.frozen (p := ⟨w.heap.size + 1, 1, none⟩) (by show w.heap.size + 1 < _; omega)).trans h.f1
theorem Fr.set {w W : World} {v0 v1 : Value} (h : Fr w v0 v1 W) (u v : Value) : Fr w v0 v1 ((W.setCell ⟨w.heap.size + 1, 0, none⟩ u).setCell ⟨w.heap.size + 1, 1, none⟩ v) := by
  obtain ⟨u0, h0⟩ := h.p0
  obtain ⟨u1, h1⟩ := h.p1
  have t := set_two h0 h1 u v
  refine ⟨(h.bel.setCell (p := ⟨w.heap.size + 1, 0, none⟩) (by show w.heap.size ≤ w.heap.size + 1; omega) u).setCell (p := ⟨w.heap.size + 1, 1, none⟩) (by show w.heap.size ≤ w.heap.size + 1; omega) v, by simpa using h.size, ?_, ?_, ⟨u, ?_⟩, ⟨v, t.2⟩, by simpa using h.f0, by simpa using h.f1⟩
  · exact cell_apart (p := ⟨w.heap.size, 0, none⟩) (q := ⟨w.heap.size + 1, 1, none⟩) (by show w.heap.size ≠ w.heap.size + 1; omega) _ (cell_apart (p := ⟨w.heap.size, 0, none⟩) (q := ⟨w.heap.size + 1, 0, none⟩) (by show w.heap.size ≠ w.heap.size + 1; omega) _ h.q0)
  · exact cell_apart (p := ⟨w.heap.size, 1, none⟩) (q := ⟨w.heap.size + 1, 1, none⟩) (by show w.heap.size ≠ w.heap.size + 1; omega) _ (cell_apart (p := ⟨w.heap.size, 1, none⟩) (q := ⟨w.heap.size + 1, 0, none⟩) (by show w.heap.size ≠ w.heap.size + 1; omega) _ h.q1)
  · rw [World.cell?_setCell_other _ _ _ _ (by simp)]; exact t.1
theorem Fr.fin {w W : World} {v0 v1 : Value} (h : Fr w v0 v1 W) (u v : Value) : Below w.heap.size w ((W.setCell ⟨w.heap.size + 1, 0, none⟩ u).setCell ⟨w.heap.size + 1, 1, none⟩ v) := (h.set u v).bel
end Go.Proofs.Ytimkcpbgnoekcaa
namespace Go.Proofs.Ytimkcpbgnoekcaa
open Go.ChangeShapes Go.WideShapes Go.ChangeAt Go.RowKit
set_option linter.unusedVariables false
set_option maxRecDepth 100000
def allC (x : Ar) : Prop := ∀ i, i < x.cells.length → isC (cAt x.cells i) = true
def noLong (x : Ar) : Prop := ∀ i, i < x.cells.length → (cAt x.cells i).2.1 ≤ 16384
instance (x : Ar) : Decidable (allC x) := by unfold allC; infer_instance
instance (x : Ar) : Decidable (noLong x) := by unfold noLong; infer_instance
end Go.Proofs.Ytimkcpbgnoekcaa
namespace Go.Proofs.Ytimkcpbgnoekcaa
open Go.ChangeShapes Go.WideShapes Go.ChangeAt Go.RowKit
set_option linter.unusedVariables false
set_option maxRecDepth 100000
/-- Two boxed arguments (blocks s and s + 1) and the answer's place (block s + 2). -/
structure In3 (w : World) (v0 v1 u0 u1 : Value) (W : World) : Prop where
  bel : Below w.heap.size w W
  size : w.heap.size + 3 ≤ W.heap.size
  q0 : W.cell? ⟨w.heap.size, 0, none⟩ = some v0
  q1 : W.cell? ⟨w.heap.size, 1, none⟩ = some v1
  r0 : W.cell? ⟨w.heap.size + 1, 0, none⟩ = some u0
  r1 : W.cell? ⟨w.heap.size + 1, 1, none⟩ = some u1
  p0 : W.cell? ⟨w.heap.size + 2, 0, none⟩ = some (.slice none 0 0)
  p1 : W.cell? ⟨w.heap.size + 2, 1, none⟩ = some (.slice none 0 0)
  f0 : W.frozen? ⟨w.heap.size + 2, 0, none⟩ = false
  f1 : W.frozen? ⟨w.heap.size + 2, 1, none⟩ = false
theorem In3.belowS {w W W' : World} {v0 v1 u0 u1 : Value} {B : Nat} (h : In3 w v0 v1 u0 u1 W) (hb : Below B W W') (hB : w.heap.size + 3 ≤ B) : In3 w v0 v1 u0 u1 W' := by
  have s := h.size
  have hk := hb.mono hB
  refine ⟨h.bel.trans (hb.mono (by omega)), Nat.le_trans s hk.size, ?_, ?_, ?_, ?_, ?_, ?_, ?_, ?_⟩
  · exact (hk.cell (p := ⟨w.heap.size, 0, none⟩) (by show w.heap.size < _; omega)).trans h.q0
  · exact (hk.cell (p := ⟨w.heap.size, 1, none⟩) (by show w.heap.size < _; omega)).trans h.q1
  · exact (hk.cell (p := ⟨w.heap.size + 1, 0, none⟩) (by show w.heap.size + 1 < _; omega)).trans h.r0
  · exact (hk.cell (p := ⟨w.heap.size + 1, 1, none⟩) (by show w.heap.size + 1 < _; omega)).trans h.r1
  · exact (hk.cell (p := ⟨w.heap.size + 2, 0, none⟩) (by show w.heap.size + 2 < _; omega)).trans h.p0
  · exact (hk.cell (p := ⟨w.heap.size + 2, 1, none⟩) (by show w.heap.size + 2 < _; omega)).trans h.p1
  · exact (hk.frozen (p := ⟨w.heap.size + 2, 0, none⟩) (by show w.heap.size + 2 < _; omega)).trans h.f0
  · exact (hk.frozen (p := ⟨w.heap.size + 2, 1, none⟩) (by show w.heap.size + 2 < _; omega)).trans h.f1
theorem In3.next {w W W' : World} {v0 v1 u0 u1 : Value} (h : In3 w v0 v1 u0 u1 W) (hb : Below W.heap.size W W') : In3 w v0 v1 u0 u1 W' := h.belowS hb h.size
theorem in3_new (w : World) (v0 v1 u0 u1 : Value) : In3 w v0 v1 u0 u1 (((w.alloc (.cells #[v0, v1] 25)).alloc (.cells #[u0, u1] 25)).alloc (.cells #[.slice none 0 0, .slice none 0 0] 25)) := by
  have B2 := two_allocs w (.cells #[v0, v1] 25) (.cells #[u0, u1] 25)
  have z2 := size_two w (.cells #[v0, v1] 25) (.cells #[u0, u1] 25)
  have B3 := one_alloc ((w.alloc (.cells #[v0, v1] 25)).alloc (.cells #[u0, u1] 25)) (.cells #[.slice none 0 0, .slice none 0 0] 25)
  have n0 := cell_new0 ((w.alloc (.cells #[v0, v1] 25)).alloc (.cells #[u0, u1] 25)) #[.slice none 0 0, .slice none 0 0] 25 0 _ rfl
  have n1 := cell_new0 ((w.alloc (.cells #[v0, v1] 25)).alloc (.cells #[u0, u1] 25)) #[.slice none 0 0, .slice none 0 0] 25 1 _ rfl
  have nf := fun i => frozen_new ((w.alloc (.cells #[v0, v1] 25)).alloc (.cells #[u0, u1] 25)) #[.slice none 0 0, .slice none 0 0] 25 i
  rw [z2] at n0 n1 nf
  refine ⟨B2.trans (B3.mono (by omega)), by simp, ?_, ?_, ?_, ?_, n0, n1, nf 0, nf 1⟩
  · exact (B3.cell (p := ⟨w.heap.size, 0, none⟩) (by show w.heap.size < _; omega)).trans (cell_new1 w _ 25 (0, 0) _ 0 _ rfl)
  · exact (B3.cell (p := ⟨w.heap.size, 1, none⟩) (by show w.heap.size < _; omega)).trans (cell_new1 w _ 25 (0, 0) _ 1 _ rfl)
  · exact (B3.cell (p := ⟨w.heap.size + 1, 0, none⟩) (by show w.heap.size + 1 < _; omega)).trans (cell_new2 w _ 25 (0, 0) _ 0 _ rfl)
  · exact (B3.cell (p := ⟨w.heap.size + 1, 1, none⟩) (by show w.heap.size + 1 < _; omega)).trans (cell_new2 w _ 25 (0, 0) _ 1 _ rfl)
theorem In3.put {w W : World} {v0 v1 u0 u1 : Value} (h : In3 w v0 v1 u0 u1 W) (u v : Value) : ((W.setCell ⟨w.heap.size + 2, 0, none⟩ u).cell? ⟨w.heap.size + 2, 0, none⟩ = some u ∧ ((W.setCell ⟨w.heap.size + 2, 0, none⟩ u).setCell ⟨w.heap.size + 2, 1, none⟩ v).cell? ⟨w.heap.size + 2, 1, none⟩ = some v) := set_two h.p0 h.p1 u v
theorem In3.fin {w W : World} {v0 v1 u0 u1 : Value} (h : In3 w v0 v1 u0 u1 W) (u v : Value) : Below w.heap.size w ((W.setCell ⟨w.heap.size + 2, 0, none⟩ u).setCell ⟨w.heap.size + 2, 1, none⟩ v) :=
  (h.bel.setCell (p := ⟨w.heap.size + 2, 0, none⟩) (by show w.heap.size ≤ w.heap.size + 2; omega) u).setCell (p := ⟨w.heap.size + 2, 1, none⟩) (by show w.heap.size ≤ w.heap.size + 2; omega) v
theorem In3.give {w W : World} {v0 v1 u0 u1 : Value} (h : In3 w v0 v1 u0 u1 W) {n lo : Nat} {x : Ar} {va : Value} (hx : ArIn n lo W x va) (hlo : w.heap.size + 3 ≤ lo) (u v : Value) : ArIn n w.heap.size ((W.setCell ⟨w.heap.size + 2, 0, none⟩ u).setCell ⟨w.heap.size + 2, 1, none⟩ v) x va := by
  have hk : Keeps (w.heap.size + 3) W ((W.setCell ⟨w.heap.size + 2, 0, none⟩ u).setCell ⟨w.heap.size + 2, 1, none⟩ v) := ((Keeps.refl _ _).setCell (p := ⟨w.heap.size + 2, 0, none⟩) (by show w.heap.size + 2 < _; omega) u).setCell (p := ⟨w.heap.size + 2, 1, none⟩) (by show w.heap.size + 2 < _; omega) v
  exact ((hx.mono hlo (Below.refl _ _)).keeps hk).mono (by omega) (Below.refl _ _)
end Go.Proofs.Ytimkcpbgnoekcaa
namespace Go.Proofs.Ytimkcpbgnoekcaa
open Go.ChangeShapes Go.WideShapes Go.ChangeAt Go.RowKit
set_option linter.unusedVariables false
/-- append onto a row of the call's own, as one step of a region. -/
theorem step_append_own {P : Program} {w : World} {ops : Array Oper} {o : Oper} {a : Act} {K : Act → World → Prop} {Q : Exit → Act → World → Prop} {E : Prop} (hg : o.guard = none) (s x : Operand) (t : TypeId)
    (ho : o.op = .call { callee := .builtin .append, args := #[s, x], argTypes := #[t, t] })
    (base : Nat) (e : TypeId) (i : TypeInfo) (z : Value) (size bytes : Nat) (ht : P.underlying t = some (.slice e)) (hi : P.info? e = some i) (hz : i.zero = some z)
    (hsize : i.size = size) (hby : i.bytes = bytes) (hzs : z.cells.size = size) (hsz : 0 < size)
    (v : Value) (n : Nat) (xs : List Value) (hs : a.eval s = v) (hown : w.ownsRow base e size v n xs)
    (ad : Addr) (m c : Nat) (news : List Value) (hx : a.eval x = .slice (some ad) m c) (hl : news.length = m * size) (hnews : ∀ j u, news[j]? = some u → w.cell? (ad.add j) = some u) (h1 : ∀ u ∈ news, u.oneCell' = true)
    (h63 : n + m ≤ maxLen) (hbytes : (n + m) * bytes ≤ 140737488355328) (hbase : base ≤ w.heap.size)
    (h : ∀ v' w', w'.ownsRow base e size v' (n + m) (xs ++ news) → Below base w w' → K (a.put o.dst v') w') : if Region.wanted o (yielded ops a.tmps) = true then Oper.wp P o a w K Q else E := by
  have hw : Region.wanted o (yielded ops a.tmps) = true := by simp [Region.wanted, hg]
  rw [if_pos hw]
  refine wp_append_own w s x t ho base e i z size bytes ht hi hz hsize hby hzs hsz v n xs hs hown ad m c news hx hl hnews h1 h63 hbytes hbase ?_
  intro v' w' hown' hgrow _
  exact h v' w' hown' ((Below.refl _ _).grown hgrow hbase (fun q hq => (hown.lt q hq).1))
/-- What the row holds that append has put together, up to number j. -/
def rowF (k : Int) (l : List Int) (j : Nat) : List Value := (List.range (j * 3)).map (numF k l l.length)
theorem rowF_step (k : Int) (l : List Int) (j : Nat) (hj : j < l.length) : rowF k l (j + 1) = rowF k l j ++ [.int .i64 k, .int .i64 (l[j]?.getD 0), .slice none 0 0] := by
  unfold rowF
  have e : (j + 1) * 3 = j * 3 + 1 + 1 + 1 := by omega
  rw [e, List.range_succ, List.range_succ, List.range_succ]
  simp only [List.map_append, List.map_cons, List.map_nil, List.append_assoc, List.cons_append, List.nil_append]
  have f0 : numF k l l.length (j * 3) = .int .i64 k := by
    unfold numF; rw [if_pos (by omega), if_pos (by omega)]
  have f1 : numF k l l.length (j * 3 + 1) = .int .i64 (l[j]?.getD 0) := by
    unfold numF; rw [if_pos (by omega), if_neg (by omega), if_pos (by omega), show (j * 3 + 1) / 3 = j by omega]
  have f2 : numF k l l.length (j * 3 + 1 + 1) = .slice none 0 0 := by
    unfold numF; rw [if_pos (by omega), if_neg (by omega), if_neg (by omega)]
  rw [f0, f1, f2]
theorem owns_form {w : World} {base n : Nat} {e : TypeId} {v : Value} {xs : List Value} (h : w.ownsRow base e 3 v n xs) (hn : 0 < n) : ∃ g cap, v = .slice (some ⟨g, 0, none⟩) n cap ∧ base ≤ g ∧ g < w.heap.size := by
  obtain ⟨h1, h2⟩ := h
  rcases h2 with ⟨rfl, h2⟩ | ⟨g, cap, cur, rfl, hb, hg, -⟩
  · omega
  · exact ⟨g, cap, rfl, hb, lt_of_block hg⟩
theorem owns_cells {w : World} {base lo n : Nat} {v : Value} (k : Int) (l : List Int) (h : w.ownsRow base 39 3 v l.length (rowF k l l.length)) (hlo : lo ≤ base) :
    ∃ a2 cap, v = .slice a2 l.length cap ∧ CellsIn n lo w (numCs k l) a2 := by
  have h' := h
  obtain ⟨h1, h2⟩ := h'
  rcases h2 with ⟨rfl, h2⟩ | ⟨g, cap, cur, rfl, hb, hg, -⟩
  · have e : l = [] := List.eq_nil_of_length_eq_zero h2
    subst e
    exact ⟨none, 0, rfl, Or.inl rfl⟩
  · refine ⟨_, cap, rfl, Or.inr ⟨g, 0, rfl, by omega, lt_of_block hg, ?_⟩⟩
    intro i hi
    rw [numCs_len] at hi
    rw [numCs_at k l i hi]
    have hc : ∀ m, m < l.length * 3 → w.cell? ⟨g, m, none⟩ = some (numF k l l.length m) := by
      intro m hm
      have := h.cellAt m (by simpa [rowF] using hm)
      rw [this]
      simp [rowF, hm]
    have f0 : numF k l l.length (i * 3) = .int .i64 k := by
      unfold numF; rw [if_pos (by omega), if_pos (by omega)]
    have f1 : numF k l l.length (i * 3 + 1) = .int .i64 (l[i]?.getD 0) := by
      unfold numF; rw [if_pos (by omega), if_neg (by omega), if_pos (by omega), show (i * 3 + 1) / 3 = i by omega]
    have f2 : numF k l l.length (i * 3 + 2) = .slice none 0 0 := by
      unfold numF; rw [if_pos (by omega), if_neg (by omega), if_neg (by omega)]
    have h0 := hc (i * 3) (by omega)
    have h1 := hc (i * 3 + 1) (by omega)
    have h2 := hc (i * 3 + 2) (by omega)
    rw [f0] at h0
    rw [f1] at h1
    rw [f2] at h2
    rw [Nat.zero_add]
    exact ⟨_, _, _, h0, h1, h2, rfl, rfl, none, 0, rfl, by simp, Or.inl rfl⟩
end Go.Proofs.Ytimkcpbgnoekcaa
namespace Go.Proofs.Ytimkcpbgnoekcaa
open Go.ChangeShapes Go.WideShapes Go.ChangeAt Go.RowKit
set_option linter.unusedVariables false
set_option maxRecDepth 100000
/-- What holds while the document's Nums or Text goes on: its answer's place (block s), the array (block o, its shape sv) and its cells so far. -/
def Inv (s o : Nat) (sv : Value) (k : Int) (l : List Int) (j : Nat) (v : Value) (w wr : World) : Prop :=
  Below s w wr ∧ o < wr.heap.size ∧ (wr.cell? ⟨s, 0, none⟩ = some (.slice none 0 0) ∧ wr.cell? ⟨s, 1, none⟩ = some (.slice none 0 0) ∧ wr.frozen? ⟨s, 0, none⟩ = false ∧ wr.frozen? ⟨s, 1, none⟩ = false) ∧
  (wr.cell? ⟨o, 0, none⟩ = some sv ∧ wr.cell? ⟨o, 1, none⟩ = some v ∧ wr.frozen? ⟨o, 0, none⟩ = false ∧ wr.frozen? ⟨o, 1, none⟩ = false) ∧ wr.ownsRow (o + 1) 39 3 v j (rowF k l j)
theorem frozen_set (w : World) (a b : Addr) (v : Value) (h : w.frozen? b = false) : (w.setCell a v).frozen? b = false := by
  simpa using h
theorem inv_step {s o : Nat} {sv : Value} {k : Int} {l : List Int} {j : Nat} {v v' : Value} {w wr w1 : World} (so : s < o) (h : Inv s o sv k l j v w wr) (hb : Below (o + 1) wr w1) (hown : w1.ownsRow (o + 1) 39 3 v' (j + 1) (rowF k l (j + 1))) : Inv s o sv k l (j + 1) v' w (w1.setCell ⟨o, 1, none⟩ v') := by
  obtain ⟨h1, h2, ⟨c0, c1, c2, c3⟩, ⟨d0, d1, d2, d3⟩, -⟩ := h
  have e0 : w1.cell? ⟨o, 0, none⟩ = some sv := (hb.cell (p := ⟨o, 0, none⟩) (by show o < _; omega)).trans d0
  have e1 : w1.cell? ⟨o, 1, none⟩ = some v := (hb.cell (p := ⟨o, 1, none⟩) (by show o < _; omega)).trans d1
  refine ⟨(h1.trans (hb.mono (by omega))).setCell (p := ⟨o, 1, none⟩) (by show s ≤ o; omega) _, ?_, ⟨?_, ?_, ?_, ?_⟩, ⟨?_, ?_, ?_, ?_⟩, ownsRow_setCell_below hown (a := ⟨o, 1, none⟩) (by show o < _; omega) _⟩
  · have : (w1.setCell ⟨o, 1, none⟩ v').heap.size = w1.heap.size := by simp
    rw [this]; exact Nat.lt_of_lt_of_le h2 hb.size
  · exact cell_apart (p := ⟨s, 0, none⟩) (q := ⟨o, 1, none⟩) (by show s ≠ o; omega) _ ((hb.cell (p := ⟨s, 0, none⟩) (by show s < _; omega)).trans c0)
  · exact cell_apart (p := ⟨s, 1, none⟩) (q := ⟨o, 1, none⟩) (by show s ≠ o; omega) _ ((hb.cell (p := ⟨s, 1, none⟩) (by show s < _; omega)).trans c1)
  · exact frozen_set _ _ _ _ ((hb.frozen (p := ⟨s, 0, none⟩) (by show s < _; omega)).trans c2)
  · exact frozen_set _ _ _ _ ((hb.frozen (p := ⟨s, 1, none⟩) (by show s < _; omega)).trans c3)
  · rw [World.cell?_setCell_other _ _ _ _ (by simp)]; exact e0
  · exact World.cell?_setCell_same' _ _ _ (by rw [e1]; rfl)
  · exact frozen_set _ _ _ _ ((hb.frozen (p := ⟨o, 0, none⟩) (by show o < _; omega)).trans d2)
  · exact frozen_set _ _ _ _ ((hb.frozen (p := ⟨o, 1, none⟩) (by show o < _; omega)).trans d3)
theorem info33' : ∃ i, Try.prog.info? 39 = some i ∧ i.zero = some (.agg #[.int .i64 0, .int .i64 0, .slice none 0 0]) ∧ i.size = 3 ∧ i.bytes = 40 := by
  obtain ⟨i, hi, hzz⟩ := Option.map_eq_some_iff.1 info33
  simp only [Prod.mk.injEq] at hzz
  exact ⟨i, hi, hzz.1, hzz.2.1, hzz.2.2⟩
theorem owns_drew {w : World} {base e size n : Nat} {v : Value} {xs : List Value} (h : w.ownsRow base e size v n xs) : w.drew.ownsRow base e size v n xs := h
end Go.Proofs.Ytimkcpbgnoekcaa
namespace Go.Proofs.Ytimkcpbgnoekcaa
open Go.ChangeShapes Go.WideShapes Go.ChangeAt Go.RowKit
set_option linter.unusedVariables false
set_option maxRecDepth 100000
theorem owns_below {e : TypeId} {size n base : Nat} {w w1 : World} {v : Value} {xs : List Value} (h : w.ownsRow base e size v n xs) (hb : Below w.heap.size w w1) : w1.ownsRow base e size v n xs := by
  obtain ⟨h1, h2⟩ := h
  refine ⟨h1, ?_⟩
  rcases h2 with ⟨rfl, h2⟩ | ⟨g, cap, cur, rfl, hbg, hg, hn, hm, hs, ht⟩
  · exact Or.inl ⟨rfl, h2⟩
  · exact Or.inr ⟨g, cap, cur, rfl, hbg, (hb.block g (lt_of_block hg)).trans hg, hn, hm, hs, ht⟩
/-- Cells, one behind the other, as they lie in a row. -/
def rowT (T : Nat → Value × Value × Value) (j : Nat) : List Value := (List.range j).flatMap fun i => [(T i).1, (T i).2.1, (T i).2.2]
theorem rowT_step (T : Nat → Value × Value × Value) (j : Nat) : rowT T (j + 1) = rowT T j ++ [(T j).1, (T j).2.1, (T j).2.2] := by
  simp [rowT, List.range_succ]
theorem rowT_len (T : Nat → Value × Value × Value) (j : Nat) : (rowT T j).length = j * 3 := by
  induction j with
  | zero => rfl
  | succ j ih => rw [rowT_step, List.length_append, ih]; simp; omega
theorem rowT_at (T : Nat → Value × Value × Value) (m i : Nat) (hi : i < m) : (rowT T m)[i * 3]? = some (T i).1 ∧ (rowT T m)[i * 3 + 1]? = some (T i).2.1 ∧ (rowT T m)[i * 3 + 2]? = some (T i).2.2 := by
  induction m with
  | zero => omega
  | succ m ih =>
    rw [rowT_step]
    have hl := rowT_len T m
    rcases Nat.lt_succ_iff_lt_or_eq.1 hi with h | rfl
    · rw [List.getElem?_append_left (by omega), List.getElem?_append_left (by omega), List.getElem?_append_left (by omega)]
      exact ih h
    · rw [List.getElem?_append_right (by omega), List.getElem?_append_right (by omega), List.getElem?_append_right (by omega), hl]
      simp
theorem owns_cellsT {w : World} {base m : Nat} {v : Value} (T : Nat → Value × Value × Value) (h : w.ownsRow base 39 3 v m (rowT T m)) :
    ∃ a2 cap, v = .slice a2 m cap ∧ (m = 0 ∨ ∃ g, a2 = some ⟨g, 0, none⟩ ∧ base ≤ g ∧ g < w.heap.size ∧ ∀ i, i < m → w.cell? ⟨g, i * 3, none⟩ = some (T i).1 ∧ w.cell? ⟨g, i * 3 + 1, none⟩ = some (T i).2.1 ∧ w.cell? ⟨g, i * 3 + 2, none⟩ = some (T i).2.2) := by
  have h' := h
  obtain ⟨h1, h2⟩ := h'
  rcases h2 with ⟨rfl, rfl⟩ | ⟨g, cap, cur, rfl, hb, hg, -⟩
  · exact ⟨none, 0, rfl, Or.inl rfl⟩
  · refine ⟨_, cap, rfl, Or.inr ⟨g, rfl, hb, lt_of_block hg, fun i hi => ?_⟩⟩
    obtain ⟨e0, e1, e2⟩ := rowT_at T m i hi
    exact ⟨(h.cellAt _ (by omega)).trans e0, (h.cellAt _ (by omega)).trans e1, (h.cellAt _ (by omega)).trans e2⟩
/-- A loop that appends numbers to the first field of the variable in block o. -/
structure GrowI (W : World) (o : Nat) (l : List Int) (j : Nat) (v : Value) (wr : World) : Prop where
  io : Below 0 W wr
  keep : ∀ b, b < W.heap.size → b ≠ o → wr.heap[b]? = W.heap[b]?
  c0 : wr.cell? ⟨o, 0, none⟩ = some v
  c1 : wr.cell? ⟨o, 1, none⟩ = some (.slice none 0 0)
  f0 : wr.frozen? ⟨o, 0, none⟩ = false
  f1 : wr.frozen? ⟨o, 1, none⟩ = false
  own : wr.ownsRow W.heap.size 3 1 v j ((l.take j).map (Value.int .i64))
theorem GrowI.step {W : World} {o : Nat} {l : List Int} {j : Nat} {v v' : Value} {wr w1 : World} (ho : o < W.heap.size) (h : GrowI W o l j v wr) (hb : Below W.heap.size wr w1) (hown : w1.ownsRow W.heap.size 3 1 v' (j + 1) ((l.take (j + 1)).map (Value.int .i64))) : GrowI W o l (j + 1) v' (w1.setCell ⟨o, 0, none⟩ v') := by
  have e0 : w1.cell? ⟨o, 0, none⟩ = some v := (hb.cell (p := ⟨o, 0, none⟩) ho).trans h.c0
  have e1 : w1.cell? ⟨o, 1, none⟩ = some (.slice none 0 0) := (hb.cell (p := ⟨o, 1, none⟩) ho).trans h.c1
  refine ⟨(h.io.trans (hb.mono (Nat.zero_le _))).setCell (p := ⟨o, 0, none⟩) (Nat.zero_le _) _, fun b hb1 hne => ?_, ?_, ?_, ?_, ?_, ownsRow_setCell_below hown (a := ⟨o, 0, none⟩) ho _⟩
  · rw [Below.heap_setCell _ _ _ _ (by show b ≠ o; exact hne), hb.block b hb1]
    exact h.keep b hb1 hne
  · exact World.cell?_setCell_same' _ _ _ (by rw [e0]; rfl)
  · rw [World.cell?_setCell_other _ _ _ _ (by simp)]; exact e1
  · exact frozen_set _ _ _ _ ((hb.frozen (p := ⟨o, 0, none⟩) ho).trans h.f0)
  · exact frozen_set _ _ _ _ ((hb.frozen (p := ⟨o, 1, none⟩) ho).trans h.f1)
theorem GrowI.cell {W : World} {o : Nat} {l : List Int} {j : Nat} {v : Value} {wr : World} (h : GrowI W o l j v wr) {b i : Nat} {u : Value} (hb : b < W.heap.size) (hne : b ≠ o) (hc : W.cell? ⟨b, i, none⟩ = some u) : wr.cell? ⟨b, i, none⟩ = some u := by
  rw [World.cell?_of_block (w := W) (h.keep b hb hne)]; exact hc
theorem GrowI.frozen {W : World} {o : Nat} {l : List Int} {j : Nat} {v : Value} {wr : World} (h : GrowI W o l j v wr) {b i : Nat} (hb : b < W.heap.size) (hne : b ≠ o) (hc : W.frozen? ⟨b, i, none⟩ = false) : wr.frozen? ⟨b, i, none⟩ = false := by
  rw [World.frozen?_of_block (w := W) (h.keep b hb hne)]; exact hc
theorem GrowI.below {W : World} {o B : Nat} {l : List Int} {j : Nat} {v : Value} {wr : World} (h : GrowI W o l j v wr) (h1 : B ≤ o) (h2 : o < W.heap.size) : Below B W wr := ⟨h.io.os, h.io.tape, h.io.output, h.io.size, fun k hk => h.keep k (by omega) (by omega)⟩
/-- The same of cells, in the second field. -/
structure GrowC (W : World) (o : Nat) (sv : Value) (T : Nat → Value × Value × Value) (j : Nat) (v : Value) (wr : World) : Prop where
  io : Below 0 W wr
  keep : ∀ b, b < W.heap.size → b ≠ o → wr.heap[b]? = W.heap[b]?
  c0 : wr.cell? ⟨o, 0, none⟩ = some sv
  c1 : wr.cell? ⟨o, 1, none⟩ = some v
  f1 : wr.frozen? ⟨o, 1, none⟩ = false
  own : wr.ownsRow W.heap.size 39 3 v j (rowT T j)
theorem GrowC.step {W : World} {o : Nat} {sv : Value} {T : Nat → Value × Value × Value} {j : Nat} {v v' : Value} {wr w1 : World} (ho : o < W.heap.size) (h : GrowC W o sv T j v wr) (hb : Below W.heap.size wr w1) (hown : w1.ownsRow W.heap.size 39 3 v' (j + 1) (rowT T (j + 1))) : GrowC W o sv T (j + 1) v' (w1.setCell ⟨o, 1, none⟩ v') := by
  have e0 : w1.cell? ⟨o, 0, none⟩ = some sv := (hb.cell (p := ⟨o, 0, none⟩) ho).trans h.c0
  have e1 : w1.cell? ⟨o, 1, none⟩ = some v := (hb.cell (p := ⟨o, 1, none⟩) ho).trans h.c1
  refine ⟨(h.io.trans (hb.mono (Nat.zero_le _))).setCell (p := ⟨o, 1, none⟩) (Nat.zero_le _) _, fun b hb1 hne => ?_, ?_, ?_, ?_, ownsRow_setCell_below hown (a := ⟨o, 1, none⟩) ho _⟩
  · rw [Below.heap_setCell _ _ _ _ (by show b ≠ o; exact hne), hb.block b hb1]
    exact h.keep b hb1 hne
  · rw [World.cell?_setCell_other _ _ _ _ (by simp)]; exact e0
  · exact World.cell?_setCell_same' _ _ _ (by rw [e1]; rfl)
  · exact frozen_set _ _ _ _ ((hb.frozen (p := ⟨o, 1, none⟩) ho).trans h.f1)
theorem GrowC.cell {W : World} {o : Nat} {sv : Value} {T : Nat → Value × Value × Value} {j : Nat} {v : Value} {wr : World} (h : GrowC W o sv T j v wr) {b i : Nat} {u : Value} (hb : b < W.heap.size) (hne : b ≠ o) (hc : W.cell? ⟨b, i, none⟩ = some u) : wr.cell? ⟨b, i, none⟩ = some u := by
  rw [World.cell?_of_block (w := W) (h.keep b hb hne)]; exact hc
theorem GrowC.frozen {W : World} {o : Nat} {sv : Value} {T : Nat → Value × Value × Value} {j : Nat} {v : Value} {wr : World} (h : GrowC W o sv T j v wr) {b i : Nat} (hb : b < W.heap.size) (hne : b ≠ o) (hc : W.frozen? ⟨b, i, none⟩ = false) : wr.frozen? ⟨b, i, none⟩ = false := by
  rw [World.frozen?_of_block (w := W) (h.keep b hb hne)]; exact hc
theorem GrowC.below {W : World} {o B : Nat} {sv : Value} {T : Nat → Value × Value × Value} {j : Nat} {v : Value} {wr : World} (h : GrowC W o sv T j v wr) (h1 : B ≤ o) (h2 : o < W.heap.size) : Below B W wr := ⟨h.io.os, h.io.tape, h.io.output, h.io.size, fun k hk => h.keep k (by omega) (by omega)⟩
end Go.Proofs.Ytimkcpbgnoekcaa
namespace Go.Proofs.Ytimkcpbgnoekcaa
open Go.ChangeShapes Go.WideShapes Go.ChangeAt Go.RowKit
set_option linter.unusedVariables false
set_option maxRecDepth 100000
theorem int2 : (Try.prog.info? 2).map (fun i => (i.zero, i.size, i.bytes)) = some (some (.int .i64 0), 1, 8) := by kernel_rfl
end Go.Proofs.Ytimkcpbgnoekcaa
namespace Go.Proofs.Ytimkcpbgnoekcaa
open Go.ChangeShapes Go.WideShapes Go.ChangeAt Go.RowKit
set_option linter.unusedVariables false
set_option maxRecDepth 100000
theorem wpList_append_B {P : Program} {w : World} {ops : Array Oper} {rest : List Oper} {o : Oper} {a : Act} {Q : Exit → Act → World → Prop} (hgd : o.guard = none) (s x : Operand) (t : TypeId)
    (ho : o.op = .call { callee := .builtin .append, args := #[s, x], argTypes := #[t, t] })
    (base : Nat) (e : TypeId) (i : TypeInfo) (z : Value) (size bytes : Nat) (ht : P.underlying t = some (.slice e)) (hi : P.info? e = some i) (hz : i.zero = some z)
    (hsize : i.size = size) (hby : i.bytes = bytes) (hzs : z.cells.size = size) (hsz : 0 < size)
    (v : Value) (n : Nat) (xs : List Value) (hs : a.eval s = v) (hown : w.ownsRow base e size v n xs)
    (ad : Addr) (m c : Nat) (news : List Value) (hx : a.eval x = .slice (some ad) m c) (hl : news.length = m * size) (hnews : ∀ j u, news[j]? = some u → w.cell? (ad.add j) = some u) (h1 : ∀ u ∈ news, u.oneCell' = true)
    (h63 : n + m ≤ maxLen) (hbytes : (n + m) * bytes ≤ 140737488355328) (hbase : base ≤ w.heap.size)
    (h : ∀ v' w', w'.ownsRow base e size v' (n + m) (xs ++ news) → Below base w w' → wpList P ops Q rest (a.put o.dst v') w') : wpList P ops Q (o :: rest) a w :=
  wpList_append_own w hgd s x t ho base e i z size bytes ht hi hz hsize hby hzs hsz v n xs hs hown ad m c news hx hl hnews h1 h63 hbytes hbase fun v' w' h2 h3 _ => h v' w' h2 ((Below.refl _ _).grown h3 hbase (fun q hq => (hown.lt q hq).1))
theorem owns_form1' {w : World} {base n : Nat} {e : TypeId} {v : Value} {xs : List Value} (h : w.ownsRow base e 1 v n xs) (hn : 0 < n) : ∃ g cap, v = .slice (some ⟨g, 0, none⟩) n cap ∧ base ≤ g ∧ g < w.heap.size := by
  rcases h.2 with ⟨rfl, h0⟩ | ⟨g, cap, cur, rfl, hb, hg, -⟩
  · omega
  · exact ⟨g, cap, rfl, hb, lt_of_block hg⟩
/-- A row of numbers, of whatever kind, that append has put together. -/
theorem owns_rowE {w : World} {base : Nat} {e : TypeId} {v : Value} (l : List Int) (hl : l.length ≤ 140737488355328) (h : w.ownsRow base e 1 v l.length (l.map (Value.int .i64))) : ∃ a cap, v = .slice a l.length cap ∧ Row base w a l := by
  have h' := h
  obtain ⟨h1, h2⟩ := h'
  rcases h2 with ⟨rfl, h2⟩ | ⟨g, cap, cur, rfl, hb, hg, -⟩
  · have e : l = [] := List.eq_nil_of_length_eq_zero h2
    subst e
    exact ⟨none, 0, rfl, row_nil _ _ _⟩
  · refine ⟨_, cap, rfl, hl, Or.inr ⟨g, 0, rfl, hb, lt_of_block hg, fun i hi => ?_⟩⟩
    rw [Nat.zero_add, h.cellAt i (by omega)]
    simp [hi]
end Go.Proofs.Ytimkcpbgnoekcaa
namespace Go.Proofs.Ytimkcpbgnoekcaa
open Go.ChangeShapes Go.WideShapes Go.ChangeAt Go.RowKit
set_option linter.unusedVariables false
set_option maxRecDepth 100000
/-- Where a part of a slice begins. -/
def subA (a : Option Addr) (l c sz : Nat) : Option Addr := if c = l then a else a.map (·.add (l * sz))
theorem part_lh {P : Program} {t e : TypeId} {sz : Nat} (ht : P.underlying t = some (.slice e)) (hsz : (P.info? e).map (·.size) = some sz) (a : Option Addr) (n c l h : Nat) (kl kh : Int) (el : kl = (l : Int)) (eh : kh = (h : Int)) (h1 : l ≤ h) (h2 : h ≤ c) (W : World) :
    (Instr.sliceAt t (.slice a n c) (some (.int .i64 kl)) (some (.int .i64 kh)) none).run P W = .ok (.slice (subA a l c sz) (h - l) (c - l)) W := by
  subst el eh
  have he : P.elem t = e := by simp [Program.elem, ht]
  have ht' : P.underlying t = some (.slice (P.elem t)) := by rw [he]; exact ht
  obtain ⟨i, hi, hs⟩ := Option.map_eq_some_iff.1 hsz
  rw [run_sliceAt_slice W t _ _ _ _ ht', run_slice_lh W t a n c ht' .i64 .i64 l h (by omega) (by omega) (by omega), he]
  simp [sizeOf, typeInfo, hi, hs, sliced, subA]
theorem part_l {P : Program} {t e : TypeId} {sz : Nat} (ht : P.underlying t = some (.slice e)) (hsz : (P.info? e).map (·.size) = some sz) (a : Option Addr) (n c l : Nat) (kl : Int) (el : kl = (l : Int)) (h1 : l ≤ n) (W : World) :
    (Instr.sliceAt t (.slice a n c) (some (.int .i64 kl)) none none).run P W = .ok (.slice (subA a l c sz) (n - l) (c - l)) W := by
  subst el
  have he : P.elem t = e := by simp [Program.elem, ht]
  have ht' : P.underlying t = some (.slice (P.elem t)) := by rw [he]; exact ht
  obtain ⟨i, hi, hs⟩ := Option.map_eq_some_iff.1 hsz
  rw [run_sliceAt_slice W t _ _ _ _ ht', run_slice_l W t a n c ht' .i64 l (by omega) (by omega), he]
  simp [sizeOf, typeInfo, hi, hs, sliced, subA]
/-- The part of a row of numbers. -/
theorem Row.part {lo : Nat} {w : World} {a : Option Addr} {zs : List Int} (R : Row lo w a zs) (l c m : Nat) (h1 : l + m ≤ zs.length) (h2 : zs.length ≤ c) : Row lo w (subA a l c 1) ((zs.drop l).take m) := by
  obtain ⟨r1, r2⟩ := R
  have hlen : ((zs.drop l).take m).length = m := by rw [List.length_take, List.length_drop]; omega
  refine ⟨by rw [hlen]; omega, ?_⟩
  by_cases hm : m = 0
  · left; exact List.eq_nil_of_length_eq_zero (by rw [hlen]; exact hm)
  · rcases r2 with rfl | ⟨b, off, rfl, hlo, hb, hc⟩
    · simp at h1; omega
    · refine Or.inr ⟨b, off + l, ?_, hlo, hb, fun i hi => ?_⟩
      · unfold subA; rw [if_neg (by omega)]; simp [Addr.add]
      · rw [hlen] at hi
        have := hc (l + i) (by omega)
        rw [show off + l + i = off + (l + i) by omega, this, List.getElem?_take_of_lt hi, List.getElem?_drop]
/-- The part of a row of cells. -/
theorem CellsIn.part {n lo : Nat} {w : World} {a : Option Addr} {cs : List Ce} (R : CellsIn n lo w cs a) (l c m : Nat) (h1 : l + m ≤ cs.length) (h2 : cs.length ≤ c) : CellsIn n lo w ((cs.drop l).take m) (subA a l c 3) := by
  have hlen : ((cs.drop l).take m).length = m := by rw [List.length_take, List.length_drop]; omega
  by_cases hm : m = 0
  · left; exact List.eq_nil_of_length_eq_zero (by rw [hlen]; exact hm)
  · rcases R with rfl | ⟨b, off, rfl, hlo, hb, hc⟩
    · simp at h1; omega
    · refine Or.inr ⟨b, off + l * 3, ?_, hlo, hb, fun i hi => ?_⟩
      · unfold subA; rw [if_neg (by omega)]; simp [Addr.add]
      · rw [hlen] at hi
        have := hc (l + i) (by omega)
        have e : cAt ((cs.drop l).take m) i = cAt cs (l + i) := by unfold cAt; rw [List.getElem?_take_of_lt hi, List.getElem?_drop]
        rw [e, show off + l * 3 + i * 3 = off + (l + i) * 3 by omega]
        exact this
theorem run_append_none_any {P : Program} {w : World} (base : Nat) (t ty e : TypeId) (i : TypeInfo) (size : Nat) (ht : P.underlying t = some (.slice e)) (hi : P.info? e = some i)
    (v : Value) (n c : Nat) (xs : List Value) (hown : w.ownsRow base e size v n xs) :
    (Builtin.append_ #[t, t] ty #[v, .slice none 0 c]).run P w = .ok v w := by
  rcases hown.2 with ⟨rfl, rfl⟩ | ⟨g, cap, cur, rfl, _, _, hnc, _⟩
  · simp [Builtin.append_, run_underlying ht, sizeOf, typeInfo, hi, Builtin.lenOf, Builtin.firstCells]
  · simp [Builtin.append_, run_underlying ht, sizeOf, typeInfo, hi, Builtin.lenOf, Builtin.firstCells, hnc, storeCells]
/-- Values that lie one behind the other from an address on, if there are any. -/
def Lies (w : World) (ad : Option Addr) (news : List Value) : Prop := (news = [] ∨ ∃ p, ad = some p ∧ p.block < w.heap.size ∧ ∀ j u, news[j]? = some u → w.cell? (p.add j) = some u) ∧ ∀ u ∈ news, u.oneCell' = true
theorem run_append_any {P : Program} {w : World} (base : Nat) (t ty e : TypeId) (i : TypeInfo) (z : Value) (size bytes : Nat) (ht : P.underlying t = some (.slice e)) (hi : P.info? e = some i) (hz : i.zero = some z)
    (hsize : i.size = size) (hby : i.bytes = bytes) (hzs : z.cells.size = size) (hsz : 0 < size)
    (v : Value) (n : Nat) (xs : List Value) (hown : w.ownsRow base e size v n xs)
    (ad : Option Addr) (m c : Nat) (news : List Value) (hl : news.length = m * size) (hnews : Lies w ad news)
    (h63 : n + m ≤ maxLen) (hbytes : (n + m) * bytes ≤ 140737488355328) (hbase : base ≤ w.heap.size) :
    ∃ v' w', (Builtin.append_ #[t, t] ty #[v, .slice ad m c]).run P w = .ok v' w' ∧ w'.ownsRow base e size v' (n + m) (xs ++ news) ∧ Below base w w' := by
  cases ad with
  | none =>
    have hn : news = [] := by
      rcases hnews.1 with h | ⟨p, hp, -⟩
      · exact h
      · cases hp
    subst hn
    have hm : m = 0 := by
      rcases Nat.eq_zero_or_pos m with h | h
      · exact h
      · have := Nat.mul_pos h hsz; simp at hl; omega
    subst hm
    exact ⟨v, w, run_append_none_any base t ty e i size ht hi v n c xs hown, by simpa using hown, Below.refl _ _⟩
  | some p =>
    have hc : ∀ j u, news[j]? = some u → w.cell? (p.add j) = some u := by
      rcases hnews.1 with h | ⟨q, hq, -, h⟩
      · subst h; intro j u hj; simp at hj
      · cases hq; exact h
    obtain ⟨v', w', hr, h2, h3, -⟩ := run_append_own (P := P) w base t ty e i z size bytes ht hi hz hsize hby hzs hsz v n xs hown p m c news hl hc hnews.2 h63 hbytes hbase
    exact ⟨v', w', hr, h2, (Below.refl _ _).grown h3 hbase (fun q hq => (hown.lt q hq).1)⟩
theorem wpList_append_any {P : Program} {w : World} {ops : Array Oper} {rest : List Oper} {o : Oper} {a : Act} {Q : Exit → Act → World → Prop} (hgd : o.guard = none) (s x : Operand) (t : TypeId)
    (ho : o.op = .call { callee := .builtin .append, args := #[s, x], argTypes := #[t, t] })
    (base : Nat) (e : TypeId) (i : TypeInfo) (z : Value) (size bytes : Nat) (ht : P.underlying t = some (.slice e)) (hi : P.info? e = some i) (hz : i.zero = some z)
    (hsize : i.size = size) (hby : i.bytes = bytes) (hzs : z.cells.size = size) (hsz : 0 < size)
    (v : Value) (n : Nat) (xs : List Value) (hs : a.eval s = v) (hown : w.ownsRow base e size v n xs)
    (ad : Option Addr) (m c : Nat) (news : List Value) (hx : a.eval x = .slice ad m c) (hl : news.length = m * size) (hnews : Lies w ad news)
    (h63 : n + m ≤ maxLen) (hbytes : (n + m) * bytes ≤ 140737488355328) (hbase : base ≤ w.heap.size)
    (h : ∀ v' w', w'.ownsRow base e size v' (n + m) (xs ++ news) → Below base w w' → wpList P ops Q rest (a.put o.dst v') w') : wpList P ops Q (o :: rest) a w := by
  obtain ⟨v', w', hr, h2, h3⟩ := run_append_any base t o.type e i z size bytes ht hi hz hsize hby hzs hsz v n xs hown ad m c news hl hnews h63 hbytes hbase
  exact wpList_append_run (by simp [Region.wanted, hgd]) s x t t ho _ _ hs hx v' w' hr (h v' w' h2 h3)
theorem step_append_any {P : Program} {w : World} {ops : Array Oper} {o : Oper} {a : Act} {K : Act → World → Prop} {Q : Exit → Act → World → Prop} {E : Prop} (hg : o.guard = none) (s x : Operand) (t : TypeId)
    (ho : o.op = .call { callee := .builtin .append, args := #[s, x], argTypes := #[t, t] })
    (base : Nat) (e : TypeId) (i : TypeInfo) (z : Value) (size bytes : Nat) (ht : P.underlying t = some (.slice e)) (hi : P.info? e = some i) (hz : i.zero = some z)
    (hsize : i.size = size) (hby : i.bytes = bytes) (hzs : z.cells.size = size) (hsz : 0 < size)
    (v : Value) (n : Nat) (xs : List Value) (hs : a.eval s = v) (hown : w.ownsRow base e size v n xs)
    (ad : Option Addr) (m c : Nat) (news : List Value) (hx : a.eval x = .slice ad m c) (hl : news.length = m * size) (hnews : Lies w ad news)
    (h63 : n + m ≤ maxLen) (hbytes : (n + m) * bytes ≤ 140737488355328) (hbase : base ≤ w.heap.size)
    (h : ∀ v' w', w'.ownsRow base e size v' (n + m) (xs ++ news) → Below base w w' → K (a.put o.dst v') w') : if Region.wanted o (yielded ops a.tmps) = true then Oper.wp P o a w K Q else E := by
  have hw : Region.wanted o (yielded ops a.tmps) = true := by simp [Region.wanted, hg]
  rw [if_pos hw]
  obtain ⟨v', w', hr, h2, h3⟩ := run_append_any base t o.type e i z size bytes ht hi hz hsize hby hzs hsz v n xs hown ad m c news hl hnews h63 hbytes hbase
  unfold Oper.wp execOp
  simp only [ho, resolve, invoke, builtin, Sem.run_bind, Sem.run_pure, Result.andThen_ok, List.map_toArray, List.map_cons, List.map_nil, hs, hx, hr]
  exact h v' w' h2 h3
theorem Row.lies {lo : Nat} {w : World} {a : Option Addr} {zs : List Int} (R : Row lo w a zs) : Lies w a (zs.map (Value.int .i64)) := by
  refine ⟨?_, fun u hu => by obtain ⟨y, -, rfl⟩ := List.mem_map.1 hu; rfl⟩
  rcases R.2 with rfl | ⟨b, off, rfl, -, hb, hc⟩
  · exact Or.inl rfl
  · refine Or.inr ⟨_, rfl, hb, fun j u hj => ?_⟩
    rw [List.getElem?_map] at hj
    obtain ⟨z, hz, rfl⟩ := Option.map_eq_some_iff.1 hj
    have hjl : j < zs.length := by
      rcases Nat.lt_or_ge j zs.length with h | h
      · exact h
      · rw [List.getElem?_eq_none h] at hz; cases hz
    rw [add_off, hc j hjl, hz]; rfl
/-- The three values of each cell. -/
def cellT (cs : List Ce) (ab : Nat → Option Addr) (cb : Nat → Nat) (i : Nat) : Value × Value × Value := (.int .i64 (cAt cs i).1, .int .i64 (cAt cs i).2.1, .slice (ab i) (cAt cs i).2.2.length (cb i))
theorem rowT_one (T : Nat → Value × Value × Value) (m : Nat) (h : ∀ i, i < m → (T i).1.oneCell' = true ∧ (T i).2.1.oneCell' = true ∧ (T i).2.2.oneCell' = true) : ∀ u ∈ rowT T m, u.oneCell' = true := by
  intro u hu
  unfold rowT at hu
  rw [List.mem_flatMap] at hu
  obtain ⟨i, hi, hu⟩ := hu
  have := h i (List.mem_range.1 hi)
  simp at hu
  rcases hu with rfl | rfl | rfl
  · exact this.1
  · exact this.2.1
  · exact this.2.2
/-- Cells of an array as values that lie one behind the other. -/
theorem cells_lie {n lo : Nat} {w : World} {cs : List Ce} {a : Option Addr} (h : CellsIn n lo w cs a) : ∃ (ab : Nat → Option Addr) (cb : Nat → Nat), Lies w a (rowT (cellT cs ab cb) cs.length) ∧ ∀ i, i < cs.length → CeIn (fun x v => ArIn n lo w x v) lo w (cAt cs i) (cellT cs ab cb i).1 (cellT cs ab cb i).2.1 (cellT cs ab cb i).2.2 := by
  obtain ⟨ab, cb, hf⟩ := cells_fn h
  refine ⟨ab, cb, ⟨?_, rowT_one _ _ fun i _ => ⟨rfl, rfl, rfl⟩⟩, fun i hi => ?_⟩
  · by_cases h0 : 0 < cs.length
    · obtain ⟨b, off, rfl, -, hb, hc⟩ := hf h0
      refine Or.inr ⟨_, rfl, hb, fun j u hj => ?_⟩
      have hjl : j < cs.length * 3 := by
        rcases Nat.lt_or_ge j (cs.length * 3) with h | h
        · exact h
        · rw [List.getElem?_eq_none (by rw [rowT_len]; exact h)] at hj; cases hj
      obtain ⟨t0, t1, t2⟩ := rowT_at (cellT cs ab cb) cs.length (j / 3) (by omega)
      obtain ⟨g0, g1, g2, -⟩ := hc (j / 3) (by omega)
      rw [add_off]
      have hm : j = j / 3 * 3 ∨ j = j / 3 * 3 + 1 ∨ j = j / 3 * 3 + 2 := by omega
      rcases hm with e | e | e
      · rw [← e] at t0 g0; rw [t0] at hj; cases hj; exact g0
      · rw [← e] at t1; rw [t1] at hj; cases hj
        rw [show off + j = off + j / 3 * 3 + 1 by omega]; exact g1
      · rw [← e] at t2; rw [t2] at hj; cases hj
        rw [show off + j = off + j / 3 * 3 + 2 by omega]; exact g2
    · have : cs.length = 0 := by omega
      rw [this]; exact Or.inl rfl
  · obtain ⟨b, off, rfl, -, hb, hc⟩ := hf (by omega)
    exact (hc i hi).2.2.2
/-- Rows that append has put together may be written. -/
theorem owns_softC {w : World} {base g cap n : Nat} {e : TypeId} {l : List Int} (hl : l.length = n) (h : w.ownsRow base e 1 (.slice (some ⟨g, 0, none⟩) n cap) n (l.map (Value.int .i64))) : SoftC w g l := by
  intro i hi
  refine ⟨?_, h.frozenAt i⟩
  rw [h.cellAt i (by omega), List.getElem?_map]
  unfold gI
  rw [List.getElem?_eq_getElem hi]; rfl
theorem Lies.next {w w' : World} {a : Option Addr} {l : List Value} (h : Lies w a l) (hb : Below w.heap.size w w') : Lies w' a l := by
  refine ⟨?_, h.2⟩
  rcases h.1 with h1 | ⟨p, hp, hl, h1⟩
  · exact Or.inl h1
  · refine Or.inr ⟨p, hp, Nat.lt_of_lt_of_le hl hb.size, fun j u hj => (hb.cell (p := p.add j) ?_).trans (h1 j u hj)⟩
    have e : (p.add j).block = p.block := by unfold Addr.add; split <;> rfl
    rw [e]; exact hl
def itemAt (x : Ar) (i m : Nat) : Ar := .mk x.shape.tail ((x.cells.drop (i * m)).take m)
/-- An array is given back: its memory is what w0 held, which came in, or new; it stays what it is as long as both are kept. -/
def GivesZ (n : Nat) (w0 : World) (x : Ar) (w : World) (e : Ending) (w' : World) : Prop := (∃ v, e = .returned v ∧ ∀ W, Below w0.heap.size w0 W → Keeps w.heap.size w' W → ArIn n 0 W x v) ∧ Below w.heap.size w w'
def Gives2Z (n : Nat) (w0 : World) (x : Ar) (E : Int) (w : World) (e : Ending) (w' : World) : Prop := (∃ v, e = .returned (.tuple #[v, .int .i64 E]) ∧ ∀ W, Below w0.heap.size w0 W → Keeps w.heap.size w' W → ArIn n 0 W x v) ∧ Below w.heap.size w w'
theorem gives2z_of {n : Nat} {x : Ar} {E : Int} {w0 w w' : World} {v : Value} {R : Ar × Int} (hR : R = (x, E)) (hx : ∀ W, Below w0.heap.size w0 W → Keeps w.heap.size w' W → ArIn n 0 W x v) (hb : Below w.heap.size w w') : Gives2Z n w0 R.1 R.2 w (.returned (.tuple #[v, .int .i64 E])) w' := by
  subst hR
  exact ⟨⟨_, rfl, hx⟩, hb⟩
theorem owns_keeps {e : TypeId} {size n base lo : Nat} {w w1 : World} {v : Value} {xs : List Value} (h : w.ownsRow base e size v n xs) (hk : Keeps lo w w1) (hl : lo ≤ base) : w1.ownsRow base e size v n xs := by
  obtain ⟨h1, h2⟩ := h
  refine ⟨h1, ?_⟩
  rcases h2 with ⟨rfl, h2⟩ | ⟨g, cap, cur, rfl, hbg, hg, hn, hm, hs, ht⟩
  · exact Or.inl ⟨rfl, h2⟩
  · exact Or.inr ⟨g, cap, cur, rfl, hbg, (hk.2 g (by omega) (lt_of_block hg)).trans hg, hn, hm, hs, ht⟩
theorem Keeps.trans {lo : Nat} {w w1 w2 : World} (h1 : Keeps lo w w1) (h2 : Keeps lo w1 w2) : Keeps lo w w2 := ⟨Nat.le_trans h1.1 h2.1, fun b hb1 hb2 => (h2.2 b hb1 (Nat.lt_of_lt_of_le hb2 h1.1)).trans (h1.2 b hb1 hb2)⟩
theorem Keeps.mono {lo lo' : Nat} {w w1 : World} (h : Keeps lo w w1) (hl : lo ≤ lo') : Keeps lo' w w1 := ⟨h.1, fun b h1 h2 => h.2 b (Nat.le_trans hl h1) h2⟩
theorem size36 : (Try.prog.info? 39).map (·.size) = some 3 := by kernel_rfl
theorem Lies.drew {w : World} {a : Option Addr} {l : List Value} (h : Lies w a l) : Lies w.drew a l := h
theorem caps_form {a1 a2 : Option Addr} {n1 c1 n2 c2 : Nat} (h : Caps (.agg #[.slice a1 n1 c1, .slice a2 n2 c2])) : n1 ≤ c1 ∧ n2 ≤ c2 := by
  obtain ⟨b1, m1, k1, b2, m2, k2, hv, h1, h2⟩ := h
  simp only [Value.agg.injEq, Array.mk.injEq, List.cons.injEq, Value.slice.injEq, and_true] at hv
  obtain ⟨⟨-, rfl, rfl⟩, -, rfl, rfl⟩ := hv
  exact ⟨h1, h2⟩
theorem Row.lt {lo : Nat} {w : World} {a : Option Addr} {l : List Int} (R : Row lo w a l) (h0 : 0 < l.length) : ∃ b off, a = some ⟨b, off, none⟩ ∧ b < w.heap.size := by
  obtain ⟨b, off, h, hb, -⟩ := row_at R h0
  exact ⟨b, off, h, hb⟩
theorem Lies.row_next {lo : Nat} {w w' : World} {a : Option Addr} {l : List Int} (R : Row lo w a l) (hb : Below w.heap.size w w') : Lies w' a (l.map (Value.int .i64)) := (R.next hb).lies
/-- Cells that were appended, as an array's. -/
theorem cells_of_own {n lo base : Nat} {w0 w : World} {cs : List Ce} {T : Nat → Value × Value × Value} {v : Value} (hown : w.ownsRow base 39 3 v cs.length (rowT T cs.length)) (hb : Below w0.heap.size w0 w) (hT : ∀ i, i < cs.length → CeIn (fun x v => ArIn n lo w0 x v) lo w0 (cAt cs i) (T i).1 (T i).2.1 (T i).2.2) : ∃ a c, v = .slice a cs.length c ∧ cs.length ≤ c ∧ CellsIn n 0 w cs a := by
  obtain ⟨a, c, rfl, h⟩ := owns_cellsT T hown
  refine ⟨a, c, rfl, ?_, ?_⟩
  · rcases hown.2 with ⟨h1, h2⟩ | ⟨g, cap, cur, h1, -, -, h2, -⟩
    · rw [h2]; omega
    · simp only [Value.slice.injEq] at h1; omega
  · rcases h with h0 | ⟨g, rfl, hg1, hg2, hcc⟩
    · exact Or.inl (List.eq_nil_of_length_eq_zero h0)
    · refine Or.inr ⟨g, 0, rfl, Nat.zero_le _, hg2, fun i hi => ?_⟩
      obtain ⟨e0, e1, e2⟩ := hcc i hi
      rw [Nat.zero_add]
      exact ⟨_, _, _, e0, e1, e2, (hT i hi).mono (Nat.zero_le _) hb fun x v h => h.mono (Nat.zero_le _) hb⟩
theorem owns_cap {w : World} {base n size : Nat} {e : TypeId} {v : Value} {xs : List Value} (h : w.ownsRow base e size v n xs) : ∃ a cap, v = .slice a n cap ∧ n ≤ cap := by
  rcases h.2 with ⟨rfl, h0⟩ | ⟨g, cap, cur, rfl, hb, hg, h1, -⟩
  · exact ⟨none, 0, by rw [h0], by omega⟩
  · exact ⟨_, _, rfl, h1⟩
set_option maxHeartbeats 4000000 in
theorem ritem_any {n lo i m : Nat} {x : Ar} {va : Value} {w0 w : World} (hx : ArIn (n + 1) lo w0 x va) (hb0 : Below w0.heap.size w0 w) (hs : 0 < x.shape.length) (h8 : x.shape.length ≤ 8) (hE : sizeV x.shape.tail = (m : Int)) (hm : i * m + m ≤ x.cells.length) (hc16 : x.cells.length ≤ 16384) (hi16 : i ≤ 16384) (hcap : Caps va) :
    Calls Try.prog 19 #[va, .int .i64 (i : Int)] w fun e w' => GivesZ (n + 1) w0 (itemAt x i m) w e w' := by
  obtain ⟨a1, c1, a2, c2, rfl, R, hc⟩ := hx.form
  obtain ⟨hc1, hc2⟩ := caps_form hcap
  obtain ⟨i3, hi3, hz30, hz31, hz32⟩ := infoI3
  obtain ⟨i0, hi0, hz00, hz01, hz02⟩ := info33'
  have I := in2_new w (.slice a1 x.shape.length c1) (.slice a2 x.cells.length c2)
  obtain ⟨W2, e2⟩ : ∃ W2, (w.alloc (.cells #[.slice a1 x.shape.length c1, .slice a2 x.cells.length c2] 25)).alloc (.cells #[.slice none 0 0, .slice none 0 0] 25) = W2 := ⟨_, rfl⟩
  rw [e2] at I
  have z2 : W2.heap.size = w.heap.size + 2 := by rw [← e2]; simp
  have q0 := I.q0
  have q1 := I.q1
  have HI := hide I
  have HP1 := hide fun W => part_l (P := Try.prog) Try.underlying22 size3 a1 x.shape.length c1 1 1 rfl hs W
  have hp1 := HP1.out
  have ht : ((x.shape.drop 1).take (x.shape.length - 1)) = x.shape.tail := by rw [List.take_of_length_le (by rw [List.length_drop]; omega), List.drop_one]
  have RT : Row lo w0 (subA a1 1 c1 1) x.shape.tail := by have := R.part 1 c1 (x.shape.length - 1) (by omega) hc1; rw [ht] at this; exact this
  have tl : x.shape.tail.length = x.shape.length - 1 := by rw [List.length_tail]
  have C := rsize_any x.shape.tail (subA a1 1 c1 1) (c1 - 1) W2 (RT.next (hb0.trans (I.bel.mono hb0.size)))
  rw [tl, hE] at C
  generalize sizeE x.shape.tail = EE at *
  have CP := hc.part (i * m) c2 m hm hc2
  have hcl : ((x.cells.drop (i * m)).take m).length = m := by rw [List.length_take, List.length_drop]; omega
  obtain ⟨pp, hpp⟩ : ∃ pp : Nat, i * m = pp := ⟨_, rfl⟩
  obtain ⟨qq, hqq⟩ : ∃ qq : Nat, pp + m = qq := ⟨_, rfl⟩
  have hwp : IntKind.i64.wrap ((i : Int) * (m : Int)) = (pp : Int) := by rw [← Int.natCast_mul, hpp]; exact IntWalk.i64_in _ ⟨by omega, by omega⟩
  have hwq : IntKind.i64.wrap ((pp : Int) + (m : Int)) = (qq : Int) := by rw [← Int.natCast_add, hqq]; exact IntWalk.i64_in _ ⟨by omega, by omega⟩
  have hp2 : ∀ W, (Instr.sliceAt 23 (.slice a2 x.cells.length c2) (some (.int .i64 (pp : Int))) (some (.int .i64 (qq : Int))) none).run Try.prog W = .ok (.slice (subA a2 (i * m) c2 3) m (c2 - i * m)) W := fun W => by
    have := part_lh (P := Try.prog) Try.underlying23 size36 a2 x.cells.length c2 (i * m) (i * m + m) (pp : Int) (qq : Int) (by rw [hpp]) (by rw [hpp, hqq]) (by omega) (by omega) W
    rw [this, show i * m + m - i * m = m by omega]
  obtain ⟨ab, cb, hlie, hce⟩ := cells_lie CP
  have hm16 : m ≤ 16384 := by omega
  rw [hcl] at hlie hce
  have HL := hide (And.intro hlie hce)
  have HR := hide (And.intro RT CP)
  have HB0 := hide hb0
  have HK := hide (And.intro hs (And.intro h8 (And.intro tl hcl)))
  have hSA := hide (rfl : x.shape.length = x.shape.length)
  obtain ⟨SA, hSA⟩ : ∃ SA, x.shape.length = SA := ⟨_, rfl⟩
  obtain ⟨CA, hCA⟩ : ∃ CA, x.cells.length = CA := ⟨_, rfl⟩
  simp only [hSA, hCA] at C e2 q0 q1 HI hp1 hp2 HK hc1 hc2 hm hc16 h8 hs ⊢
  obtain ⟨at', hat⟩ : ∃ at', subA a1 1 c1 1 = at' := ⟨_, rfl⟩
  obtain ⟨ac, hac⟩ : ∃ ac, subA a2 (i * m) c2 3 = ac := ⟨_, rfl⟩
  obtain ⟨cc, hcc⟩ : ∃ cc, c2 - i * m = cc := ⟨_, rfl⟩
  obtain ⟨ct, hct⟩ : ∃ ct, c1 - 1 = ct := ⟨_, rfl⟩
  obtain ⟨SM, hSM⟩ : ∃ SM, SA - 1 = SM := ⟨_, rfl⟩
  rw [hat] at C HR
  simp only [hat, hct, hSM] at hp1 C HK
  simp only [hac, hcc] at hp2 HR HL
  have hSM8 : SM ≤ 8 := by omega
  clear RT CP hlie hce ht tl hcl hE hx R hc I hcap HP1 hSA hCA hat hac hcc hct hSM hpp hqq
  go_enter Try.func19, Try.ntmps19
  go_wp2_with fail
  clear e2
  refine C.mono ?_
  rintro e w1 ⟨rfl, rfl⟩
  clear C q0 q1
  obtain ⟨W3, e3⟩ : ∃ W3, w1.alloc (.cells #[.slice none 0 0, .slice none 0 0] 25) = W3 := ⟨_, rfl⟩
  have z3 : W3.heap.size = w.heap.size + 3 := by rw [← e3]; simp [z2]
  have B3 : Below w1.heap.size w1 W3 := by rw [← e3]; exact one_alloc _ _
  have o0 : W3.cell? ⟨w.heap.size + 2, 0, none⟩ = some (.slice none 0 0) := by rw [← e3, ← z2]; exact cell_new0 w1 _ 25 0 _ rfl
  have o1 : W3.cell? ⟨w.heap.size + 2, 1, none⟩ = some (.slice none 0 0) := by rw [← e3, ← z2]; exact cell_new0 w1 _ 25 1 _ rfl
  have of0 : W3.frozen? ⟨w.heap.size + 2, 0, none⟩ = false := by rw [← e3, ← z2]; exact frozen_new w1 _ 25 0
  have of1 : W3.frozen? ⟨w.heap.size + 2, 1, none⟩ = false := by rw [← e3, ← z2]; exact frozen_new w1 _ 25 1
  have I3 := HI.out.next B3
  have q0 := I3.q0
  have HLS : Hid (Lies W3.drew at' (x.shape.tail.map (Value.int .i64))) := (Lies.row_next HR.out.1 (HB0.out.trans (I3.bel.mono HB0.out.size))).drew
  have hsl : (x.shape.tail.map (Value.int .i64)).length = SM * 1 := by rw [List.length_map, HK.out.2.2.1]; omega
  have HI3 := hide I3
  have HZ3 := hide z3
  have HMX : Hid (0 + SM ≤ maxLen ∧ (0 + SM) * 8 ≤ 140737488355328) := ⟨by unfold maxLen; omega, by omega⟩
  have hO : Hid (w.heap.size + 2 < W3.heap.size) := by unfold Hid; omega
  have HE3 := hide e3
  clear I3 B3 HI z3 e3
  go_wp2
  rw [HE3.out]
  clear HE3
  go_cut [5] from 16 to 22 (fun s5 wx => s5 = .int .i64 (m : Int) ∧ ∃ al cl w4, SM ≤ cl ∧ w4.ownsRow W3.heap.size 3 1 (.slice al SM cl) SM (x.shape.tail.map (Value.int .i64)) ∧ Below W3.heap.size W3 w4 ∧ wx = w4.setCell ⟨w.heap.size + 2, 0, none⟩ (.slice al SM cl))
  case first =>
    go_region_law (refine step_append_any rfl (.tmp 17) (.tmp 20) 22 rfl W3.heap.size 3 i3 (.int .i64 0) 1 8 Try.underlying22 hi3 hz30 hz31 hz32 rfl (by decide) (.slice none 0 0) 0 [] rfl (World.ownsRow_nil _ _ _ _) at' SM ct (x.shape.tail.map (Value.int .i64)) rfl hsl HLS.out HMX.out.1 HMX.out.2 (Nat.le_refl _) ?_; intro v' w4 hown4 hb4; obtain ⟨al, cl, rfl, hcap4⟩ := owns_cap hown4; have d0 := hb4.cell (p := ⟨w.heap.size + 2, 0, none⟩) hO.out |>.trans o0; have df0 := hb4.frozen (p := ⟨w.heap.size + 2, 0, none⟩) hO.out |>.trans of0)
    all_goals
      simp only [List.nil_append, Nat.zero_add] at hown4 hcap4 ⊢
      have HF4 := hide (And.intro hcap4 (And.intro hown4 hb4))
      clear hown4 hcap4 hb4
      go_wp2
      go_meet
    all_goals
      case rel => exact ⟨rfl, _, _, _, HF4.out.1, HF4.out.2.1, (Below.refl _ _).drew.trans HF4.out.2.2, rfl⟩
  case rest =>
    obtain ⟨rfl, al, cl, w4, hcl, hown4, hb4, rfl⟩ := hcut
    clear q0 HLS hsl HMX
    obtain ⟨al', cl', hal, RL⟩ := owns_rowE x.shape.tail (by rw [HK.out.2.2.1]; omega) (by rw [HK.out.2.2.1]; exact hown4)
    simp only [Value.slice.injEq] at hal
    obtain ⟨rfl, -, rfl⟩ := hal
    have hz3 := HZ3.out
    have d0 : w4.cell? ⟨w.heap.size + 2, 0, none⟩ = some (.slice none 0 0) := (hb4.cell (p := ⟨w.heap.size + 2, 0, none⟩) (by show w.heap.size + 2 < _; omega)).trans o0
    obtain ⟨w5, e5⟩ : ∃ w5, w4.setCell ⟨w.heap.size + 2, 0, none⟩ (.slice al SM cl) = w5 := ⟨_, rfl⟩
    have z5 : w5.heap.size = w4.heap.size := by rw [← e5]; simp
    have z45 := hb4.size
    have I5 : In2 w (.slice a1 SA c1) (.slice a2 CA c2) w5 := by rw [← e5]; exact (HI3.out.belowS hb4 (by omega)).set (by omega) _
    have t0 : w5.cell? ⟨w.heap.size + 2, 0, none⟩ = some (.slice al SM cl) := by rw [← e5]; exact World.cell?_setCell_same' _ _ _ (by rw [d0]; rfl)
    have t1 : w5.cell? ⟨w.heap.size + 2, 1, none⟩ = some (.slice none 0 0) := by rw [← e5, World.cell?_setCell_other _ _ _ _ (by simp)]; exact (hb4.cell (p := ⟨w.heap.size + 2, 1, none⟩) (by show w.heap.size + 2 < _; omega)).trans o1
    have tf1 : w5.frozen? ⟨w.heap.size + 2, 1, none⟩ = false := by rw [← e5]; exact frozen_set _ _ _ _ ((hb4.frozen (p := ⟨w.heap.size + 2, 1, none⟩) (by show w.heap.size + 2 < _; omega)).trans of1)
    have K5 : Keeps W3.heap.size w4 w5 := by rw [← e5]; exact (Keeps.refl _ _).setCell (p := ⟨w.heap.size + 2, 0, none⟩) (by show w.heap.size + 2 < _; omega) _
    have HRL := hide (RL.keeps K5)
    have HI5 := hide I5
    have q1 := I5.q1
    have HLC : Hid (Lies w5.drew ac (rowT (cellT ((x.cells.drop (i * m)).take m) ab cb) m)) := (HL.out.1.next (HB0.out.trans (I5.bel.mono HB0.out.size))).drew
    have hsl : (rowT (cellT ((x.cells.drop (i * m)).take m) ab cb) m).length = m * 3 := rowT_len _ _
    have HMX : Hid (0 + m ≤ maxLen ∧ (0 + m) * 40 ≤ 140737488355328) := ⟨by unfold maxLen; omega, by omega⟩
    have hO5 : Hid (w.heap.size + 2 < w5.heap.size) := by unfold Hid; omega
    have HS := hide (And.intro z5 (And.intro z45 hz3))
    clear I5 K5 RL d0 hown4 hb4 HI3 z5 z45 hz3 o0 o1 of0 of1 hO hp1 HZ3
    rw [e5]
    clear e5
    go_wp2
    go_cut [5] from 23 to 37 (fun s5 wx => s5 = .int .i64 (m : Int) ∧ ∃ a3 c3 w6, m ≤ c3 ∧ w6.ownsRow w5.heap.size 39 3 (.slice a3 m c3) m (rowT (cellT ((x.cells.drop (i * m)).take m) ab cb) m) ∧ Below w5.heap.size w5 w6 ∧ wx = w6.setCell ⟨w.heap.size + 2, 1, none⟩ (.slice a3 m c3))
    case first =>
      go_region_law (refine step_append_any rfl (.tmp 24) (.tmp 35) 23 rfl w5.heap.size 39 i0 (.agg #[.int .i64 0, .int .i64 0, .slice none 0 0]) 3 40 Try.underlying23 hi0 hz00 hz01 hz02 rfl (by decide) (.slice none 0 0) 0 [] rfl (World.ownsRow_nil _ _ _ _) ac m cc (rowT (cellT ((x.cells.drop (i * m)).take m) ab cb) m) rfl hsl HLC.out HMX.out.1 HMX.out.2 (Nat.le_refl _) ?_; intro v' w6 hown6 hb6; obtain ⟨a3, c3, rfl, hcap6⟩ := owns_cap hown6; have d0 := hb6.cell (p := ⟨w.heap.size + 2, 1, none⟩) hO5.out |>.trans t1; have df0 := hb6.frozen (p := ⟨w.heap.size + 2, 1, none⟩) hO5.out |>.trans tf1)
      all_goals
        simp only [List.nil_append, Nat.zero_add] at hown6 hcap6 ⊢
        have HF4 := hide (And.intro hcap6 (And.intro hown6 hb6))
        clear hown6 hcap6 hb6
        go_wp2
        go_meet
      all_goals
        case rel => exact ⟨rfl, _, _, _, HF4.out.1, HF4.out.2.1, (Below.refl _ _).drew.trans HF4.out.2.2, rfl⟩
    case rest =>
      obtain ⟨rfl, a3, c3, w6, hcl3, hown6, hb6, rfl⟩ := hcut
      clear q1 HLC hsl HMX hwp hwq hp2
      have hz := HS.out
      have hb6s := hb6.size
      have hcl := HK.out.2.2.2
      have d1 : w6.cell? ⟨w.heap.size + 2, 1, none⟩ = some (.slice none 0 0) := (hb6.cell (p := ⟨w.heap.size + 2, 1, none⟩) (by show w.heap.size + 2 < _; omega)).trans t1
      have d0 : w6.cell? ⟨w.heap.size + 2, 0, none⟩ = some (.slice al SM cl) := (hb6.cell (p := ⟨w.heap.size + 2, 0, none⟩) (by show w.heap.size + 2 < _; omega)).trans t0
      obtain ⟨w7, e7⟩ : ∃ w7, w6.setCell ⟨w.heap.size + 2, 1, none⟩ (.slice a3 m c3) = w7 := ⟨_, rfl⟩
      have I7 : In2 w (.slice a1 SA c1) (.slice a2 CA c2) w7 := by rw [← e7]; exact (HI5.out.belowS hb6 (by omega)).set (by omega) _
      have s0 : w7.cell? ⟨w.heap.size + 2, 0, none⟩ = some (.slice al SM cl) := by rw [← e7, World.cell?_setCell_other _ _ _ _ (by simp)]; exact d0
      have s1 : w7.cell? ⟨w.heap.size + 2, 1, none⟩ = some (.slice a3 m c3) := by rw [← e7]; exact World.cell?_setCell_same' _ _ _ (by rw [d1]; rfl)
      have K7 : Keeps (w.heap.size + 3) w6 w7 := by rw [← e7]; exact (Keeps.refl _ _).setCell (p := ⟨w.heap.size + 2, 1, none⟩) (by show w.heap.size + 2 < _; omega) _
      have p0 := I7.p0
      have p1 := I7.p1
      have f0 := I7.f0
      have f1 := I7.f1
      have HT := hide (I7.put (.slice al SM cl) (.slice a3 m c3))
      have HFIN : Hid (∀ u v, GivesZ (n + 1) w0 (itemAt x i m) w (.returned (.agg #[.slice al SM cl, .slice a3 m c3])) ((w7.setCell ⟨w.heap.size + 1, 0, none⟩ u).setCell ⟨w.heap.size + 1, 1, none⟩ v)) := by
        intro u v
        refine ⟨⟨_, rfl, fun W hW hK => ?_⟩, I7.fin u v⟩
        have K8 : Keeps (w.heap.size + 3) w7 ((w7.setCell ⟨w.heap.size + 1, 0, none⟩ u).setCell ⟨w.heap.size + 1, 1, none⟩ v) := ((Keeps.refl _ _).setCell (p := ⟨w.heap.size + 1, 0, none⟩) (by show w.heap.size + 1 < _; omega) u).setCell (p := ⟨w.heap.size + 1, 1, none⟩) (by show w.heap.size + 1 < _; omega) v
        have K9 := (K7.trans K8).trans (hK.mono (show w.heap.size ≤ w.heap.size + 3 by omega))
        have hown8 := owns_keeps hown6 K9 (by omega)
        obtain ⟨a3', c3', ha3, -, HC6⟩ := cells_of_own (lo := lo) (n := n) (w0 := w0) (cs := (x.cells.drop (i * m)).take m) (by rw [hcl]; exact hown8) hW (by rw [hcl]; exact HL.out.2)
        simp only [Value.slice.injEq] at ha3
        obtain ⟨rfl, -, rfl⟩ := ha3
        have RF := ((HRL.out.next hb6).low (show w.heap.size + 3 ≤ W3.heap.size by omega)).keeps K9
        exact arIn_mk (x := itemAt x i m) (RF.low (Nat.zero_le _)) (by show ((x.cells.drop (i * m)).take m).length ≤ _; rw [hcl]; omega) HC6 HK.out.2.2.1 hcl
      clear I7 K7 hown6 hb6 d0 d1 hz HS HL HRL HR
      rw [e7]
      clear e7
      go_wp2
      exact bodyPost_ret (v := .agg #[.slice al SM cl, .slice a3 m c3]) (by simp [results, Try.results19, go_sem, HT.out.1, HT.out.2]) rfl (HFIN.out _ _)
theorem keeps_two (W : World) (s : Nat) (u v : Value) : Keeps (s + 2) W ((W.setCell ⟨s + 1, 0, none⟩ u).setCell ⟨s + 1, 1, none⟩ v) := ((Keeps.refl _ _).setCell (p := ⟨s + 1, 0, none⟩) (by show s + 1 < _; omega) u).setCell (p := ⟨s + 1, 1, none⟩) (by show s + 1 < _; omega) v
end Go.Proofs.Ytimkcpbgnoekcaa
namespace Go.Proofs.Ytimkcpbgnoekcaa
open Go.ChangeShapes Go.WideShapes Go.ChangeAt Go.RowKit
set_option linter.unusedVariables false
set_option maxRecDepth 100000
/-- A slice of cells, by the three values of each. -/
structure SrcT (w : World) (a : Option Addr) (n c : Nat) (T : Nat → Value × Value × Value) : Prop where
  cap : n ≤ c
  one : ∀ i, (T i).1.oneCell' = true ∧ (T i).2.1.oneCell' = true ∧ (T i).2.2.oneCell' = true
  lies : 0 < n → ∃ b off, a = some ⟨b, off, none⟩ ∧ b < w.heap.size ∧ ∀ i, i < n → w.cell? ⟨b, off + i * 3, none⟩ = some (T i).1 ∧ w.cell? ⟨b, off + i * 3 + 1, none⟩ = some (T i).2.1 ∧ w.cell? ⟨b, off + i * 3 + 2, none⟩ = some (T i).2.2
theorem SrcT.next {w w' : World} {a : Option Addr} {n c : Nat} {T : Nat → Value × Value × Value} (h : SrcT w a n c T) (hb : Below w.heap.size w w') : SrcT w' a n c T := by
  refine ⟨h.cap, h.one, fun h0 => ?_⟩
  obtain ⟨b, off, ha, hl, hc⟩ := h.lies h0
  refine ⟨b, off, ha, Nat.lt_of_lt_of_le hl hb.size, fun i hi => ?_⟩
  obtain ⟨c0, c1, c2⟩ := hc i hi
  exact ⟨(hb.cell (p := ⟨b, off + i * 3, none⟩) hl).trans c0, (hb.cell (p := ⟨b, off + i * 3 + 1, none⟩) hl).trans c1, (hb.cell (p := ⟨b, off + i * 3 + 2, none⟩) hl).trans c2⟩
theorem SrcT.part {w : World} {a : Option Addr} {n c : Nat} {T : Nat → Value × Value × Value} (h : SrcT w a n c T) (fr m : Nat) (hm : fr + m ≤ n) : Lies w (subA a fr c 3) (rowT (fun q => T (fr + q)) m) := by
  refine ⟨?_, rowT_one _ _ fun i _ => h.one _⟩
  by_cases h0 : m = 0
  · left; subst h0; rfl
  obtain ⟨b, off, rfl, hl, hc⟩ := h.lies (by omega)
  refine Or.inr ⟨⟨b, off + fr * 3, none⟩, ?_, hl, fun j u hj => ?_⟩
  · have := h.cap
    unfold subA; rw [if_neg (by omega)]; simp [Addr.add]
  · have hjl : j < m * 3 := by
      rcases Nat.lt_or_ge j (m * 3) with h | h
      · exact h
      · rw [List.getElem?_eq_none (by rw [rowT_len]; exact h)] at hj; cases hj
    obtain ⟨t0, t1, t2⟩ := rowT_at (fun q => T (fr + q)) m (j / 3) (by omega)
    obtain ⟨g0, g1, g2⟩ := hc (fr + j / 3) (by omega)
    rw [add_off]
    have hm : j = j / 3 * 3 ∨ j = j / 3 * 3 + 1 ∨ j = j / 3 * 3 + 2 := by omega
    rcases hm with e | e | e
    · rw [← e] at t0; rw [t0] at hj; cases hj
      rw [show off + fr * 3 + j = off + (fr + j / 3) * 3 by omega]; exact g0
    · rw [← e] at t1; rw [t1] at hj; cases hj
      rw [show off + fr * 3 + j = off + (fr + j / 3) * 3 + 1 by omega]; exact g1
    · rw [← e] at t2; rw [t2] at hj; cases hj
      rw [show off + fr * 3 + j = off + (fr + j / 3) * 3 + 2 by omega]; exact g2
end Go.Proofs.Ytimkcpbgnoekcaa
namespace Go.Proofs.Ytimkcpbgnoekcaa
open Go.ChangeShapes Go.WideShapes Go.ChangeAt Go.RowKit
set_option linter.unusedVariables false
set_option maxRecDepth 100000
/-- A slice of cells in a world, what they hold in an elder one. -/
def CinP (m lo : Nat) (w0 w : World) (cs : List Ce) (a : Option Addr) (n c : Nat) : Prop := n = cs.length ∧ ∃ T, SrcT w a n c T ∧ ∀ i, i < n → CeIn (ArIn m lo w0) lo w0 (cAt cs i) (T i).1 (T i).2.1 (T i).2.2
theorem CinP.next {m lo : Nat} {w0 w w' : World} {cs : List Ce} {a : Option Addr} {n c : Nat} (h : CinP m lo w0 w cs a n c) (hb : Below w.heap.size w w') : CinP m lo w0 w' cs a n c := by
  obtain ⟨h1, T, h2, h3⟩ := h
  exact ⟨h1, T, h2.next hb, h3⟩
end Go.Proofs.Ytimkcpbgnoekcaa
namespace Go.Proofs.Ytimkcpbgnoekcaa
open Go.ChangeShapes Go.WideShapes Go.ChangeAt Go.RowKit
set_option linter.unusedVariables false
set_option maxRecDepth 100000
/-- An array in new memory and an error; its slices are no longer than their rows. -/
def GivesD (n : Nat) (x : Ar) (E : Int) (w : World) (e : Ending) (w' : World) : Prop := (∃ v, e = .returned (.tuple #[v, .int .i64 E]) ∧ Caps v ∧ ArIn n w.heap.size w' x v) ∧ Below w.heap.size w w'
end Go.Proofs.Ytimkcpbgnoekcaa
namespace Go.Proofs.Ytimkcpbgnoekcaa
open Go.ChangeShapes Go.WideShapes Go.ChangeAt Go.RowKit
set_option linter.unusedVariables false
set_option maxRecDepth 100000
/-- Where the cell at place p comes from, along an axis of D places, each of w cells, of which L are laid. -/
def alongQ (D w L : Nat) (at' : Nat → Nat) (p : Nat) : Nat := p / w / L * (D * w) + at' (p / w % L) * w + p % w
theorem alongQ_at (D w L : Nat) (at' : Nat → Nat) (r j q : Nat) (hj : j < L) (hq : q < w) : alongQ D w L at' ((r * L + j) * w + q) = r * (D * w) + at' j * w + q := by
  unfold alongQ
  have h1 : ((r * L + j) * w + q) / w = r * L + j := by
    rw [Nat.mul_comm, Nat.mul_add_div (by omega), Nat.div_eq_of_lt hq]; omega
  have h2 : ((r * L + j) * w + q) % w = q := by rw [Nat.mul_comm, Nat.mul_add_mod, Nat.mod_eq_of_lt hq]
  have h3 : (r * L + j) / L = r := by rw [Nat.mul_comm, Nat.mul_add_div (by omega), Nat.div_eq_of_lt hj]; omega
  have h4 : (r * L + j) % L = j := by rw [Nat.mul_comm, Nat.mul_add_mod, Nat.mod_eq_of_lt hj]
  rw [h1, h2, h3, h4]
end Go.Proofs.Ytimkcpbgnoekcaa
namespace Go.Proofs.Ytimkcpbgnoekcaa
open Go.ChangeShapes Go.WideShapes Go.ChangeAt Go.RowKit
set_option linter.unusedVariables false
set_option maxRecDepth 100000
def alongA (x : Ar) (k : Nat) (l : List Int) : Ar := .mk (x.shape.set k (l.length : Int)) (mkCs (sizeV (x.shape.set k (l.length : Int))).toNat fun p => cAt x.cells (alongQ (gI x.shape k).toNat (sizeV (x.shape.drop (k + 1))).toNat l.length (fun i => (gI l i).toNat) p))
theorem prodL_set (s : List Int) (k : Nat) (hk : k < s.length) (v : Int) : prodL (s.set k v) = prodL (s.take k) * (v * prodL (s.drop (k + 1))) := by
  rw [List.set_eq_take_append_cons_drop, if_pos hk, prodL_append]
  rfl
theorem set_gI (s : List Int) (k : Nat) (hk : k < s.length) : s.set k (gI s k) = s := gI_ext (by simp) fun i hi => by
  rw [gI_set _ _ _ _ hk]
  by_cases h : i = k
  · rw [if_pos h, h]
  · rw [if_neg h]
theorem mem_set_other {s : List Int} {k : Nat} {v z : Int} (hz : z ∈ s) (hk : k < s.length) : z ∈ s.set k v ∨ z = gI s k := by
  obtain ⟨i, hi, e⟩ := mem_getD hz
  by_cases h : i = k
  · right; rw [← e, h]; rfl
  · left
    have : gI (s.set k v) i = z := by rw [gI_set _ _ _ _ hk, if_neg h]; exact e
    rw [← this]
    exact getD_mem (by simpa using hi)
theorem mem_set_self' {s : List Int} {k : Nat} (hk : k < s.length) (v : Int) : v ∈ s.set k v := by
  have h := getD_mem (l := s.set k v) (k := k) (by simpa using hk)
  have e : gI (s.set k v) k = v := by rw [gI_set _ _ _ _ hk, if_pos rfl]
  rw [← e]
  unfold gI at *
  rw [e]
  rw [e] at h
  exact h
/-- What is known where there is a cell at all. -/
theorem along_facts {r : Nat} {x : Ar} (h : chkA r x = 0) {k L : Nat} (hk : k < x.shape.length) (hs : sizeE (x.shape.set k (L : Int)) = 0) (hD : 0 < L → 0 < gI x.shape k) (hN : 0 < sizeV (x.shape.set k (L : Int))) :
    ∃ A D w : Nat, gI x.shape k = (D : Int) ∧ sizeV (x.shape.drop (k + 1)) = (w : Int) ∧ 0 < w ∧ 0 < L ∧ sizeV (x.shape.set k (L : Int)) = ((A * (L * w) : Nat) : Int) ∧ x.cells.length = A * (D * w) ∧ w ≤ 16384 ∧ L ≤ 16384 ∧ D ≤ 16384 := by
  obtain ⟨l8, -, hc⟩ := fine_cases hs
  rcases hc with ⟨-, h0⟩ | ⟨hpos, hle, hv⟩
  · omega
  have hL : 0 < L := by
    have := hpos (L : Int) (mem_set_self' hk _)
    omega
  have hD0 := hD hL
  have hpx : ∀ z ∈ x.shape, 0 < z := fun z hz => by
    rcases mem_set_other (v := (L : Int)) hz hk with h1 | h1
    · exact hpos z h1
    · rw [h1]; exact hD0
  obtain ⟨h1, h2, h3, -⟩ := (chkA_iff r x).1 h
  have hsx := sizeV_prod h1
  have e1 := prodL_set x.shape k hk (L : Int)
  have e2 := prodL_set x.shape k hk (gI x.shape k)
  rw [set_gI _ _ hk] at e2
  have pa := prodL_pos (l := x.shape.take k) fun z hz => hpx z (List.mem_of_mem_take hz)
  have pw := prodL_pos (l := x.shape.drop (k + 1)) fun z hz => hpx z (List.mem_of_mem_drop hz)
  obtain ⟨A, hA⟩ : ∃ A : Nat, prodL (x.shape.take k) = (A : Int) := ⟨(prodL (x.shape.take k)).toNat, by omega⟩
  obtain ⟨w, hw⟩ : ∃ w : Nat, prodL (x.shape.drop (k + 1)) = (w : Int) := ⟨(prodL (x.shape.drop (k + 1))).toNat, by omega⟩
  obtain ⟨D, hDn⟩ : ∃ D : Nat, gI x.shape k = (D : Int) := ⟨(gI x.shape k).toNat, by omega⟩
  rw [hA, hw] at e1 e2
  rw [hDn] at e2
  have hx16 : prodL x.shape ≤ 16384 := by
    obtain ⟨-, -, hc⟩ := fine_cases h1
    rcases hc with ⟨⟨z, hz, hz0⟩, -⟩ | ⟨-, h5, -⟩
    · have := hpx z hz; omega
    · exact h5
  have hwle : (w : Int) ≤ prodL x.shape := by
    rw [e2]
    have a1 : 1 ≤ (A : Int) * (D : Int) := Int.le_trans (by omega) (Int.mul_le_mul (show (1 : Int) ≤ A by omega) (show (1 : Int) ≤ D by omega) (by omega) (by omega))
    have := Int.mul_le_mul_of_nonneg_right a1 (show (0 : Int) ≤ w by omega)
    rw [Int.one_mul, Int.mul_assoc] at this
    exact this
  have hfd := fine_mk (l := x.shape.drop (k + 1)) (by rw [List.length_drop]; have := (fine_cases h1).1; omega) (fun z hz => by have := hpx z (List.mem_of_mem_drop hz); omega) (Or.inr (by rw [hw]; omega))
  have hDle : (D : Int) ≤ 16384 := by
    rcases Int.lt_or_le 16384 (D : Int) with h' | h'
    · exact absurd ⟨gI x.shape k, getD_mem hk, by rw [hDn]; exact h'⟩ h3
    · exact h'
  have hLle : (L : Int) ≤ prodL (x.shape.set k (L : Int)) := prod_of_mem hpos (mem_set_self' hk _)
  refine ⟨A, D, w, hDn, by rw [hfd.2, hw], by omega, hL, ?_, ?_, by omega, by omega, by omega⟩
  · rw [hv, e1]; simp
  · have : (x.cells.length : Int) = ((A * (D * w) : Nat) : Int) := by rw [← h2, hsx, e2]; simp
    omega
theorem rowT_congr {T U : Nat → Value × Value × Value} {m : Nat} (h : ∀ q, q < m → T q = U q) : rowT T m = rowT U m := by
  unfold rowT
  have : ∀ l : List Nat, (∀ q ∈ l, q < m) → l.flatMap (fun i => [(T i).1, (T i).2.1, (T i).2.2]) = l.flatMap (fun i => [(U i).1, (U i).2.1, (U i).2.2]) := by
    intro l hl
    induction l with
    | nil => rfl
    | cons q l ih =>
      simp only [List.flatMap_cons]
      rw [h q (hl q (by simp)), ih (fun q' hq => hl q' (by simp [hq]))]
  exact this _ (fun q hq => List.mem_range.1 hq)
/-- A part of an array's cells as values that lie one behind the other. -/
theorem lies_part {w : World} {cs : List Ce} {ab : Nat → Option Addr} {cb : Nat → Nat} {b off : Nat} (hb : b < w.heap.size) (hc : ∀ i, i < cs.length → w.cell? ⟨b, off + i * 3, none⟩ = some (cellT cs ab cb i).1 ∧ w.cell? ⟨b, off + i * 3 + 1, none⟩ = some (cellT cs ab cb i).2.1 ∧ w.cell? ⟨b, off + i * 3 + 2, none⟩ = some (cellT cs ab cb i).2.2)
    (fr m c : Nat) (hm : fr + m ≤ cs.length) (hcap : cs.length ≤ c) (h0 : 0 < m) : Lies w (subA (some ⟨b, off, none⟩) fr c 3) (rowT (fun q => cellT cs ab cb (fr + q)) m) := by
  refine ⟨Or.inr ⟨⟨b, off + fr * 3, none⟩, ?_, hb, fun j u hj => ?_⟩, rowT_one _ _ fun i _ => ⟨rfl, rfl, rfl⟩⟩
  · unfold subA; rw [if_neg (by omega)]; simp [Addr.add]
  · have hjl : j < m * 3 := by
      rcases Nat.lt_or_ge j (m * 3) with h | h
      · exact h
      · rw [List.getElem?_eq_none (by rw [rowT_len]; exact h)] at hj; cases hj
    obtain ⟨t0, t1, t2⟩ := rowT_at (fun q => cellT cs ab cb (fr + q)) m (j / 3) (by omega)
    obtain ⟨g0, g1, g2⟩ := hc (fr + j / 3) (by omega)
    rw [add_off]
    have hm : j = j / 3 * 3 ∨ j = j / 3 * 3 + 1 ∨ j = j / 3 * 3 + 2 := by omega
    rcases hm with e | e | e
    · rw [← e] at t0; rw [t0] at hj; cases hj
      rw [show off + fr * 3 + j = off + (fr + j / 3) * 3 by omega]; exact g0
    · rw [← e] at t1; rw [t1] at hj; cases hj
      rw [show off + fr * 3 + j = off + (fr + j / 3) * 3 + 1 by omega]; exact g1
    · rw [← e] at t2; rw [t2] at hj; cases hj
      rw [show off + fr * 3 + j = off + (fr + j / 3) * 3 + 2 by omega]; exact g2
end Go.Proofs.Ytimkcpbgnoekcaa
namespace Go.Proofs.Ytimkcpbgnoekcaa
open Go.ChangeShapes Go.WideShapes Go.ChangeAt Go.RowKit
set_option linter.unusedVariables false
set_option maxRecDepth 100000
/-- All blocks but one are kept. -/
structure Kp (W : World) (B : Nat) (wr : World) : Prop where
  io : Below 0 W wr
  keep : ∀ b, b < W.heap.size → b ≠ B → wr.heap[b]? = W.heap[b]?
theorem Kp.refl (W : World) (B : Nat) : Kp W B W := ⟨Below.refl _ _, fun _ _ _ => rfl⟩
theorem Kp.below {W wr : World} {B b : Nat} (h : Kp W B wr) (hb : b ≤ B) (hW : b ≤ W.heap.size) : Below b W wr := ⟨h.io.os, h.io.tape, h.io.output, h.io.size, fun k hk => h.keep k (by omega) (by omega)⟩
theorem Kp.step {W wr : World} {B : Nat} (h : Kp W B wr) (o : Obj) (i : Nat) (v : Value) : Kp W B ((wr.setCell ⟨B, i, none⟩ v).alloc o).drew := by
  have h1 := one_alloc (wr.setCell ⟨B, i, none⟩ v) o
  have hs : (wr.setCell ⟨B, i, none⟩ v).heap.size = wr.heap.size := by simp
  refine ⟨((h.io.setCell (p := ⟨B, i, none⟩) (Nat.zero_le _) v).trans (h1.mono (Nat.zero_le _))).drew, fun b hb hne => ?_⟩
  have e1 : ((wr.setCell ⟨B, i, none⟩ v).alloc o).heap[b]? = (wr.setCell ⟨B, i, none⟩ v).heap[b]? := h1.block b (by rw [hs]; exact Nat.lt_of_lt_of_le hb h.io.size)
  have e2 : (wr.setCell ⟨B, i, none⟩ v).heap[b]? = wr.heap[b]? := Below.heap_setCell _ _ _ _ (by show b ≠ B; exact hne)
  exact (e1.trans e2).trans (h.keep b hb hne)
def lkF (x y : Ar) (i : Nat) : Int := if ¬ (cAt x.cells i).1 = 0 then 5 else if (cAt x.cells i).2.1 < 0 ∨ gI y.shape 0 ≤ (cAt x.cells i).2.1 then 8 else 0
def lkL (x : Ar) : List Int := (List.range x.cells.length).map fun i => (cAt x.cells i).2.1
theorem lkL_len (x : Ar) : (lkL x).length = x.cells.length := by simp [lkL]
theorem lkL_at (x : Ar) (i : Nat) (hi : i < x.cells.length) : gI (lkL x) i = (cAt x.cells i).2.1 := by simp [gI, lkL, hi]
def lookR (x y : Ar) : Ar × Int :=
  if y.shape.length = 0 ∨ 9 < x.shape.length + y.shape.length then (zeroA, 6) else if ¬ firstUp (lkF x y) x.cells.length = 0 then (zeroA, firstUp (lkF x y) x.cells.length) else
  if ¬ sizeE (x.shape ++ y.shape.tail) = 0 then (zeroA, sizeE (x.shape ++ y.shape.tail)) else (.mk (x.shape ++ y.shape.tail) (alongA y 0 (lkL x)).cells, 0)
theorem look_size {x y : Ar} (hx : chkA 8 x = 0) (hy : chkA 8 y = 0) (hS : 0 < y.shape.length) (hE : sizeE (x.shape ++ y.shape.tail) = 0) : sizeE (y.shape.set 0 (x.cells.length : Int)) = 0 := by
  obtain ⟨d, t, hdt⟩ : ∃ d t, y.shape = d :: t := by
    cases hsh : y.shape with
    | nil => rw [hsh] at hS; simp at hS
    | cons d t => exact ⟨d, t, rfl⟩
  rw [hdt] at hE ⊢
  simp only [List.tail_cons, List.set_cons_zero] at hE ⊢
  obtain ⟨h1, h2, h3, -⟩ := (chkA_iff 8 x).1 hx
  obtain ⟨l8, g2, g3⟩ := fine_cases hE
  have ly := (fine_cases ((chkA_iff 8 y).1 hy).1).1
  rw [hdt] at ly
  refine (fine_mk (l := (x.cells.length : Int) :: t) (by simpa using ly) (fun z hz => ?_) ?_).1
  · rcases List.mem_cons.1 hz with h | h
    · omega
    · exact g2 z (List.mem_append.2 (Or.inr h))
  · rcases g3 with ⟨⟨z, hz, hz0⟩, -⟩ | ⟨hp, hle, -⟩
    · left
      rcases List.mem_append.1 hz with h | h
      · refine ⟨_, List.mem_cons_self, ?_⟩
        have : sizeV x.shape = 0 := by rw [sizeV_prod h1]; exact prodL_zero ⟨z, h, hz0⟩
        omega
      · exact ⟨z, List.mem_cons.2 (Or.inr h), hz0⟩
    · right
      rw [prodL_append] at hle
      have : prodL ((x.cells.length : Int) :: t) = (x.cells.length : Int) * prodL t := rfl
      rw [this, ← h2, sizeV_prod h1]; exact hle
end Go.Proofs.Ytimkcpbgnoekcaa
namespace Go.Proofs.Ytimkcpbgnoekcaa
open Go.ChangeShapes Go.WideShapes Go.ChangeAt Go.RowKit
set_option linter.unusedVariables false
set_option maxRecDepth 100000
def GivesAK (n : Nat) (x : Ar) (w : World) (e : Ending) (w' : World) : Prop := (∃ v, e = .returned v ∧ Caps v ∧ ArIn n w.heap.size w' x v) ∧ Below w.heap.size w w'
theorem ratomK_any (n : Nat) (z : Int) (w : World) : Calls Try.prog 24 #[.int .i64 z] w fun e w' => GivesAK (n + 1) (atomA z) w e w' := by
  go_enter Try.func24, Try.ntmps24
  go_wp2
  exact bodyPost_ret (v := .agg #[.slice none 0 0, .slice (some ⟨w.heap.size + 1, 0, none⟩) 1 1]) (by simp [results, Try.results24, go_sem]) rfl ⟨⟨_, rfl, ⟨_, _, _, _, _, _, rfl, Nat.le_refl _, Nat.le_refl _⟩, atom_cells n z w _⟩, two_allocs _ _ _⟩
set_option maxHeartbeats 4000000 in
theorem rnumsK_any {lo : Nat} (n : Nat) (l : List Int) (a : Option Addr) (cap : Nat) (w : World) (R : Row lo w a l) (hl : l.length ≤ 16384) :
    Calls Try.prog 23 #[.slice a l.length cap] w fun e w' => GivesAK (n + 1) (numsA l) w e w' := by
  obtain ⟨i0, hi, hz0, hz1, hz2⟩ := info33'
  have hrow := @row_at _ _ _ _ R
  clear R
  have b1 : Below w.heap.size w ((w.alloc (.cells #[.slice none 0 0, .slice none 0 0] 25)).alloc (.cells #[.int .i64 (l.length : Int)] 3)) := two_allocs _ _ _
  have s1 := size_two w (.cells #[.slice none 0 0, .slice none 0 0] 25) (.cells #[.int .i64 (l.length : Int)] 3)
  have HST : Hid (Inv w.heap.size (w.heap.size + 2) (.slice (some ⟨w.heap.size + 1, 0, none⟩) 1 1) 0 l 0 (.slice none 0 0) w (((w.alloc (.cells #[.slice none 0 0, .slice none 0 0] 25)).alloc (.cells #[.int .i64 (l.length : Int)] 3)).alloc (.cells #[.slice (some ⟨w.heap.size + 1, 0, none⟩) 1 1, .slice none 0 0] 25))) := by
    have g := fun (b i : Nat) (v : Value) (hb : b < w.heap.size + 2) (h : ((w.alloc (.cells #[.slice none 0 0, .slice none 0 0] 25)).alloc (.cells #[.int .i64 (l.length : Int)] 3)).cell? ⟨b, i, none⟩ = some v) => ((one_alloc _ (.cells #[.slice (some ⟨w.heap.size + 1, 0, none⟩) 1 1, .slice none 0 0] 25)).cell (p := ⟨b, i, none⟩) (by rw [s1]; exact hb)).trans h
    have gf : ∀ i, (((w.alloc (.cells #[.slice none 0 0, .slice none 0 0] 25)).alloc (.cells #[.int .i64 (l.length : Int)] 3)).alloc (.cells #[.slice (some ⟨w.heap.size + 1, 0, none⟩) 1 1, .slice none 0 0] 25)).frozen? ⟨w.heap.size, i, none⟩ = false := fun i =>
      (((two_allocs (w.alloc (.cells #[.slice none 0 0, .slice none 0 0] 25)) (.cells #[.int .i64 (l.length : Int)] 3) (.cells #[.slice (some ⟨w.heap.size + 1, 0, none⟩) 1 1, .slice none 0 0] 25)).frozen (p := ⟨w.heap.size, i, none⟩) (by simp))).trans (frozen_new w _ 25 i)
    have n0 := cell_new0 ((w.alloc (.cells #[.slice none 0 0, .slice none 0 0] 25)).alloc (.cells #[.int .i64 (l.length : Int)] 3)) #[.slice (some ⟨w.heap.size + 1, 0, none⟩) 1 1, .slice none 0 0] 25 0 _ rfl
    have n1 := cell_new0 ((w.alloc (.cells #[.slice none 0 0, .slice none 0 0] 25)).alloc (.cells #[.int .i64 (l.length : Int)] 3)) #[.slice (some ⟨w.heap.size + 1, 0, none⟩) 1 1, .slice none 0 0] 25 1 _ rfl
    have nf := fun i => frozen_new ((w.alloc (.cells #[.slice none 0 0, .slice none 0 0] 25)).alloc (.cells #[.int .i64 (l.length : Int)] 3)) #[.slice (some ⟨w.heap.size + 1, 0, none⟩) 1 1, .slice none 0 0] 25 i
    rw [s1] at n0 n1 nf
    refine ⟨b1.trans ((one_alloc _ _).mono (by rw [s1]; omega)), by simp, ⟨g _ _ _ (by omega) (cell_new1 w _ 25 (0, 0) _ 0 _ rfl), g _ _ _ (by omega) (cell_new1 w _ 25 (0, 0) _ 1 _ rfl), gf 0, gf 1⟩, ⟨n0, n1, nf 0, nf 1⟩, ?_⟩
    exact World.ownsRow_nil _ _ _ _
  have HLEN : Hid ((((w.alloc (.cells #[.slice none 0 0, .slice none 0 0] 25)).alloc (.cells #[.int .i64 (l.length : Int)] 3)).alloc (.cells #[.slice (some ⟨w.heap.size + 1, 0, none⟩) 1 1, .slice none 0 0] 25)).cell? ⟨w.heap.size + 1, 0, none⟩ = some (.int .i64 (l.length : Int))) :=
    ((one_alloc _ (.cells #[.slice (some ⟨w.heap.size + 1, 0, none⟩) 1 1, .slice none 0 0] 25)).cell (p := ⟨w.heap.size + 1, 0, none⟩) (by rw [s1]; show w.heap.size + 1 < _; omega)).trans (cell_new2 w #[.int .i64 (l.length : Int)] 3 (0, 0) (.cells #[.slice none 0 0, .slice none 0 0] 25) 0 _ rfl)
  clear b1 s1
  go_enter Try.func23, Try.ntmps23
  go_wp2
  go_loopw [4] (fun i wr => ∃ (j : Nat) (v : Value), j ≤ l.length ∧ i = .int .i64 (j : Int) ∧ Inv w.heap.size (w.heap.size + 2) (.slice (some ⟨w.heap.size + 1, 0, none⟩) 1 1) 0 l j v w wr ∧ wr.cell? ⟨w.heap.size + 1, 0, none⟩ = some (.int .i64 (l.length : Int))) (fun i _ => l.length - (intOf i).toNat)
  case atStart => exact ⟨0, _, Nat.zero_le _, rfl, HST.out, HLEN.out⟩
  case round =>
    clear HST HLEN
    obtain ⟨j, v, hj, rfl, hinv, hlen⟩ := hrel
    have HI := hide hinv
    have HL := hide hlen
    obtain ⟨hnx, hsz, ⟨c0, c1, c2, c3⟩, ⟨d0, d1, d2, d3⟩, hown⟩ := hinv
    by_cases hlt : j < l.length
    · obtain ⟨b, off, ha, hb, hck⟩ := hrow hlt
      subst ha
      have hc1 : wr.cell? ⟨b, off + j, none⟩ = some (.int .i64 (l[j]?.getD 0)) := (hnx.cell (p := ⟨b, off + j, none⟩) hb).trans hck
      have hc2 : ∀ o, (wr.drew.alloc o).cell? ⟨w.heap.size + 2, 1, none⟩ = some v := fun o => ((one_alloc wr.drew o).cell (p := ⟨w.heap.size + 2, 1, none⟩) hsz).trans d1
      have HSTEP := hide (rowF_step 0 l j hlt)
      generalize l[j]?.getD 0 = z at *
      have HOWN := hide ((owns_drew hown).alloc (.cells #[.int .i64 0, .int .i64 z, .slice none 0 0] 39))
      have HNEWS : Hid (∀ i u, [Value.int .i64 0, .int .i64 z, .slice none 0 0][i]? = some u → (wr.drew.alloc (.cells #[.int .i64 0, .int .i64 z, .slice none 0 0] 39)).cell? ((⟨wr.heap.size, 0, none⟩ : Addr).add i) = some u) := by
        intro i u hu
        have ha : (⟨wr.heap.size, 0, none⟩ : Addr).add i = ⟨wr.drew.heap.size, i, none⟩ := by
          unfold Addr.add
          split
          · subst_vars; rfl
          · simp
        rw [ha]
        exact cell_new0 wr.drew _ 39 i u (by simpa using hu)
      have HONE : Hid (∀ u ∈ [Value.int .i64 0, .int .i64 z, .slice none 0 0], u.oneCell' = true) := by
        intro u hu
        simp at hu
        rcases hu with rfl | rfl | rfl <;> rfl
      have HMAX : Hid (j + 1 ≤ maxLen ∧ (j + 1) * 40 ≤ 140737488355328 ∧ w.heap.size + 2 + 1 ≤ (wr.drew.alloc (.cells #[.int .i64 0, .int .i64 z, .slice none 0 0] 39)).heap.size) := by
        refine ⟨by unfold maxLen; omega, by omega, ?_⟩
        have : (wr.drew.alloc (.cells #[.int .i64 0, .int .i64 z, .slice none 0 0] 39)).heap.size = wr.heap.size + 1 := by simp
        omega
      have HAL : Hid (Below (w.heap.size + 2 + 1) wr (wr.drew.alloc (.cells #[.int .i64 0, .int .i64 z, .slice none 0 0] 39))) := ((Below.refl _ _).drew).alloc (by show _ ≤ wr.heap.size; omega) _
      clear hown hck hrow hlen c0 c1 c2 c3 d0 d2 hb hnx
      go_wp2
      go_region_law (refine step_append_own rfl (.tmp 16) (.tmp 22) 23 rfl (w.heap.size + 2 + 1) 39 i0 (.agg #[.int .i64 0, .int .i64 0, .slice none 0 0]) 3 40 Try.underlying23 hi hz0 hz1 hz2 rfl (by decide) v j (rowF 0 l j) rfl HOWN.out ⟨wr.heap.size, 0, none⟩ 1 1 [.int .i64 0, .int .i64 z, .slice none 0 0] rfl rfl HNEWS.out HONE.out HMAX.out.1 HMAX.out.2.1 HMAX.out.2.2 ?_; intro v' w1 hown1 hb1; obtain ⟨g, cp, rfl, -⟩ := owns_form hown1 (Nat.succ_pos j); have dd1 := (HAL.out.trans hb1).cell (p := ⟨w.heap.size + 2, 1, none⟩) (Nat.lt_succ_self _) |>.trans d1; have dd3 := (HAL.out.trans hb1).frozen (p := ⟨w.heap.size + 2, 1, none⟩) (Nat.lt_succ_self _) |>.trans d3)
      all_goals
        have hown2 : w1.ownsRow (w.heap.size + 2 + 1) 39 3 (.slice (some ⟨g, 0, none⟩) (j + 1) cp) (j + 1) (rowF 0 l (j + 1)) := by rw [HSTEP.out]; exact hown1
        have HN := hide (inv_step (by omega) HI.out (HAL.out.trans hb1) hown2)
        have HN2 : Hid ((w1.setCell ⟨w.heap.size + 2, 1, none⟩ (.slice (some ⟨g, 0, none⟩) (j + 1) cp)).cell? ⟨w.heap.size + 1, 0, none⟩ = some (.int .i64 (l.length : Int))) := cell_apart (p := ⟨w.heap.size + 1, 0, none⟩) (q := ⟨w.heap.size + 2, 1, none⟩) (by show w.heap.size + 1 ≠ w.heap.size + 2; omega) _ (((HAL.out.trans hb1).cell (p := ⟨w.heap.size + 1, 0, none⟩) (by show w.heap.size + 1 < _; omega)).trans HL.out)
        clear hown1 hown2 hb1 dd1 dd3 HOWN HNEWS HONE HMAX HAL HI HL HSTEP
        go_wp2
        go_roundw
        case rel => exact ⟨j + 1, _, by omega, by go_num, HN.out, HN2.out⟩
        case measure => simp [intOf]; omega
    · have hje : j = l.length := by omega
      subst hje
      obtain ⟨a2, cp, rfl, hcs⟩ := owns_cells (n := n) (lo := w.heap.size + 2 + 1) 0 l hown (Nat.le_refl _)
      have HCP : Hid (l.length ≤ cp) := by
        obtain ⟨a', cap', he, hle⟩ := owns_cap hown
        simp only [Value.slice.injEq] at he
        obtain ⟨-, -, rfl⟩ := he
        exact hle
      have HF : Hid (∀ x y, ArIn (n + 1) w.heap.size ((wr.setCell ⟨w.heap.size, 0, none⟩ x).setCell ⟨w.heap.size, 1, none⟩ y) (numsA l) (.agg #[.slice (some ⟨w.heap.size + 1, 0, none⟩) 1 1, .slice a2 l.length cp])) := by
        intro x y
        have hk : Keeps (w.heap.size + 1) wr ((wr.setCell ⟨w.heap.size, 0, none⟩ x).setCell ⟨w.heap.size, 1, none⟩ y) := ((Keeps.refl _ _).setCell (p := ⟨w.heap.size, 0, none⟩) (by show w.heap.size < _; omega) x).setCell (p := ⟨w.heap.size, 1, none⟩) (by show w.heap.size < _; omega) y
        refine arIn_mk (x := numsA l) ?_ (by simp [numsA, Ar.cells, numCs_len]; omega) ?_ rfl (numCs_len 0 l)
        · exact ((row_one (lo := w.heap.size + 1) (b := w.heap.size + 1) (by omega) (Nat.le_refl _) HL.out).keeps hk).low (by omega)
        · exact ((hcs.mono (lo' := w.heap.size + 1) (by omega) (Below.refl _ _)).keeps hk).mono (by omega) (Below.refl _ _)
      have HT := hide (set_two c0 c1 (.slice (some ⟨w.heap.size + 1, 0, none⟩) 1 1) (.slice a2 l.length cp))
      have HB := hide hnx
      clear hown hrow hcs HI HL hnx
      go_wp2
      exact bodyPost_ret (v := .agg #[.slice (some ⟨w.heap.size + 1, 0, none⟩) 1 1, .slice a2 l.length cp]) (by simp [results, Try.results23, go_sem, HT.out.1, HT.out.2]) rfl ⟨⟨_, rfl, ⟨_, _, _, _, _, _, rfl, Nat.le_refl _, HCP.out⟩, HF.out _ _⟩, (HB.out.setCell (p := ⟨w.heap.size, 0, none⟩) (Nat.le_refl _) _).setCell (p := ⟨w.heap.size, 1, none⟩) (Nat.le_refl _) _⟩
end Go.Proofs.Ytimkcpbgnoekcaa
namespace Go.Proofs.Ytimkcpbgnoekcaa
open Go.ChangeShapes Go.WideShapes Go.ChangeAt Go.RowKit
set_option linter.unusedVariables false
set_option maxRecDepth 100000
/-- A block laid for a variable, still as it was laid. -/
def Zb (w : World) (b : Nat) : Prop := w.cell? ⟨b, 0, none⟩ = some (.slice none 0 0) ∧ w.cell? ⟨b, 1, none⟩ = some (.slice none 0 0) ∧ w.frozen? ⟨b, 0, none⟩ = false ∧ w.frozen? ⟨b, 1, none⟩ = false ∧ b < w.heap.size
theorem Zb.next {w w' : World} {b : Nat} (h : Zb w b) (hb : Below w.heap.size w w') : Zb w' b := by
  obtain ⟨h1, h2, h3, h4, h5⟩ := h
  exact ⟨(hb.cell (p := ⟨b, 0, none⟩) h5).trans h1, (hb.cell (p := ⟨b, 1, none⟩) h5).trans h2, (hb.frozen (p := ⟨b, 0, none⟩) h5).trans h3, (hb.frozen (p := ⟨b, 1, none⟩) h5).trans h4, Nat.lt_of_lt_of_le h5 hb.size⟩
theorem Zb.new (w : World) : Zb (w.alloc (.cells #[.slice none 0 0, .slice none 0 0] 25)) w.heap.size := ⟨cell_new0 w _ 25 0 _ rfl, cell_new0 w _ 25 1 _ rfl, frozen_new w _ 25 0, frozen_new w _ 25 1, by simp⟩
theorem Zb.drew {w : World} {b : Nat} (h : Zb w b) : Zb w.drew b := h.next (Below.refl _ _).drew
/-- A variable that holds an array. -/
structure Var (n : Nat) (w : World) (b : Nat) (x : Ar) (u v : Value) : Prop where
  lt : b < w.heap.size
  c0 : w.cell? ⟨b, 0, none⟩ = some u
  c1 : w.cell? ⟨b, 1, none⟩ = some v
  ar : ArIn n 0 w x (.agg #[u, v])
  cap : Caps (.agg #[u, v])
theorem Var.next {n : Nat} {w w' : World} {b : Nat} {x : Ar} {u v : Value} (h : Var n w b x u v) (hb : Below w.heap.size w w') : Var n w' b x u v := ⟨Nat.lt_of_lt_of_le h.lt hb.size, (hb.cell (p := ⟨b, 0, none⟩) h.lt).trans h.c0, (hb.cell (p := ⟨b, 1, none⟩) h.lt).trans h.c1, h.ar.next hb, h.cap⟩
theorem var_new {n lo : Nat} {W3 w5 : World} {x : Ar} {u v : Value} (g : Below W3.heap.size W3 w5) (hz : ArIn n lo w5 x (.agg #[u, v])) (hc : Caps (.agg #[u, v])) : Below W3.heap.size W3 (w5.alloc (.cells #[u, v] 25)) ∧ Var n (w5.alloc (.cells #[u, v] 25)) w5.heap.size x u v := ⟨g.alloc g.size _, by simp, cell_new0 w5 _ 25 0 _ rfl, cell_new0 w5 _ 25 1 _ rfl, (hz.mono (Nat.zero_le _) (one_alloc _ _)), hc⟩
theorem var_old {n B : Nat} {W3 w4 w5 : World} {x : Ar} {u v : Value} (t : Zb w4 B) (hB : W3.heap.size ≤ B) (g : Below W3.heap.size W3 w5) (hb : Below w4.heap.size w4 w5) (hz : ArIn n w4.heap.size w5 x (.agg #[u, v])) (hc : Caps (.agg #[u, v])) : Below W3.heap.size W3 ((w5.setCell ⟨B, 0, none⟩ u).setCell ⟨B, 1, none⟩ v) ∧ Var n ((w5.setCell ⟨B, 0, none⟩ u).setCell ⟨B, 1, none⟩ v) B x u v := by
  obtain ⟨k0, k1, k2, k3, k4⟩ := t.next hb
  have st := set_two k0 k1 u v
  have hk := ((Keeps.refl w4.heap.size w5).setCell (p := ⟨B, 0, none⟩) t.2.2.2.2 u).setCell (p := ⟨B, 1, none⟩) t.2.2.2.2 v
  exact ⟨(g.setCell (p := ⟨B, 0, none⟩) hB u).setCell (p := ⟨B, 1, none⟩) hB v, by simpa using k4, by rw [World.cell?_setCell_other _ _ _ _ (by simp)]; exact st.1, st.2, (hz.keeps hk).mono (Nat.zero_le _) (Below.refl _ _), hc⟩
/-- What a call of Atom gives, in a form for regions that draw. -/
theorem atom_at (n : Nat) (k : Int) (W3 W : World) (h : Below W3.heap.size W3 W) : Calls Try.prog 24 #[.int .i64 k] W fun e w' => (∃ y1 n1 y2 n2, e = .returned (.agg #[.slice y1 0 n1, .slice y2 1 n2]) ∧ Caps (.agg #[.slice y1 0 n1, .slice y2 1 n2]) ∧ ArIn (n + 1) 0 w' (atomA k) (.agg #[.slice y1 0 n1, .slice y2 1 n2])) ∧ Below W3.heap.size W3 w' ∧ Below W.heap.size W w' := by
  refine (ratomK_any n k W).mono ?_
  rintro e w' ⟨⟨v, rfl, kc, hv⟩, hb⟩
  obtain ⟨y1, n1, y2, n2, rfl, -, -⟩ := hv.form
  exact ⟨⟨_, _, _, _, rfl, kc, hv.mono (Nat.zero_le _) (Below.refl _ _)⟩, h.trans (hb.mono h.size), hb⟩
end Go.Proofs.Ytimkcpbgnoekcaa
namespace Go.Proofs.Ytimkcpbgnoekcaa
open Go.ChangeShapes Go.WideShapes Go.ChangeAt Go.RowKit
set_option linter.unusedVariables false
set_option maxRecDepth 100000
theorem SoftC.next {w w' : World} {b : Nat} {l : List Int} (h : SoftC w b l) (hb : b < w.heap.size) (hn : Below w.heap.size w w') : SoftC w' b l := fun i hi => ⟨(hn.cell (p := ⟨b, i, none⟩) hb).trans (h i hi).1, (hn.frozen (p := ⟨b, i, none⟩) hb).trans (h i hi).2⟩
theorem GrowC.new {W : World} {o : Nat} {sv : Value} {T : Nat → Value × Value × Value} (c0 : W.cell? ⟨o, 0, none⟩ = some sv) (c1 : W.cell? ⟨o, 1, none⟩ = some (.slice none 0 0)) (f1 : W.frozen? ⟨o, 1, none⟩ = false) : GrowC W o sv T 0 (.slice none 0 0) W :=
  ⟨Below.refl _ _, fun _ _ _ => rfl, c0, c1, f1, World.ownsRow_nil _ _ _ _⟩
end Go.Proofs.Ytimkcpbgnoekcaa
namespace Go.Proofs.Ytimkcpbgnoekcaa
open Go.ChangeShapes Go.WideShapes Go.ChangeAt Go.RowKit
set_option linter.unusedVariables false
set_option maxRecDepth 100000
/-- A row of numbers that is sorted in place: the blocks below it are as they were. -/
structure St (W1 : World) (b n : Nat) (f : Nat → Int) (w : World) : Prop where
  bel : Below b W1 w
  lt : b < w.heap.size
  row : ∀ i, i < n → w.cell? ⟨b, i, none⟩ = some (.int .i64 (f i)) ∧ w.frozen? ⟨b, i, none⟩ = false
theorem St.next {W1 w w' : World} {b n : Nat} {f : Nat → Int} (h : St W1 b n f w) (hb : Below w.heap.size w w') : St W1 b n f w' :=
  ⟨h.bel.trans (hb.mono (Nat.le_of_lt h.lt)), Nat.lt_of_lt_of_le h.lt hb.size, fun i hi => ⟨(hb.cell (p := ⟨b, i, none⟩) h.lt).trans (h.row i hi).1, (hb.frozen (p := ⟨b, i, none⟩) h.lt).trans (h.row i hi).2⟩⟩
theorem St.drew {W1 w : World} {b n : Nat} {f : Nat → Int} (h : St W1 b n f w) : St W1 b n f w.drew := h.next (Below.refl _ _).drew
theorem St.set {W1 w : World} {b n : Nat} {f : Nat → Int} (h : St W1 b n f w) {i : Nat} (hi : i < n) (v : Int) : St W1 b n (upd f i v) (w.setCell ⟨b, i, none⟩ (.int .i64 v)) := by
  refine ⟨h.bel.setCell (p := ⟨b, i, none⟩) (Nat.le_refl _) _, by simpa using h.lt, fun x hx => ?_⟩
  obtain ⟨c, fz⟩ := h.row x hx
  refine ⟨?_, frozen_set _ _ _ _ fz⟩
  unfold upd
  by_cases e : x = i
  · subst e
    rw [if_pos rfl]
    exact World.cell?_setCell_same' _ _ _ (by rw [c]; rfl)
  · rw [if_neg e, World.cell?_setCell_other _ _ _ _ (by first | (simp; done) | (simpa using e))]
    exact c
theorem St.swap {W1 w : World} {b n : Nat} {f : Nat → Int} (h : St W1 b n f w) {i j : Nat} (hi : i < n) (hj : j < n) : St W1 b n (swp f i j) ((w.setCell ⟨b, i, none⟩ (.int .i64 (f j))).setCell ⟨b, j, none⟩ (.int .i64 (f i))) := by
  rw [← upd_swp]; exact (h.set hi _).set hj _
theorem St.swap' {W1 w : World} {b n : Nat} {f : Nat → Int} (h : St W1 b n f w) {i j : Nat} (hi : i < n) (hj : j < n) : St W1 b n (swp f i j) ((w.setCell ⟨b, j, none⟩ (.int .i64 (f i))).setCell ⟨b, i, none⟩ (.int .i64 (f j))) := by
  rw [← upd_swp']; exact (h.set hj _).set hi _
set_option maxHeartbeats 4000000 in
theorem swapR_any {W1 w : World} {b n c p q k : Nat} {f : Nat → Int} (cv : Value) (h : St W1 b n f w) (hn : n ≤ 16384) (hpq : p + k ≤ q) (hq : q + k ≤ n) :
    Calls Try.prog 99 #[.slice (some ⟨b, 0, none⟩) n c, .int .i64 (p : Int), .int .i64 (q : Int), .int .i64 (k : Int), cv] w fun e w' => e = .returned (.tuple #[]) ∧ St W1 b n (swpR f p q k) w' := by
  have H0 : Hid (St W1 b n (swpR f p q 0) w) := by unfold Hid; rw [swpR_zero]; exact h
  clear h
  go_enter Try.func99, Try.ntmps99
  go_wp2
  go_loopw [10] (fun i wr => ∃ m : Nat, m ≤ k ∧ i = .int .i64 (m : Int) ∧ St W1 b n (swpR f p q m) wr) (fun i _ => k - (intOf i).toNat)
  case atStart => exact ⟨0, Nat.zero_le _, rfl, H0.out⟩
  case round =>
    clear H0
    obtain ⟨m, hm, rfl, hs⟩ := hrel
    by_cases hlt : m < k
    · obtain ⟨P, hP⟩ : ∃ P : Nat, p + m = P := ⟨_, rfl⟩
      obtain ⟨Q, hQ⟩ : ∃ Q : Nat, q + m = Q := ⟨_, rfl⟩
      have hPn : P < n := by omega
      have hQn : Q < n := by omega
      obtain ⟨c1, f1⟩ := hs.row P hPn
      obtain ⟨c2, f2⟩ := hs.row Q hQn
      have w1 : IntKind.i64.wrap ((p : Int) + (m : Int)) = (P : Int) := by rw [← Int.natCast_add, hP]; exact IntWalk.i64_in _ ⟨by omega, by omega⟩
      have w2 : IntKind.i64.wrap ((q : Int) + (m : Int)) = (Q : Int) := by rw [← Int.natCast_add, hQ]; exact IntWalk.i64_in _ ⟨by omega, by omega⟩
      have hPz : (P : Int) < (n : Int) := by omega
      have hQz : (Q : Int) < (n : Int) := by omega
      have hne1 : ¬ P = Q := by omega
      have hne2 : ¬ Q = P := by omega
      have HS1 : Hid (St W1 b n (swpR f p q (m + 1)) ((wr.setCell ⟨b, P, none⟩ (.int .i64 (swpR f p q m Q))).setCell ⟨b, Q, none⟩ (.int .i64 (swpR f p q m P))).drew) := by
        unfold Hid
        rw [← swpR_step f p q k m hpq hlt, hP, hQ]
        exact (hs.swap hPn hQn).drew
      have HS2 : Hid (St W1 b n (swpR f p q (m + 1)) ((wr.setCell ⟨b, Q, none⟩ (.int .i64 (swpR f p q m P))).setCell ⟨b, P, none⟩ (.int .i64 (swpR f p q m Q))).drew) := by
        unfold Hid
        rw [← swpR_step f p q k m hpq hlt, hP, hQ]
        exact (hs.swap' hPn hQn).drew
      generalize swpR f p q m Q = x at *
      generalize swpR f p q m P = y at *
      clear hs hP hQ
      go_wp2
      go_region
      all_goals
        go_wp2
        go_roundw
        case rel => first | exact ⟨m + 1, by omega, by go_num, HS1.out⟩ | exact ⟨m + 1, by omega, by go_num, HS2.out⟩
        case measure => simp [intOf]; omega
    · have hmk : m = k := by omega
      subst hmk
      have HF := hide hs
      clear hs
      go_wp2
      go_end0
      exact ⟨rfl, HF.out⟩
set_option maxHeartbeats 4000000 in
theorem rotate_any {W1 w : World} {b n c a m e' : Nat} {f : Nat → Int} (cv : Value) (h : St W1 b n f w) (hn : n ≤ 16384) (ham : a < m) (hme : m < e') (hen : e' ≤ n) :
    Calls Try.prog 98 #[.slice (some ⟨b, 0, none⟩) n c, .int .i64 (a : Int), .int .i64 (m : Int), .int .i64 (e' : Int), cv] w fun e w' => e = .returned (.tuple #[]) ∧ St W1 b n (rotF f a m e') w' := by
  have H0 := hide h
  obtain ⟨G, hG⟩ : ∃ G, rotF f a m e' = G := ⟨_, rfl⟩
  rw [hG]
  have HG := hide hG
  clear h hG
  go_enter Try.func98, Try.ntmps98
  go_wp2
  go_loopw [10, 11] (fun i j wr => ∃ I J : Nat, 0 < I ∧ 0 < J ∧ I ≤ m ∧ m + J ≤ n ∧ i = .int .i64 (I : Int) ∧ j = .int .i64 (J : Int) ∧ ∃ g, St W1 b n g wr ∧ rotF g (m - I) m (m + J) = G) (fun i j _ => (intOf i).toNat + (intOf j).toNat)
  case atStart =>
    refine ⟨m - a, e' - m, by omega, by omega, by omega, by omega, by go_num, by go_num, f, H0.out, ?_⟩
    rw [← HG.out, show m - (m - a) = a by omega, show m + (e' - m) = e' by omega]
  case round =>
    clear H0 HG
    obtain ⟨I, J, hI, hJ, hIm, hJn, rfl, rfl, g, hs, hr⟩ := hrel
    by_cases hIJ : I = J
    · subst hIJ
      obtain ⟨P, hP⟩ : ∃ P : Nat, m - I = P := ⟨_, rfl⟩
      have hPz : (m : Int) - (I : Int) = (P : Int) := by omega
      have C := swapR_any (c := c) (p := P) (q := m) (k := I) cv hs hn (by omega) (by omega)
      have HF : Hid (swpR g P m I = G) := by unfold Hid; rw [← hr, ← hP]; exact rot_same g m I hIm
      have HCM : Hid (Calls Try.prog 99 #[.slice (some ⟨b, 0, none⟩) n c, .int .i64 ((m : Int) - (I : Int)), .int .i64 (m : Int), .int .i64 (I : Int), cv] wr fun e w' => e = .returned (.tuple #[]) ∧ St W1 b n (swpR g P m I) w') := by rw [hPz]; exact C
      clear hs hr C hP hPz
      go_wp2_with fail
      refine HCM.out.mono ?_
      rintro e w2 ⟨rfl, hs2⟩
      rw [HF.out] at hs2
      have HS2 := hide hs2
      clear hs2
      go_wp2
      go_end0
      exact ⟨rfl, HS2.out⟩
    · have hb : ((I : Int) != (J : Int)) = true := by simp; omega
      obtain ⟨P, hP⟩ : ∃ P : Nat, m - I = P := ⟨_, rfl⟩
      have hPz : (m : Int) - (I : Int) = (P : Int) := by omega
      by_cases hlt : J < I
      · have hgt : (J : Int) < (I : Int) := by omega
        have HCM : Hid (Calls Try.prog 99 #[.slice (some ⟨b, 0, none⟩) n c, .int .i64 ((m : Int) - (I : Int)), .int .i64 (m : Int), .int .i64 (J : Int), cv] wr fun e w' => e = .returned (.tuple #[]) ∧ St W1 b n (swpR g P m J) w') := by
          rw [hPz]; exact swapR_any (c := c) (p := P) (q := m) (k := J) cv hs hn (by omega) (by omega)
        have HF : Hid (rotF (swpR g P m J) (m - (I - J)) m (m + J) = G) := by unfold Hid; rw [← hr, ← hP]; exact rot_left g m I J hIm hlt
        clear hs hr hP hPz
        go_wp2_with fail
        refine HCM.out.mono ?_
        rintro e w2 ⟨rfl, hs2⟩
        have HS2 := hide hs2
        clear hs2 HCM
        go_wp2
        go_roundw
        case rel => exact ⟨I - J, J, by omega, by omega, by omega, by omega, by go_num, rfl, _, HS2.out, HF.out⟩
        case measure => simp [intOf]; omega
      · have hgt : ¬ (J : Int) < (I : Int) := by omega
        obtain ⟨Q, hQ⟩ : ∃ Q : Nat, m + J - I = Q := ⟨_, rfl⟩
        have hQz : (m : Int) + (J : Int) - (I : Int) = (Q : Int) := by omega
        have HCM : Hid (Calls Try.prog 99 #[.slice (some ⟨b, 0, none⟩) n c, .int .i64 ((m : Int) - (I : Int)), .int .i64 ((m : Int) + (J : Int) - (I : Int)), .int .i64 (I : Int), cv] wr fun e w' => e = .returned (.tuple #[]) ∧ St W1 b n (swpR g P Q I) w') := by
          rw [hPz, hQz]; exact swapR_any (c := c) (p := P) (q := Q) (k := I) cv hs hn (by omega) (by omega)
        have HF : Hid (rotF (swpR g P Q I) (m - I) m (m + (J - I)) = G) := by unfold Hid; rw [← hr, ← hP, ← hQ]; exact rot_right g m I J hIm (by omega)
        clear hs hr hP hPz hQ hQz
        go_wp2_with fail
        refine HCM.out.mono ?_
        rintro e w2 ⟨rfl, hs2⟩
        have HS2 := hide hs2
        clear hs2 HCM
        go_wp2
        go_roundw
        case rel => exact ⟨I, J - I, by omega, by omega, by omega, by omega, rfl, by go_num, _, HS2.out, HF.out⟩
        case measure => simp [intOf]; omega
end Go.Proofs.Ytimkcpbgnoekcaa
namespace Go.Proofs.Ytimkcpbgnoekcaa
open Go.ChangeShapes Go.WideShapes Go.ChangeAt Go.RowKit
set_option linter.unusedVariables false
set_option maxRecDepth 100000
/-- A comparison that is handed over as a function: it reads, and may make memory. -/
def CmpOk (W1 : World) (b n : Nat) (F : Nat) (p q : Value) (c : Int → Int → Int) : Prop := ∀ W, Below b W1 W → ∀ x y : Int, 0 ≤ x → x < n → 0 ≤ y → y < n → Calls Try.prog F #[.int .i64 x, .int .i64 y, p, q] W fun e w' => e = .returned (.int .i64 (c x y)) ∧ Below W.heap.size W w'
/-- A comparison of two of the row's numbers, in a form for regions that draw. -/
theorem CmpOk.at_ {W1 w : World} {b n F : Nat} {p q : Value} {c : Int → Int → Int} {f : Nat → Int} (K : CmpOk W1 b n F p q c) (h : St W1 b n f w) (hR : Rng n f) {i j : Nat} (hi : i < n) (hj : j < n) :
    ∀ W, Below w.heap.size w W → Calls Try.prog F #[.int .i64 (f i), .int .i64 (f j), p, q] W fun e w' => e = .returned (.int .i64 (c (f i) (f j))) ∧ Below w.heap.size w w' := fun W hW => by
  refine (K W (h.bel.trans (hW.mono (Nat.le_of_lt h.lt))) _ _ (hR i hi).1 (hR i hi).2 (hR j hj).1 (hR j hj).2).mono ?_
  rintro e w' ⟨rfl, hb⟩
  exact ⟨rfl, hW.trans (hb.mono hW.size)⟩
theorem St.two {W1 w : World} {b n : Nat} {f : Nat → Int} (h : St W1 b n f w) {i j : Nat} (hi : i < n) (hj : j < n) : ∀ W, Below w.heap.size w W → (Below w.heap.size w W ∧ W.cell? ⟨b, i, none⟩ = some (.int .i64 (f i)) ∧ W.cell? ⟨b, j, none⟩ = some (.int .i64 (f j))) := fun W hW => ⟨hW, (hW.cell (p := ⟨b, i, none⟩) h.lt).trans (h.row i hi).1, (hW.cell (p := ⟨b, j, none⟩) h.lt).trans (h.row j hj).1⟩
set_option maxHeartbeats 4000000 in
theorem insertion_87 {W1 w : World} {b n cap a e' : Nat} {f : Nat → Int} {p q : Value} {c : Int → Int → Int} (K : CmpOk W1 b n 87 p q c) (O : OrdN n c) (h : St W1 b n f w) (hR : Rng n f) (hn : n ≤ 16384) (hae : a ≤ e') (hen : e' ≤ n) (hup : ∀ i j, a ≤ i → i < j → j < e' → f i < f j) :
    Calls Try.prog 96 #[.slice (some ⟨b, 0, none⟩) n cap, .int .i64 (a : Int), .int .i64 (e' : Int), .func (.func 87) #[] #[p, q]] w fun e w' => e = .returned (.tuple #[]) ∧ ∃ g, St W1 b n g w' ∧ Mv f g a e' ∧ Srt c g a e' := by
  have HK := hide K
  have H0 := hide h
  have HU := hide (And.intro hR hup)
  have HO := hide O
  clear h K O hR hup
  go_enter Try.func96, Try.ntmps96
  go_wp2
  go_loopg [8] (e' + 1) (fun m i wr => ∃ (I : Nat) (g : Nat → Int), m + I = e' + 1 + (a + 1) ∧ a + 1 ≤ I ∧ I ≤ max (a + 1) e' ∧ i = .int .i64 (I : Int) ∧ St W1 b n g wr ∧ Mv f g a (min I e') ∧ Srt c g a (min I e'))
  case atStart =>
    refine ⟨a + 1, f, rfl, Nat.le_refl _, by omega, by go_num, H0.out, Mv.refl _ _ _, fun i j h1 h2 h3 => by omega⟩
  case round =>
    clear H0
    obtain ⟨I, g, hm, hI1, hI2, rfl, hs, hmv, hsr⟩ := hrel
    by_cases hlt : I < e'
    case neg =>
      have hmin : min I e' = e' := by omega
      rw [hmin] at hmv hsr
      have HF : Hid (∃ g, St W1 b n g wr ∧ Mv f g a e' ∧ Srt c g a e') := ⟨g, hs, hmv, hsr⟩
      clear hs hmv hsr hmin
      go_wp2
      go_end0
      exact ⟨rfl, HF.out⟩
    have hmin : min I e' = I := by omega
    rw [hmin] at hmv hsr
    obtain ⟨wo, hwo⟩ : ∃ wo, wo = wr := ⟨_, rfl⟩
    subst hwo
    have HG := hide (And.intro hmv hsr)
    have HS := hide hs
    have hIn : I < n := by omega
    have hgR : Rng n g := hmv.rng (by omega) HU.out.1
    have HGR := hide hgR
    clear hmv hsr hmin hs hgR
    go_wp2
    go_loopg [9] (I + 1) (fun m j wr => ∃ J : Nat, m = J + 1 ∧ a ≤ J ∧ J ≤ I ∧ j = .int .i64 (J : Int) ∧ St W1 b n (ins g I J) wr ∧ ∀ x, J ≤ x → x < I → ltc c (g I) (g x))
    case atStart => exact ⟨I, rfl, by omega, Nat.le_refl _, rfl, by rw [ins_self]; exact HS.out, fun x h1 h2 => by omega⟩
    case round =>
      clear HS
      obtain ⟨J, hmm, hJ1, hJ2, rfl, hs, hall⟩ := hrel
      have HA := hide hall
      by_cases hJa : J = a
      · have HNX : Hid (∃ g', St W1 b n g' wr ∧ Mv f g' a (min (I + 1) e') ∧ Srt c g' a (min (I + 1) e')) := by
          have hmin : min (I + 1) e' = I + 1 := by omega
          rw [hmin]
          refine ⟨ins g I J, hs, (HG.out.1.wide (Nat.le_refl _) (by omega)).trans (ins_mv g hJ1 hJ2), ins_srt HO.out HGR.out hIn hJ1 hJ2 HG.out.2 HA.out fun h => by omega⟩
        clear hs hall HA
        subst hJa
        go_wp2
        go_quiet (fail)
        go_wp2
        go_roundg (e' + 1 + (J + 1) - (I + 1))
        case rel =>
          obtain ⟨g', h1, h2, h3⟩ := HNX.out
          exact ⟨I + 1, g', by omega, by omega, by omega, by go_num, h1.next (drewN_below (Below.refl _ _) _), h2, h3⟩
        case measure => omega
      · have hgt : (a : Int) < (J : Int) := by omega
        obtain ⟨J1, hJ1'⟩ : ∃ J1 : Nat, J - 1 = J1 := ⟨_, rfl⟩
        have hwj : IntKind.i64.wrap ((J : Int) - 1) = (J1 : Int) := by rw [show (J : Int) - 1 = (J1 : Int) by omega]; exact IntWalk.i64_in _ ⟨by omega, by omega⟩
        have hJn : J < n := by omega
        have hJ1n : J1 < n := by omega
        have hJz : (J : Int) < (n : Int) := by omega
        have hJ1z : (J1 : Int) < (n : Int) := by omega
        have hiR : Rng n (ins g I J) := (ins_mv g (A := a) hJ1 hJ2).rng (by omega) HGR.out
        have HC := hide (HK.out.at_ hs hiR hJn hJ1n)
        have KS := hide (hs.two hJn hJ1n)
        have HD0 : Hid (Below wr.heap.size wr wr.drew) := (Below.refl _ _).drew
        have HSW := hide hs
        have e1 : ins g I J J = g I := ins_at g I J
        have e2 : ins g I J J1 = g J1 := ins_lo g (by omega)
        have HLT : Hid (c (g I) (g J1) < 0 ↔ ltc c (g I) (g J1)) := ltc_of (by
          obtain ⟨y, hy1, hy2, hy3⟩ := HG.out.1.img J1 (by omega) (by omega)
          rw [hy3, HG.out.1.out I (by omega)]
          exact HU.out.2 y I hy1 hy2 hlt)
        have HNE : Hid (g I ≠ g J1) := by
          obtain ⟨y, hy1, hy2, hy3⟩ := HG.out.1.img J1 (by omega) (by omega)
          unfold Hid
          rw [hy3, HG.out.1.out I (by omega)]
          have := HU.out.2 y I hy1 hy2 hlt
          omega
        rw [e1, e2] at HC KS
        obtain ⟨r, hr⟩ : ∃ r, c (g I) (g J1) = r := ⟨_, rfl⟩
        rw [hr] at HC HLT
        obtain ⟨vI, hvI⟩ : ∃ v, g I = v := ⟨_, rfl⟩
        obtain ⟨vJ, hvJ⟩ : ∃ v, g J1 = v := ⟨_, rfl⟩
        have HVV := hide (And.intro hvI hvJ)
        rw [hvI, hvJ] at HC KS
        obtain ⟨lb, hlb⟩ : ∃ lb, decide (r < 0) = lb := ⟨_, rfl⟩
        have HLB := hide hlb
        clear hs hall hiR e1 e2 hr hvI hvJ hlb
        go_upto_region 4 with fail
        go_cut [34] from 18 to 34 (fun s wx => s = .bool lb ∧ Below wr.heap.size wr wx)
        case first =>
          have hlb := HLB.out
          go_region_held3 (fun W => Below wr.heap.size wr W ∧ W.cell? ⟨b, J, none⟩ = some (.int .i64 vI) ∧ W.cell? ⟨b, J1, none⟩ = some (.int .i64 vJ))
            (first | with_reducible exact KS.out _ HD0.out | with_reducible exact KS.out _ (by with_reducible assumption))
            (first | (go_at_call 87; refine (HC.out _ HD0.out).mono ?_; rintro e w5 ⟨rfl, hb5⟩))
          all_goals
            go_wp2
            go_meet
          all_goals
            case rel => exact ⟨rfl, hb5⟩
        case rest =>
        obtain ⟨rfl, hb5⟩ := hcut
        have hs5 := HSW.out.next hb5
        go_upto_if 34 with fail
        cases lb
        case false =>
          have HNX : Hid (∃ g', St W1 b n g' wc ∧ Mv f g' a (min (I + 1) e') ∧ Srt c g' a (min (I + 1) e')) := by
            have hmin : min (I + 1) e' = I + 1 := by omega
            rw [hmin]
            refine ⟨ins g I J, hs5, (HG.out.1.wide (Nat.le_refl _) (by omega)).trans (ins_mv g hJ1 hJ2), ins_srt HO.out HGR.out hIn hJ1 hJ2 HG.out.2 HA.out fun h => ?_⟩
            have hnl : ¬ ltc c (g I) (g J1) := fun hh => of_decide_eq_false HLB.out (HLT.out.2 hh)
            rw [hJ1']
            exact HO.out.tot _ _ (HGR.out I hIn).1 (HGR.out I hIn).2 (HGR.out J1 hJ1n).1 (HGR.out J1 hJ1n).2 HNE.out hnl
          clear hs5 hb5 HC KS HSW
          go_wp2
          go_roundg (e' + 1 + (a + 1) - (I + 1))
          case rel =>
            obtain ⟨g', h1, h2, h3⟩ := HNX.out
            exact ⟨I + 1, g', by omega, by omega, by omega, by go_num, h1, h2, h3⟩
          case measure => omega
        case true =>
          have hll : ltc c (g I) (g J1) := HLT.out.1 (of_decide_eq_true HLB.out)
          have HALL : Hid (∀ x, J1 ≤ x → x < I → ltc c (g I) (g x)) := fun x h1 h2 => by
            by_cases hx : x = J1
            · rw [hx]; exact hll
            · exact HA.out x (by omega) h2
          obtain ⟨c1, f1⟩ := hs5.row J hJn
          obtain ⟨c2, f2⟩ := hs5.row J1 hJ1n
          have hstep : swp (ins g I J) J J1 = ins g I J1 := by rw [← hJ1']; exact ins_step g I J (by omega) hJ2
          have e1 : ins g I J J = vI := by rw [ins_at]; exact HVV.out.1
          have e2 : ins g I J J1 = vJ := by rw [ins_lo g (by omega)]; exact HVV.out.2
          have HS1 : Hid (St W1 b n (ins g I J1) ((wc.setCell ⟨b, J, none⟩ (.int .i64 vJ)).setCell ⟨b, J1, none⟩ (.int .i64 vI)).drew) := by
            have := (hs5.swap hJn hJ1n).drew
            rw [hstep, e1, e2] at this
            exact this
          have HS2 : Hid (St W1 b n (ins g I J1) ((wc.setCell ⟨b, J1, none⟩ (.int .i64 vI)).setCell ⟨b, J, none⟩ (.int .i64 vJ)).drew) := by
            have := (hs5.swap' hJn hJ1n).drew
            rw [hstep, e1, e2] at this
            exact this
          rw [e1] at c1
          rw [e2] at c2
          have hne1 : ¬ J = J1 := by omega
          have hne2 : ¬ J1 = J := by omega
          clear hs5 hb5 HC KS HSW hll hstep e1 e2
          go_wp2
          go_region
          all_goals
            go_wp2
            go_roundg (J1 + 1)
            case rel => first | exact ⟨J1, rfl, by omega, by omega, by go_num, HS1.out, HALL.out⟩ | exact ⟨J1, rfl, by omega, by omega, by go_num, HS2.out, HALL.out⟩
            case measure => omega
set_option maxHeartbeats 4000000 in
theorem insertion_79 {W1 w : World} {b n cap a e' : Nat} {f : Nat → Int} {p q : Value} {c : Int → Int → Int} (K : CmpOk W1 b n 79 p q c) (O : OrdN n c) (h : St W1 b n f w) (hR : Rng n f) (hn : n ≤ 16384) (hae : a ≤ e') (hen : e' ≤ n) (hup : ∀ i j, a ≤ i → i < j → j < e' → f i < f j) :
    Calls Try.prog 96 #[.slice (some ⟨b, 0, none⟩) n cap, .int .i64 (a : Int), .int .i64 (e' : Int), .func (.func 79) #[] #[p, q]] w fun e w' => e = .returned (.tuple #[]) ∧ ∃ g, St W1 b n g w' ∧ Mv f g a e' ∧ Srt c g a e' := by
  have HK := hide K
  have H0 := hide h
  have HU := hide (And.intro hR hup)
  have HO := hide O
  clear h K O hR hup
  go_enter Try.func96, Try.ntmps96
  go_wp2
  go_loopg [8] (e' + 1) (fun m i wr => ∃ (I : Nat) (g : Nat → Int), m + I = e' + 1 + (a + 1) ∧ a + 1 ≤ I ∧ I ≤ max (a + 1) e' ∧ i = .int .i64 (I : Int) ∧ St W1 b n g wr ∧ Mv f g a (min I e') ∧ Srt c g a (min I e'))
  case atStart =>
    refine ⟨a + 1, f, rfl, Nat.le_refl _, by omega, by go_num, H0.out, Mv.refl _ _ _, fun i j h1 h2 h3 => by omega⟩
  case round =>
    clear H0
    obtain ⟨I, g, hm, hI1, hI2, rfl, hs, hmv, hsr⟩ := hrel
    by_cases hlt : I < e'
    case neg =>
      have hmin : min I e' = e' := by omega
      rw [hmin] at hmv hsr
      have HF : Hid (∃ g, St W1 b n g wr ∧ Mv f g a e' ∧ Srt c g a e') := ⟨g, hs, hmv, hsr⟩
      clear hs hmv hsr hmin
      go_wp2
      go_end0
      exact ⟨rfl, HF.out⟩
    have hmin : min I e' = I := by omega
    rw [hmin] at hmv hsr
    obtain ⟨wo, hwo⟩ : ∃ wo, wo = wr := ⟨_, rfl⟩
    subst hwo
    have HG := hide (And.intro hmv hsr)
    have HS := hide hs
    have hIn : I < n := by omega
    have hgR : Rng n g := hmv.rng (by omega) HU.out.1
    have HGR := hide hgR
    clear hmv hsr hmin hs hgR
    go_wp2
    go_loopg [9] (I + 1) (fun m j wr => ∃ J : Nat, m = J + 1 ∧ a ≤ J ∧ J ≤ I ∧ j = .int .i64 (J : Int) ∧ St W1 b n (ins g I J) wr ∧ ∀ x, J ≤ x → x < I → ltc c (g I) (g x))
    case atStart => exact ⟨I, rfl, by omega, Nat.le_refl _, rfl, by rw [ins_self]; exact HS.out, fun x h1 h2 => by omega⟩
    case round =>
      clear HS
      obtain ⟨J, hmm, hJ1, hJ2, rfl, hs, hall⟩ := hrel
      have HA := hide hall
      by_cases hJa : J = a
      · have HNX : Hid (∃ g', St W1 b n g' wr ∧ Mv f g' a (min (I + 1) e') ∧ Srt c g' a (min (I + 1) e')) := by
          have hmin : min (I + 1) e' = I + 1 := by omega
          rw [hmin]
          refine ⟨ins g I J, hs, (HG.out.1.wide (Nat.le_refl _) (by omega)).trans (ins_mv g hJ1 hJ2), ins_srt HO.out HGR.out hIn hJ1 hJ2 HG.out.2 HA.out fun h => by omega⟩
        clear hs hall HA
        subst hJa
        go_wp2
        go_quiet (fail)
        go_wp2
        go_roundg (e' + 1 + (J + 1) - (I + 1))
        case rel =>
          obtain ⟨g', h1, h2, h3⟩ := HNX.out
          exact ⟨I + 1, g', by omega, by omega, by omega, by go_num, h1.next (drewN_below (Below.refl _ _) _), h2, h3⟩
        case measure => omega
      · have hgt : (a : Int) < (J : Int) := by omega
        obtain ⟨J1, hJ1'⟩ : ∃ J1 : Nat, J - 1 = J1 := ⟨_, rfl⟩
        have hwj : IntKind.i64.wrap ((J : Int) - 1) = (J1 : Int) := by rw [show (J : Int) - 1 = (J1 : Int) by omega]; exact IntWalk.i64_in _ ⟨by omega, by omega⟩
        have hJn : J < n := by omega
        have hJ1n : J1 < n := by omega
        have hJz : (J : Int) < (n : Int) := by omega
        have hJ1z : (J1 : Int) < (n : Int) := by omega
        have hiR : Rng n (ins g I J) := (ins_mv g (A := a) hJ1 hJ2).rng (by omega) HGR.out
        have HC := hide (HK.out.at_ hs hiR hJn hJ1n)
        have KS := hide (hs.two hJn hJ1n)
        have HD0 : Hid (Below wr.heap.size wr wr.drew) := (Below.refl _ _).drew
        have HSW := hide hs
        have e1 : ins g I J J = g I := ins_at g I J
        have e2 : ins g I J J1 = g J1 := ins_lo g (by omega)
        have HLT : Hid (c (g I) (g J1) < 0 ↔ ltc c (g I) (g J1)) := ltc_of (by
          obtain ⟨y, hy1, hy2, hy3⟩ := HG.out.1.img J1 (by omega) (by omega)
          rw [hy3, HG.out.1.out I (by omega)]
          exact HU.out.2 y I hy1 hy2 hlt)
        have HNE : Hid (g I ≠ g J1) := by
          obtain ⟨y, hy1, hy2, hy3⟩ := HG.out.1.img J1 (by omega) (by omega)
          unfold Hid
          rw [hy3, HG.out.1.out I (by omega)]
          have := HU.out.2 y I hy1 hy2 hlt
          omega
        rw [e1, e2] at HC KS
        obtain ⟨r, hr⟩ : ∃ r, c (g I) (g J1) = r := ⟨_, rfl⟩
        rw [hr] at HC HLT
        obtain ⟨vI, hvI⟩ : ∃ v, g I = v := ⟨_, rfl⟩
        obtain ⟨vJ, hvJ⟩ : ∃ v, g J1 = v := ⟨_, rfl⟩
        have HVV := hide (And.intro hvI hvJ)
        rw [hvI, hvJ] at HC KS
        obtain ⟨lb, hlb⟩ : ∃ lb, decide (r < 0) = lb := ⟨_, rfl⟩
        have HLB := hide hlb
        clear hs hall hiR e1 e2 hr hvI hvJ hlb
        go_upto_region 4 with fail
        go_cut [34] from 18 to 34 (fun s wx => s = .bool lb ∧ Below wr.heap.size wr wx)
        case first =>
          have hlb := HLB.out
          go_region_held3 (fun W => Below wr.heap.size wr W ∧ W.cell? ⟨b, J, none⟩ = some (.int .i64 vI) ∧ W.cell? ⟨b, J1, none⟩ = some (.int .i64 vJ))
            (first | with_reducible exact KS.out _ HD0.out | with_reducible exact KS.out _ (by with_reducible assumption))
            (first | (go_at_call 79; refine (HC.out _ HD0.out).mono ?_; rintro e w5 ⟨rfl, hb5⟩))
          all_goals
            go_wp2
            go_meet
          all_goals
            case rel => exact ⟨rfl, hb5⟩
        case rest =>
        obtain ⟨rfl, hb5⟩ := hcut
        have hs5 := HSW.out.next hb5
        go_upto_if 34 with fail
        cases lb
        case false =>
          have HNX : Hid (∃ g', St W1 b n g' wc ∧ Mv f g' a (min (I + 1) e') ∧ Srt c g' a (min (I + 1) e')) := by
            have hmin : min (I + 1) e' = I + 1 := by omega
            rw [hmin]
            refine ⟨ins g I J, hs5, (HG.out.1.wide (Nat.le_refl _) (by omega)).trans (ins_mv g hJ1 hJ2), ins_srt HO.out HGR.out hIn hJ1 hJ2 HG.out.2 HA.out fun h => ?_⟩
            have hnl : ¬ ltc c (g I) (g J1) := fun hh => of_decide_eq_false HLB.out (HLT.out.2 hh)
            rw [hJ1']
            exact HO.out.tot _ _ (HGR.out I hIn).1 (HGR.out I hIn).2 (HGR.out J1 hJ1n).1 (HGR.out J1 hJ1n).2 HNE.out hnl
          clear hs5 hb5 HC KS HSW
          go_wp2
          go_roundg (e' + 1 + (a + 1) - (I + 1))
          case rel =>
            obtain ⟨g', h1, h2, h3⟩ := HNX.out
            exact ⟨I + 1, g', by omega, by omega, by omega, by go_num, h1, h2, h3⟩
          case measure => omega
        case true =>
          have hll : ltc c (g I) (g J1) := HLT.out.1 (of_decide_eq_true HLB.out)
          have HALL : Hid (∀ x, J1 ≤ x → x < I → ltc c (g I) (g x)) := fun x h1 h2 => by
            by_cases hx : x = J1
            · rw [hx]; exact hll
            · exact HA.out x (by omega) h2
          obtain ⟨c1, f1⟩ := hs5.row J hJn
          obtain ⟨c2, f2⟩ := hs5.row J1 hJ1n
          have hstep : swp (ins g I J) J J1 = ins g I J1 := by rw [← hJ1']; exact ins_step g I J (by omega) hJ2
          have e1 : ins g I J J = vI := by rw [ins_at]; exact HVV.out.1
          have e2 : ins g I J J1 = vJ := by rw [ins_lo g (by omega)]; exact HVV.out.2
          have HS1 : Hid (St W1 b n (ins g I J1) ((wc.setCell ⟨b, J, none⟩ (.int .i64 vJ)).setCell ⟨b, J1, none⟩ (.int .i64 vI)).drew) := by
            have := (hs5.swap hJn hJ1n).drew
            rw [hstep, e1, e2] at this
            exact this
          have HS2 : Hid (St W1 b n (ins g I J1) ((wc.setCell ⟨b, J1, none⟩ (.int .i64 vI)).setCell ⟨b, J, none⟩ (.int .i64 vJ)).drew) := by
            have := (hs5.swap' hJn hJ1n).drew
            rw [hstep, e1, e2] at this
            exact this
          rw [e1] at c1
          rw [e2] at c2
          have hne1 : ¬ J = J1 := by omega
          have hne2 : ¬ J1 = J := by omega
          clear hs5 hb5 HC KS HSW hll hstep e1 e2
          go_wp2
          go_region
          all_goals
            go_wp2
            go_roundg (J1 + 1)
            case rel => first | exact ⟨J1, rfl, by omega, by omega, by go_num, HS1.out, HALL.out⟩ | exact ⟨J1, rfl, by omega, by omega, by go_num, HS2.out, HALL.out⟩
            case measure => omega
end Go.Proofs.Ytimkcpbgnoekcaa
