/-
  Rows that append has put together, in a field of a variable: numbers, cells. No program's function is named.
-/
import Derived.Test.YtmjncdhahdpplaaLyU
import Derived.Test.YtmjncdhahdpplaaOwnX
namespace Go.Proofs.Ytmjncdhahdpplaa
open Go.ChangeShapes Go.WideShapes Go.ChangeAt Go.RowKit
set_option linter.unusedVariables false
set_option maxRecDepth 100000
theorem owns_below {e : TypeId} {size n base : Nat} {w w1 : World} {v : Value} {xs : List Value} (h : w.ownsRow base e size v n xs) (hb : Below w.heap.size w w1) : w1.ownsRow base e size v n xs := by
  obtain ⟨h1, h2⟩ := h
  refine ⟨h1, ?_⟩
  rcases h2 with ⟨rfl, h2⟩ | ⟨g, cap, cur, rfl, hbg, hg, hn, hm, hs, ht⟩
  · exact Or.inl ⟨rfl, h2⟩
  · exact Or.inr ⟨g, cap, cur, rfl, hbg, (hb.block g (lt_of_block hg)).trans hg, hn, hm, hs, ht⟩
/-- A row of numbers that append has put together. -/
theorem owns_row {w : World} {base : Nat} {v : Value} (l : List Int) (hl : l.length ≤ 140737488355328) (h : w.ownsRow base 3 1 v l.length (l.map (Value.int .i64))) : ∃ a cap, v = .slice a l.length cap ∧ Row base w a l := by
  have h' := h
  obtain ⟨h1, h2⟩ := h'
  rcases h2 with ⟨rfl, h2⟩ | ⟨g, cap, cur, rfl, hb, hg, -⟩
  · have e : l = [] := List.eq_nil_of_length_eq_zero h2
    subst e
    exact ⟨none, 0, rfl, row_nil _ _ _⟩
  · refine ⟨_, cap, rfl, hl, Or.inr ⟨g, 0, rfl, hb, lt_of_block hg, fun i hi => ?_⟩⟩
    rw [Nat.zero_add, h.cellAt i (by omega)]
    simp [hi]
/-- Cells, one behind the other, as they lie in a row. -/
def rowT (T : Nat → Value × Value × Value) (j : Nat) : List Value := (List.range j).flatMap fun i => [(T i).1, (T i).2.1, (T i).2.2]
theorem rowT_step (T : Nat → Value × Value × Value) (j : Nat) : rowT T (j + 1) = rowT T j ++ [(T j).1, (T j).2.1, (T j).2.2] := by
  simp [rowT, List.range_succ]
theorem rowT_len (T : Nat → Value × Value × Value) (j : Nat) : (rowT T j).length = j * 3 := by
  induction j with
  | zero => rfl
  | succ j ih => rw [rowT_step, List.length_append, ih]; simp; omega
theorem rowT_at (T : Nat → Value × Value × Value) (m i : Nat) (hi : i < m) : (rowT T m)[i * 3]? = some (T i).1 ∧ (rowT T m)[i * 3 + 1]? = some (T i).2.1 ∧ (rowT T m)[i * 3 + 2]? = some (T i).2.2 := by
  induction m with
  | zero => omega
  | succ m ih =>
    rw [rowT_step]
    have hl := rowT_len T m
    rcases Nat.lt_succ_iff_lt_or_eq.1 hi with h | rfl
    · rw [List.getElem?_append_left (by omega), List.getElem?_append_left (by omega), List.getElem?_append_left (by omega)]
      exact ih h
    · rw [List.getElem?_append_right (by omega), List.getElem?_append_right (by omega), List.getElem?_append_right (by omega), hl]
      simp
theorem owns_cellsT {w : World} {base m : Nat} {v : Value} (T : Nat → Value × Value × Value) (h : w.ownsRow base 36 3 v m (rowT T m)) :
    ∃ a2 cap, v = .slice a2 m cap ∧ (m = 0 ∨ ∃ g, a2 = some ⟨g, 0, none⟩ ∧ base ≤ g ∧ g < w.heap.size ∧ ∀ i, i < m → w.cell? ⟨g, i * 3, none⟩ = some (T i).1 ∧ w.cell? ⟨g, i * 3 + 1, none⟩ = some (T i).2.1 ∧ w.cell? ⟨g, i * 3 + 2, none⟩ = some (T i).2.2) := by
  have h' := h
  obtain ⟨h1, h2⟩ := h'
  rcases h2 with ⟨rfl, rfl⟩ | ⟨g, cap, cur, rfl, hb, hg, -⟩
  · exact ⟨none, 0, rfl, Or.inl rfl⟩
  · refine ⟨_, cap, rfl, Or.inr ⟨g, rfl, hb, lt_of_block hg, fun i hi => ?_⟩⟩
    obtain ⟨e0, e1, e2⟩ := rowT_at T m i hi
    exact ⟨(h.cellAt _ (by omega)).trans e0, (h.cellAt _ (by omega)).trans e1, (h.cellAt _ (by omega)).trans e2⟩
/-- A loop that appends numbers to the first field of the variable in block o. -/
structure GrowI (W : World) (o : Nat) (l : List Int) (j : Nat) (v : Value) (wr : World) : Prop where
  io : Below 0 W wr
  keep : ∀ b, b < W.heap.size → b ≠ o → wr.heap[b]? = W.heap[b]?
  c0 : wr.cell? ⟨o, 0, none⟩ = some v
  c1 : wr.cell? ⟨o, 1, none⟩ = some (.slice none 0 0)
  f0 : wr.frozen? ⟨o, 0, none⟩ = false
  f1 : wr.frozen? ⟨o, 1, none⟩ = false
  own : wr.ownsRow W.heap.size 3 1 v j ((l.take j).map (Value.int .i64))
theorem GrowI.step {W : World} {o : Nat} {l : List Int} {j : Nat} {v v' : Value} {wr w1 : World} (ho : o < W.heap.size) (h : GrowI W o l j v wr) (hb : Below W.heap.size wr w1) (hown : w1.ownsRow W.heap.size 3 1 v' (j + 1) ((l.take (j + 1)).map (Value.int .i64))) : GrowI W o l (j + 1) v' (w1.setCell ⟨o, 0, none⟩ v') := by
  have e0 : w1.cell? ⟨o, 0, none⟩ = some v := (hb.cell (p := ⟨o, 0, none⟩) ho).trans h.c0
  have e1 : w1.cell? ⟨o, 1, none⟩ = some (.slice none 0 0) := (hb.cell (p := ⟨o, 1, none⟩) ho).trans h.c1
  refine ⟨(h.io.trans (hb.mono (Nat.zero_le _))).setCell (p := ⟨o, 0, none⟩) (Nat.zero_le _) _, fun b hb1 hne => ?_, ?_, ?_, ?_, ?_, ownsRow_setCell_below hown (a := ⟨o, 0, none⟩) ho _⟩
  · rw [Below.heap_setCell _ _ _ _ (by show b ≠ o; exact hne), hb.block b hb1]
    exact h.keep b hb1 hne
  · exact World.cell?_setCell_same' _ _ _ (by rw [e0]; rfl)
  · rw [World.cell?_setCell_other _ _ _ _ (by simp)]; exact e1
  · exact frozen_set _ _ _ _ ((hb.frozen (p := ⟨o, 0, none⟩) ho).trans h.f0)
  · exact frozen_set _ _ _ _ ((hb.frozen (p := ⟨o, 1, none⟩) ho).trans h.f1)
theorem GrowI.cell {W : World} {o : Nat} {l : List Int} {j : Nat} {v : Value} {wr : World} (h : GrowI W o l j v wr) {b i : Nat} {u : Value} (hb : b < W.heap.size) (hne : b ≠ o) (hc : W.cell? ⟨b, i, none⟩ = some u) : wr.cell? ⟨b, i, none⟩ = some u := by
  rw [World.cell?_of_block (w := W) (h.keep b hb hne)]; exact hc
theorem GrowI.frozen {W : World} {o : Nat} {l : List Int} {j : Nat} {v : Value} {wr : World} (h : GrowI W o l j v wr) {b i : Nat} (hb : b < W.heap.size) (hne : b ≠ o) (hc : W.frozen? ⟨b, i, none⟩ = false) : wr.frozen? ⟨b, i, none⟩ = false := by
  rw [World.frozen?_of_block (w := W) (h.keep b hb hne)]; exact hc
theorem GrowI.below {W : World} {o B : Nat} {l : List Int} {j : Nat} {v : Value} {wr : World} (h : GrowI W o l j v wr) (h1 : B ≤ o) (h2 : o < W.heap.size) : Below B W wr := ⟨h.io.os, h.io.tape, h.io.output, h.io.size, fun k hk => h.keep k (by omega) (by omega)⟩
/-- The same of cells, in the second field. -/
structure GrowC (W : World) (o : Nat) (sv : Value) (T : Nat → Value × Value × Value) (j : Nat) (v : Value) (wr : World) : Prop where
  io : Below 0 W wr
  keep : ∀ b, b < W.heap.size → b ≠ o → wr.heap[b]? = W.heap[b]?
  c0 : wr.cell? ⟨o, 0, none⟩ = some sv
  c1 : wr.cell? ⟨o, 1, none⟩ = some v
  f1 : wr.frozen? ⟨o, 1, none⟩ = false
  own : wr.ownsRow W.heap.size 36 3 v j (rowT T j)
theorem GrowC.step {W : World} {o : Nat} {sv : Value} {T : Nat → Value × Value × Value} {j : Nat} {v v' : Value} {wr w1 : World} (ho : o < W.heap.size) (h : GrowC W o sv T j v wr) (hb : Below W.heap.size wr w1) (hown : w1.ownsRow W.heap.size 36 3 v' (j + 1) (rowT T (j + 1))) : GrowC W o sv T (j + 1) v' (w1.setCell ⟨o, 1, none⟩ v') := by
  have e0 : w1.cell? ⟨o, 0, none⟩ = some sv := (hb.cell (p := ⟨o, 0, none⟩) ho).trans h.c0
  have e1 : w1.cell? ⟨o, 1, none⟩ = some v := (hb.cell (p := ⟨o, 1, none⟩) ho).trans h.c1
  refine ⟨(h.io.trans (hb.mono (Nat.zero_le _))).setCell (p := ⟨o, 1, none⟩) (Nat.zero_le _) _, fun b hb1 hne => ?_, ?_, ?_, ?_, ownsRow_setCell_below hown (a := ⟨o, 1, none⟩) ho _⟩
  · rw [Below.heap_setCell _ _ _ _ (by show b ≠ o; exact hne), hb.block b hb1]
    exact h.keep b hb1 hne
  · rw [World.cell?_setCell_other _ _ _ _ (by simp)]; exact e0
  · exact World.cell?_setCell_same' _ _ _ (by rw [e1]; rfl)
  · exact frozen_set _ _ _ _ ((hb.frozen (p := ⟨o, 1, none⟩) ho).trans h.f1)
theorem GrowC.cell {W : World} {o : Nat} {sv : Value} {T : Nat → Value × Value × Value} {j : Nat} {v : Value} {wr : World} (h : GrowC W o sv T j v wr) {b i : Nat} {u : Value} (hb : b < W.heap.size) (hne : b ≠ o) (hc : W.cell? ⟨b, i, none⟩ = some u) : wr.cell? ⟨b, i, none⟩ = some u := by
  rw [World.cell?_of_block (w := W) (h.keep b hb hne)]; exact hc
theorem GrowC.frozen {W : World} {o : Nat} {sv : Value} {T : Nat → Value × Value × Value} {j : Nat} {v : Value} {wr : World} (h : GrowC W o sv T j v wr) {b i : Nat} (hb : b < W.heap.size) (hne : b ≠ o) (hc : W.frozen? ⟨b, i, none⟩ = false) : wr.frozen? ⟨b, i, none⟩ = false := by
  rw [World.frozen?_of_block (w := W) (h.keep b hb hne)]; exact hc
theorem GrowC.below {W : World} {o B : Nat} {sv : Value} {T : Nat → Value × Value × Value} {j : Nat} {v : Value} {wr : World} (h : GrowC W o sv T j v wr) (h1 : B ≤ o) (h2 : o < W.heap.size) : Below B W wr := ⟨h.io.os, h.io.tape, h.io.output, h.io.size, fun k hk => h.keep k (by omega) (by omega)⟩
theorem take_map_step (l : List Int) (j : Nat) (hj : j < l.length) : (l.take (j + 1)).map (Value.int .i64) = (l.take j).map (Value.int .i64) ++ [.int .i64 (gI l j)] := by
  rw [List.take_succ_eq_append_getElem hj, List.map_append]
  simp [gI, hj]
end Go.Proofs.Ytmjncdhahdpplaa
