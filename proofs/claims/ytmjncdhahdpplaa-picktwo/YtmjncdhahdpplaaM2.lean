/-
  Rows that append has put together, in a field of a variable: numbers, cells. No program's function is named.
  The contracts of the document's Tally, back and Numbers of layer 5.
  Parts of slices as letters, append of whatever row behind a row of the call's own, rows that append has put together and that may be written. The contracts of the document's Item, count and boxes.
  The contracts of the library's Clone of a row of numbers and of layer 6's reshaped, listed, numberOf and filling.
  copy of elements of several cells into a row that is known whole, as a step; and the mathematics of places along an axis. No program's function is named.
  The contract of layer 6's along: an array with the places along an axis that a list says.
  The contract of layer 6's rotated.
  The contracts of the library's Grow of nothing and of its Concat of two rows of numbers.
  The contracts of slices.Clone with what its row owns, and of slices.Insert of a one ahead of, or behind, such a row.
  The contracts of layer 6's beside and fitted: the shapes in which two arrays stand to be joined.
  The contracts of the library's Mul and of its Repeat of one cell, and of layer 6's filling.
-/
import Derived.Test.YtmjncdhahdpplaaM1
import Derived.Test.YtmjncdhahdpplaaChecked
import GoSem.Claim
import GoSem.ClaimJoined
import GoSem.ClaimMapViews
import Derived.JoinedTies
import Derived.KernelRfl
import Derived.WalkKit
import Derived.ProofKit
import Derived.Below
import Derived.Deep.OwnRows
import Derived.Deep.QuietTactic
import Derived.BigQuiet
import Derived.Deep.RegionWith
import Derived.Laws.MakeOwn
import Derived.Deep.RegionHeld3
import Derived.Laws.IdiomCopy
import Derived.Deep.Cut
import Derived.Deep.LoopGhost
import Derived.OpenShut
import Derived.ChangeOld
import Derived.SizedLaws
import Derived.Deep.Slices
import Derived.Deep.Strs
import Derived.Laws.AppendOwn
import Derived.BigFrame
import Derived.Deep.CutRange
import Derived.Deep.RegionLaw
import Derived.Laws.OwnMore
import Derived.Lib.SliceRun
import Derived.Laws.CopyOwn
import Derived.Lib.Overlaps
import Derived.Lib.Mul64
namespace Go.Proofs.Ytmjncdhahdpplaa
open Go.ChangeShapes Go.WideShapes Go.ChangeAt Go.RowKit
set_option linter.unusedVariables false
set_option maxRecDepth 100000
theorem owns_below {e : TypeId} {size n base : Nat} {w w1 : World} {v : Value} {xs : List Value} (h : w.ownsRow base e size v n xs) (hb : Below w.heap.size w w1) : w1.ownsRow base e size v n xs := by
  obtain ⟨h1, h2⟩ := h
  refine ⟨h1, ?_⟩
  rcases h2 with ⟨rfl, h2⟩ | ⟨g, cap, cur, rfl, hbg, hg, hn, hm, hs, ht⟩
  · exact Or.inl ⟨rfl, h2⟩
  · exact Or.inr ⟨g, cap, cur, rfl, hbg, (hb.block g (lt_of_block hg)).trans hg, hn, hm, hs, ht⟩
/-- Cells, one behind the other, as they lie in a row. -/
def rowT (T : Nat → Value × Value × Value) (j : Nat) : List Value := (List.range j).flatMap fun i => [(T i).1, (T i).2.1, (T i).2.2]
theorem rowT_step (T : Nat → Value × Value × Value) (j : Nat) : rowT T (j + 1) = rowT T j ++ [(T j).1, (T j).2.1, (T j).2.2] := by
  simp [rowT, List.range_succ]
theorem rowT_len (T : Nat → Value × Value × Value) (j : Nat) : (rowT T j).length = j * 3 := by
  induction j with
  | zero => rfl
  | succ j ih => rw [rowT_step, List.length_append, ih]; simp; omega
theorem rowT_at (T : Nat → Value × Value × Value) (m i : Nat) (hi : i < m) : (rowT T m)[i * 3]? = some (T i).1 ∧ (rowT T m)[i * 3 + 1]? = some (T i).2.1 ∧ (rowT T m)[i * 3 + 2]? = some (T i).2.2 := by
  induction m with
  | zero => omega
  | succ m ih =>
    rw [rowT_step]
    have hl := rowT_len T m
    rcases Nat.lt_succ_iff_lt_or_eq.1 hi with h | rfl
    · rw [List.getElem?_append_left (by omega), List.getElem?_append_left (by omega), List.getElem?_append_left (by omega)]
      exact ih h
    · rw [List.getElem?_append_right (by omega), List.getElem?_append_right (by omega), List.getElem?_append_right (by omega), hl]
      simp
theorem owns_cellsT {w : World} {base m : Nat} {v : Value} (T : Nat → Value × Value × Value) (h : w.ownsRow base 36 3 v m (rowT T m)) :
    ∃ a2 cap, v = .slice a2 m cap ∧ (m = 0 ∨ ∃ g, a2 = some ⟨g, 0, none⟩ ∧ base ≤ g ∧ g < w.heap.size ∧ ∀ i, i < m → w.cell? ⟨g, i * 3, none⟩ = some (T i).1 ∧ w.cell? ⟨g, i * 3 + 1, none⟩ = some (T i).2.1 ∧ w.cell? ⟨g, i * 3 + 2, none⟩ = some (T i).2.2) := by
  have h' := h
  obtain ⟨h1, h2⟩ := h'
  rcases h2 with ⟨rfl, rfl⟩ | ⟨g, cap, cur, rfl, hb, hg, -⟩
  · exact ⟨none, 0, rfl, Or.inl rfl⟩
  · refine ⟨_, cap, rfl, Or.inr ⟨g, rfl, hb, lt_of_block hg, fun i hi => ?_⟩⟩
    obtain ⟨e0, e1, e2⟩ := rowT_at T m i hi
    exact ⟨(h.cellAt _ (by omega)).trans e0, (h.cellAt _ (by omega)).trans e1, (h.cellAt _ (by omega)).trans e2⟩
/-- A loop that appends numbers to the first field of the variable in block o. -/
structure GrowI (W : World) (o : Nat) (l : List Int) (j : Nat) (v : Value) (wr : World) : Prop where
  io : Below 0 W wr
  keep : ∀ b, b < W.heap.size → b ≠ o → wr.heap[b]? = W.heap[b]?
  c0 : wr.cell? ⟨o, 0, none⟩ = some v
  c1 : wr.cell? ⟨o, 1, none⟩ = some (.slice none 0 0)
  f0 : wr.frozen? ⟨o, 0, none⟩ = false
  f1 : wr.frozen? ⟨o, 1, none⟩ = false
  own : wr.ownsRow W.heap.size 3 1 v j ((l.take j).map (Value.int .i64))
theorem GrowI.step {W : World} {o : Nat} {l : List Int} {j : Nat} {v v' : Value} {wr w1 : World} (ho : o < W.heap.size) (h : GrowI W o l j v wr) (hb : Below W.heap.size wr w1) (hown : w1.ownsRow W.heap.size 3 1 v' (j + 1) ((l.take (j + 1)).map (Value.int .i64))) : GrowI W o l (j + 1) v' (w1.setCell ⟨o, 0, none⟩ v') := by
  have e0 : w1.cell? ⟨o, 0, none⟩ = some v := (hb.cell (p := ⟨o, 0, none⟩) ho).trans h.c0
  have e1 : w1.cell? ⟨o, 1, none⟩ = some (.slice none 0 0) := (hb.cell (p := ⟨o, 1, none⟩) ho).trans h.c1
  refine ⟨(h.io.trans (hb.mono (Nat.zero_le _))).setCell (p := ⟨o, 0, none⟩) (Nat.zero_le _) _, fun b hb1 hne => ?_, ?_, ?_, ?_, ?_, ownsRow_setCell_below hown (a := ⟨o, 0, none⟩) ho _⟩
  · rw [Below.heap_setCell _ _ _ _ (by show b ≠ o; exact hne), hb.block b hb1]
    exact h.keep b hb1 hne
  · exact World.cell?_setCell_same' _ _ _ (by rw [e0]; rfl)
  · rw [World.cell?_setCell_other _ _ _ _ (by simp)]; exact e1
  · exact frozen_set _ _ _ _ ((hb.frozen (p := ⟨o, 0, none⟩) ho).trans h.f0)
  · exact frozen_set _ _ _ _ ((hb.frozen (p := ⟨o, 1, none⟩) ho).trans h.f1)
theorem GrowI.cell {W : World} {o : Nat} {l : List Int} {j : Nat} {v : Value} {wr : World} (h : GrowI W o l j v wr) {b i : Nat} {u : Value} (hb : b < W.heap.size) (hne : b ≠ o) (hc : W.cell? ⟨b, i, none⟩ = some u) : wr.cell? ⟨b, i, none⟩ = some u := by
  rw [World.cell?_of_block (w := W) (h.keep b hb hne)]; exact hc
theorem GrowI.frozen {W : World} {o : Nat} {l : List Int} {j : Nat} {v : Value} {wr : World} (h : GrowI W o l j v wr) {b i : Nat} (hb : b < W.heap.size) (hne : b ≠ o) (hc : W.frozen? ⟨b, i, none⟩ = false) : wr.frozen? ⟨b, i, none⟩ = false := by
  rw [World.frozen?_of_block (w := W) (h.keep b hb hne)]; exact hc
theorem GrowI.below {W : World} {o B : Nat} {l : List Int} {j : Nat} {v : Value} {wr : World} (h : GrowI W o l j v wr) (h1 : B ≤ o) (h2 : o < W.heap.size) : Below B W wr := ⟨h.io.os, h.io.tape, h.io.output, h.io.size, fun k hk => h.keep k (by omega) (by omega)⟩
/-- The same of cells, in the second field. -/
structure GrowC (W : World) (o : Nat) (sv : Value) (T : Nat → Value × Value × Value) (j : Nat) (v : Value) (wr : World) : Prop where
  io : Below 0 W wr
  keep : ∀ b, b < W.heap.size → b ≠ o → wr.heap[b]? = W.heap[b]?
  c0 : wr.cell? ⟨o, 0, none⟩ = some sv
  c1 : wr.cell? ⟨o, 1, none⟩ = some v
  f1 : wr.frozen? ⟨o, 1, none⟩ = false
  own : wr.ownsRow W.heap.size 36 3 v j (rowT T j)
theorem GrowC.step {W : World} {o : Nat} {sv : Value} {T : Nat → Value × Value × Value} {j : Nat} {v v' : Value} {wr w1 : World} (ho : o < W.heap.size) (h : GrowC W o sv T j v wr) (hb : Below W.heap.size wr w1) (hown : w1.ownsRow W.heap.size 36 3 v' (j + 1) (rowT T (j + 1))) : GrowC W o sv T (j + 1) v' (w1.setCell ⟨o, 1, none⟩ v') := by
  have e0 : w1.cell? ⟨o, 0, none⟩ = some sv := (hb.cell (p := ⟨o, 0, none⟩) ho).trans h.c0
  have e1 : w1.cell? ⟨o, 1, none⟩ = some v := (hb.cell (p := ⟨o, 1, none⟩) ho).trans h.c1
  refine ⟨(h.io.trans (hb.mono (Nat.zero_le _))).setCell (p := ⟨o, 1, none⟩) (Nat.zero_le _) _, fun b hb1 hne => ?_, ?_, ?_, ?_, ownsRow_setCell_below hown (a := ⟨o, 1, none⟩) ho _⟩
  · rw [Below.heap_setCell _ _ _ _ (by show b ≠ o; exact hne), hb.block b hb1]
    exact h.keep b hb1 hne
  · rw [World.cell?_setCell_other _ _ _ _ (by simp)]; exact e0
  · exact World.cell?_setCell_same' _ _ _ (by rw [e1]; rfl)
  · exact frozen_set _ _ _ _ ((hb.frozen (p := ⟨o, 1, none⟩) ho).trans h.f1)
theorem GrowC.cell {W : World} {o : Nat} {sv : Value} {T : Nat → Value × Value × Value} {j : Nat} {v : Value} {wr : World} (h : GrowC W o sv T j v wr) {b i : Nat} {u : Value} (hb : b < W.heap.size) (hne : b ≠ o) (hc : W.cell? ⟨b, i, none⟩ = some u) : wr.cell? ⟨b, i, none⟩ = some u := by
  rw [World.cell?_of_block (w := W) (h.keep b hb hne)]; exact hc
theorem GrowC.frozen {W : World} {o : Nat} {sv : Value} {T : Nat → Value × Value × Value} {j : Nat} {v : Value} {wr : World} (h : GrowC W o sv T j v wr) {b i : Nat} (hb : b < W.heap.size) (hne : b ≠ o) (hc : W.frozen? ⟨b, i, none⟩ = false) : wr.frozen? ⟨b, i, none⟩ = false := by
  rw [World.frozen?_of_block (w := W) (h.keep b hb hne)]; exact hc
theorem GrowC.below {W : World} {o B : Nat} {sv : Value} {T : Nat → Value × Value × Value} {j : Nat} {v : Value} {wr : World} (h : GrowC W o sv T j v wr) (h1 : B ≤ o) (h2 : o < W.heap.size) : Below B W wr := ⟨h.io.os, h.io.tape, h.io.output, h.io.size, fun k hk => h.keep k (by omega) (by omega)⟩
end Go.Proofs.Ytmjncdhahdpplaa
namespace Go.Proofs.Ytmjncdhahdpplaa
open Go.ChangeShapes Go.WideShapes Go.ChangeAt Go.RowKit
set_option linter.unusedVariables false
set_option maxRecDepth 100000
theorem wpList_append_B {P : Program} {w : World} {ops : Array Oper} {rest : List Oper} {o : Oper} {a : Act} {Q : Exit → Act → World → Prop} (hgd : o.guard = none) (s x : Operand) (t : TypeId)
    (ho : o.op = .call { callee := .builtin .append, args := #[s, x], argTypes := #[t, t] })
    (base : Nat) (e : TypeId) (i : TypeInfo) (z : Value) (size bytes : Nat) (ht : P.underlying t = some (.slice e)) (hi : P.info? e = some i) (hz : i.zero = some z)
    (hsize : i.size = size) (hby : i.bytes = bytes) (hzs : z.cells.size = size) (hsz : 0 < size)
    (v : Value) (n : Nat) (xs : List Value) (hs : a.eval s = v) (hown : w.ownsRow base e size v n xs)
    (ad : Addr) (m c : Nat) (news : List Value) (hx : a.eval x = .slice (some ad) m c) (hl : news.length = m * size) (hnews : ∀ j u, news[j]? = some u → w.cell? (ad.add j) = some u) (h1 : ∀ u ∈ news, u.oneCell' = true)
    (h63 : n + m ≤ maxLen) (hbytes : (n + m) * bytes ≤ 140737488355328) (hbase : base ≤ w.heap.size)
    (h : ∀ v' w', w'.ownsRow base e size v' (n + m) (xs ++ news) → Below base w w' → wpList P ops Q rest (a.put o.dst v') w') : wpList P ops Q (o :: rest) a w :=
  wpList_append_own w hgd s x t ho base e i z size bytes ht hi hz hsize hby hzs hsz v n xs hs hown ad m c news hx hl hnews h1 h63 hbytes hbase fun v' w' h2 h3 _ => h v' w' h2 ((Below.refl _ _).grown h3 hbase (fun q hq => (hown.lt q hq).1))
theorem owns_form1' {w : World} {base n : Nat} {e : TypeId} {v : Value} {xs : List Value} (h : w.ownsRow base e 1 v n xs) (hn : 0 < n) : ∃ g cap, v = .slice (some ⟨g, 0, none⟩) n cap ∧ base ≤ g ∧ g < w.heap.size := by
  rcases h.2 with ⟨rfl, h0⟩ | ⟨g, cap, cur, rfl, hb, hg, -⟩
  · omega
  · exact ⟨g, cap, rfl, hb, lt_of_block hg⟩
/-- A row of numbers, of whatever kind, that append has put together. -/
theorem owns_rowE {w : World} {base : Nat} {e : TypeId} {v : Value} (l : List Int) (hl : l.length ≤ 140737488355328) (h : w.ownsRow base e 1 v l.length (l.map (Value.int .i64))) : ∃ a cap, v = .slice a l.length cap ∧ Row base w a l := by
  have h' := h
  obtain ⟨h1, h2⟩ := h'
  rcases h2 with ⟨rfl, h2⟩ | ⟨g, cap, cur, rfl, hb, hg, -⟩
  · have e : l = [] := List.eq_nil_of_length_eq_zero h2
    subst e
    exact ⟨none, 0, rfl, row_nil _ _ _⟩
  · refine ⟨_, cap, rfl, hl, Or.inr ⟨g, 0, rfl, hb, lt_of_block hg, fun i hi => ?_⟩⟩
    rw [Nat.zero_add, h.cellAt i (by omega)]
    simp [hi]
end Go.Proofs.Ytmjncdhahdpplaa
namespace Go.Proofs.Ytmjncdhahdpplaa
open Go.ChangeShapes Go.WideShapes Go.ChangeAt Go.RowKit
set_option linter.unusedVariables false
set_option maxRecDepth 100000
/-- Where a part of a slice begins. -/
def subA (a : Option Addr) (l c sz : Nat) : Option Addr := if c = l then a else a.map (·.add (l * sz))
theorem part_lh {P : Program} {t e : TypeId} {sz : Nat} (ht : P.underlying t = some (.slice e)) (hsz : (P.info? e).map (·.size) = some sz) (a : Option Addr) (n c l h : Nat) (kl kh : Int) (el : kl = (l : Int)) (eh : kh = (h : Int)) (h1 : l ≤ h) (h2 : h ≤ c) (W : World) :
    (Instr.sliceAt t (.slice a n c) (some (.int .i64 kl)) (some (.int .i64 kh)) none).run P W = .ok (.slice (subA a l c sz) (h - l) (c - l)) W := by
  subst el eh
  have he : P.elem t = e := by simp [Program.elem, ht]
  have ht' : P.underlying t = some (.slice (P.elem t)) := by rw [he]; exact ht
  obtain ⟨i, hi, hs⟩ := Option.map_eq_some_iff.1 hsz
  rw [run_sliceAt_slice W t _ _ _ _ ht', run_slice_lh W t a n c ht' .i64 .i64 l h (by omega) (by omega) (by omega), he]
  simp [sizeOf, typeInfo, hi, hs, sliced, subA]
theorem part_l {P : Program} {t e : TypeId} {sz : Nat} (ht : P.underlying t = some (.slice e)) (hsz : (P.info? e).map (·.size) = some sz) (a : Option Addr) (n c l : Nat) (kl : Int) (el : kl = (l : Int)) (h1 : l ≤ n) (W : World) :
    (Instr.sliceAt t (.slice a n c) (some (.int .i64 kl)) none none).run P W = .ok (.slice (subA a l c sz) (n - l) (c - l)) W := by
  subst el
  have he : P.elem t = e := by simp [Program.elem, ht]
  have ht' : P.underlying t = some (.slice (P.elem t)) := by rw [he]; exact ht
  obtain ⟨i, hi, hs⟩ := Option.map_eq_some_iff.1 hsz
  rw [run_sliceAt_slice W t _ _ _ _ ht', run_slice_l W t a n c ht' .i64 l (by omega) (by omega), he]
  simp [sizeOf, typeInfo, hi, hs, sliced, subA]
theorem part_h {P : Program} {t e : TypeId} {sz : Nat} (ht : P.underlying t = some (.slice e)) (hsz : (P.info? e).map (·.size) = some sz) (a : Option Addr) (n c h : Nat) (kh : Int) (eh : kh = (h : Int)) (h2 : h ≤ c) (W : World) :
    (Instr.sliceAt t (.slice a n c) none (some (.int .i64 kh)) none).run P W = .ok (.slice a h c) W := by
  subst eh
  have he : P.elem t = e := by simp [Program.elem, ht]
  have ht' : P.underlying t = some (.slice (P.elem t)) := by rw [he]; exact ht
  obtain ⟨i, hi, hs⟩ := Option.map_eq_some_iff.1 hsz
  rw [run_sliceAt_slice W t _ _ _ _ ht', run_slice_h W t a n c ht' .i64 h (by omega) (by omega), he]
  have : (if c = 0 then a else a.map (·.add 0)) = a := by
    split
    · rfl
    · cases a with
      | none => rfl
      | some p => cases p with | mk b o f => simp [Addr.add]
  simp [sizeOf, typeInfo, hi, hs, sliced, this]
/-- The part of a row of numbers. -/
theorem Row.part {lo : Nat} {w : World} {a : Option Addr} {zs : List Int} (R : Row lo w a zs) (l c m : Nat) (h1 : l + m ≤ zs.length) (h2 : zs.length ≤ c) : Row lo w (subA a l c 1) ((zs.drop l).take m) := by
  obtain ⟨r1, r2⟩ := R
  have hlen : ((zs.drop l).take m).length = m := by rw [List.length_take, List.length_drop]; omega
  refine ⟨by rw [hlen]; omega, ?_⟩
  by_cases hm : m = 0
  · left; exact List.eq_nil_of_length_eq_zero (by rw [hlen]; exact hm)
  · rcases r2 with rfl | ⟨b, off, rfl, hlo, hb, hc⟩
    · simp at h1; omega
    · refine Or.inr ⟨b, off + l, ?_, hlo, hb, fun i hi => ?_⟩
      · unfold subA; rw [if_neg (by omega)]; simp [Addr.add]
      · rw [hlen] at hi
        have := hc (l + i) (by omega)
        rw [show off + l + i = off + (l + i) by omega, this, List.getElem?_take_of_lt hi, List.getElem?_drop]
/-- The part of a row of cells. -/
theorem CellsIn.part {n lo : Nat} {w : World} {a : Option Addr} {cs : List Ce} (R : CellsIn n lo w cs a) (l c m : Nat) (h1 : l + m ≤ cs.length) (h2 : cs.length ≤ c) : CellsIn n lo w ((cs.drop l).take m) (subA a l c 3) := by
  have hlen : ((cs.drop l).take m).length = m := by rw [List.length_take, List.length_drop]; omega
  by_cases hm : m = 0
  · left; exact List.eq_nil_of_length_eq_zero (by rw [hlen]; exact hm)
  · rcases R with rfl | ⟨b, off, rfl, hlo, hb, hc⟩
    · simp at h1; omega
    · refine Or.inr ⟨b, off + l * 3, ?_, hlo, hb, fun i hi => ?_⟩
      · unfold subA; rw [if_neg (by omega)]; simp [Addr.add]
      · rw [hlen] at hi
        have := hc (l + i) (by omega)
        have e : cAt ((cs.drop l).take m) i = cAt cs (l + i) := by unfold cAt; rw [List.getElem?_take_of_lt hi, List.getElem?_drop]
        rw [e, show off + l * 3 + i * 3 = off + (l + i) * 3 by omega]
        exact this
theorem run_append_none_any {P : Program} {w : World} (base : Nat) (t ty e : TypeId) (i : TypeInfo) (size : Nat) (ht : P.underlying t = some (.slice e)) (hi : P.info? e = some i)
    (v : Value) (n c : Nat) (xs : List Value) (hown : w.ownsRow base e size v n xs) :
    (Builtin.append_ #[t, t] ty #[v, .slice none 0 c]).run P w = .ok v w := by
  rcases hown.2 with ⟨rfl, rfl⟩ | ⟨g, cap, cur, rfl, _, _, hnc, _⟩
  · simp [Builtin.append_, run_underlying ht, sizeOf, typeInfo, hi, Builtin.lenOf, Builtin.firstCells]
  · simp [Builtin.append_, run_underlying ht, sizeOf, typeInfo, hi, Builtin.lenOf, Builtin.firstCells, hnc, storeCells]
/-- Values that lie one behind the other from an address on, if there are any. -/
def Lies (w : World) (ad : Option Addr) (news : List Value) : Prop := (news = [] ∨ ∃ p, ad = some p ∧ p.block < w.heap.size ∧ ∀ j u, news[j]? = some u → w.cell? (p.add j) = some u) ∧ ∀ u ∈ news, u.oneCell' = true
theorem run_append_any {P : Program} {w : World} (base : Nat) (t ty e : TypeId) (i : TypeInfo) (z : Value) (size bytes : Nat) (ht : P.underlying t = some (.slice e)) (hi : P.info? e = some i) (hz : i.zero = some z)
    (hsize : i.size = size) (hby : i.bytes = bytes) (hzs : z.cells.size = size) (hsz : 0 < size)
    (v : Value) (n : Nat) (xs : List Value) (hown : w.ownsRow base e size v n xs)
    (ad : Option Addr) (m c : Nat) (news : List Value) (hl : news.length = m * size) (hnews : Lies w ad news)
    (h63 : n + m ≤ maxLen) (hbytes : (n + m) * bytes ≤ 140737488355328) (hbase : base ≤ w.heap.size) :
    ∃ v' w', (Builtin.append_ #[t, t] ty #[v, .slice ad m c]).run P w = .ok v' w' ∧ w'.ownsRow base e size v' (n + m) (xs ++ news) ∧ Below base w w' := by
  cases ad with
  | none =>
    have hn : news = [] := by
      rcases hnews.1 with h | ⟨p, hp, -⟩
      · exact h
      · cases hp
    subst hn
    have hm : m = 0 := by
      rcases Nat.eq_zero_or_pos m with h | h
      · exact h
      · have := Nat.mul_pos h hsz; simp at hl; omega
    subst hm
    exact ⟨v, w, run_append_none_any base t ty e i size ht hi v n c xs hown, by simpa using hown, Below.refl _ _⟩
  | some p =>
    have hc : ∀ j u, news[j]? = some u → w.cell? (p.add j) = some u := by
      rcases hnews.1 with h | ⟨q, hq, -, h⟩
      · subst h; intro j u hj; simp at hj
      · cases hq; exact h
    obtain ⟨v', w', hr, h2, h3, -⟩ := run_append_own (P := P) w base t ty e i z size bytes ht hi hz hsize hby hzs hsz v n xs hown p m c news hl hc hnews.2 h63 hbytes hbase
    exact ⟨v', w', hr, h2, (Below.refl _ _).grown h3 hbase (fun q hq => (hown.lt q hq).1)⟩
theorem wpList_append_any {P : Program} {w : World} {ops : Array Oper} {rest : List Oper} {o : Oper} {a : Act} {Q : Exit → Act → World → Prop} (hgd : o.guard = none) (s x : Operand) (t : TypeId)
    (ho : o.op = .call { callee := .builtin .append, args := #[s, x], argTypes := #[t, t] })
    (base : Nat) (e : TypeId) (i : TypeInfo) (z : Value) (size bytes : Nat) (ht : P.underlying t = some (.slice e)) (hi : P.info? e = some i) (hz : i.zero = some z)
    (hsize : i.size = size) (hby : i.bytes = bytes) (hzs : z.cells.size = size) (hsz : 0 < size)
    (v : Value) (n : Nat) (xs : List Value) (hs : a.eval s = v) (hown : w.ownsRow base e size v n xs)
    (ad : Option Addr) (m c : Nat) (news : List Value) (hx : a.eval x = .slice ad m c) (hl : news.length = m * size) (hnews : Lies w ad news)
    (h63 : n + m ≤ maxLen) (hbytes : (n + m) * bytes ≤ 140737488355328) (hbase : base ≤ w.heap.size)
    (h : ∀ v' w', w'.ownsRow base e size v' (n + m) (xs ++ news) → Below base w w' → wpList P ops Q rest (a.put o.dst v') w') : wpList P ops Q (o :: rest) a w := by
  obtain ⟨v', w', hr, h2, h3⟩ := run_append_any base t o.type e i z size bytes ht hi hz hsize hby hzs hsz v n xs hown ad m c news hl hnews h63 hbytes hbase
  exact wpList_append_run (by simp [Region.wanted, hgd]) s x t t ho _ _ hs hx v' w' hr (h v' w' h2 h3)
theorem step_append_any {P : Program} {w : World} {ops : Array Oper} {o : Oper} {a : Act} {K : Act → World → Prop} {Q : Exit → Act → World → Prop} {E : Prop} (hg : o.guard = none) (s x : Operand) (t : TypeId)
    (ho : o.op = .call { callee := .builtin .append, args := #[s, x], argTypes := #[t, t] })
    (base : Nat) (e : TypeId) (i : TypeInfo) (z : Value) (size bytes : Nat) (ht : P.underlying t = some (.slice e)) (hi : P.info? e = some i) (hz : i.zero = some z)
    (hsize : i.size = size) (hby : i.bytes = bytes) (hzs : z.cells.size = size) (hsz : 0 < size)
    (v : Value) (n : Nat) (xs : List Value) (hs : a.eval s = v) (hown : w.ownsRow base e size v n xs)
    (ad : Option Addr) (m c : Nat) (news : List Value) (hx : a.eval x = .slice ad m c) (hl : news.length = m * size) (hnews : Lies w ad news)
    (h63 : n + m ≤ maxLen) (hbytes : (n + m) * bytes ≤ 140737488355328) (hbase : base ≤ w.heap.size)
    (h : ∀ v' w', w'.ownsRow base e size v' (n + m) (xs ++ news) → Below base w w' → K (a.put o.dst v') w') : if Region.wanted o (yielded ops a.tmps) = true then Oper.wp P o a w K Q else E := by
  have hw : Region.wanted o (yielded ops a.tmps) = true := by simp [Region.wanted, hg]
  rw [if_pos hw]
  obtain ⟨v', w', hr, h2, h3⟩ := run_append_any base t o.type e i z size bytes ht hi hz hsize hby hzs hsz v n xs hown ad m c news hl hnews h63 hbytes hbase
  unfold Oper.wp execOp
  simp only [ho, resolve, invoke, builtin, Sem.run_bind, Sem.run_pure, Result.andThen_ok, List.map_toArray, List.map_cons, List.map_nil, hs, hx, hr]
  exact h v' w' h2 h3
theorem Row.lies {lo : Nat} {w : World} {a : Option Addr} {zs : List Int} (R : Row lo w a zs) : Lies w a (zs.map (Value.int .i64)) := by
  refine ⟨?_, fun u hu => by obtain ⟨y, -, rfl⟩ := List.mem_map.1 hu; rfl⟩
  rcases R.2 with rfl | ⟨b, off, rfl, -, hb, hc⟩
  · exact Or.inl rfl
  · refine Or.inr ⟨_, rfl, hb, fun j u hj => ?_⟩
    rw [List.getElem?_map] at hj
    obtain ⟨z, hz, rfl⟩ := Option.map_eq_some_iff.1 hj
    have hjl : j < zs.length := by
      rcases Nat.lt_or_ge j zs.length with h | h
      · exact h
      · rw [List.getElem?_eq_none h] at hz; cases hz
    rw [add_off, hc j hjl, hz]; rfl
/-- The three values of each cell. -/
def cellT (cs : List Ce) (ab : Nat → Option Addr) (cb : Nat → Nat) (i : Nat) : Value × Value × Value := (.int .i64 (cAt cs i).1, .int .i64 (cAt cs i).2.1, .slice (ab i) (cAt cs i).2.2.length (cb i))
theorem rowT_one (T : Nat → Value × Value × Value) (m : Nat) (h : ∀ i, i < m → (T i).1.oneCell' = true ∧ (T i).2.1.oneCell' = true ∧ (T i).2.2.oneCell' = true) : ∀ u ∈ rowT T m, u.oneCell' = true := by
  intro u hu
  unfold rowT at hu
  rw [List.mem_flatMap] at hu
  obtain ⟨i, hi, hu⟩ := hu
  have := h i (List.mem_range.1 hi)
  simp at hu
  rcases hu with rfl | rfl | rfl
  · exact this.1
  · exact this.2.1
  · exact this.2.2
/-- Rows that append has put together may be written. -/
theorem owns_softC {w : World} {base g cap n : Nat} {e : TypeId} {l : List Int} (hl : l.length = n) (h : w.ownsRow base e 1 (.slice (some ⟨g, 0, none⟩) n cap) n (l.map (Value.int .i64))) : SoftC w g l := by
  intro i hi
  refine ⟨?_, h.frozenAt i⟩
  rw [h.cellAt i (by omega), List.getElem?_map]
  unfold gI
  rw [List.getElem?_eq_getElem hi]; rfl
theorem Lies.next {w w' : World} {a : Option Addr} {l : List Value} (h : Lies w a l) (hb : Below w.heap.size w w') : Lies w' a l := by
  refine ⟨?_, h.2⟩
  rcases h.1 with h1 | ⟨p, hp, hl, h1⟩
  · exact Or.inl h1
  · refine Or.inr ⟨p, hp, Nat.lt_of_lt_of_le hl hb.size, fun j u hj => (hb.cell (p := p.add j) ?_).trans (h1 j u hj)⟩
    have e : (p.add j).block = p.block := by unfold Addr.add; split <;> rfl
    rw [e]; exact hl
/-- An array is given back: its memory is what w0 held, which came in, or new; it stays what it is as long as both are kept. -/
def GivesZ (n : Nat) (w0 : World) (x : Ar) (w : World) (e : Ending) (w' : World) : Prop := (∃ v, e = .returned v ∧ ∀ W, Below w0.heap.size w0 W → Keeps w.heap.size w' W → ArIn n 0 W x v) ∧ Below w.heap.size w w'
def Gives2Z (n : Nat) (w0 : World) (x : Ar) (E : Int) (w : World) (e : Ending) (w' : World) : Prop := (∃ v, e = .returned (.tuple #[v, .int .i64 E]) ∧ ∀ W, Below w0.heap.size w0 W → Keeps w.heap.size w' W → ArIn n 0 W x v) ∧ Below w.heap.size w w'
theorem gives2z_of {n : Nat} {x : Ar} {E : Int} {w0 w w' : World} {v : Value} {R : Ar × Int} (hR : R = (x, E)) (hx : ∀ W, Below w0.heap.size w0 W → Keeps w.heap.size w' W → ArIn n 0 W x v) (hb : Below w.heap.size w w') : Gives2Z n w0 R.1 R.2 w (.returned (.tuple #[v, .int .i64 E])) w' := by
  subst hR
  exact ⟨⟨_, rfl, hx⟩, hb⟩
theorem owns_keeps {e : TypeId} {size n base lo : Nat} {w w1 : World} {v : Value} {xs : List Value} (h : w.ownsRow base e size v n xs) (hk : Keeps lo w w1) (hl : lo ≤ base) : w1.ownsRow base e size v n xs := by
  obtain ⟨h1, h2⟩ := h
  refine ⟨h1, ?_⟩
  rcases h2 with ⟨rfl, h2⟩ | ⟨g, cap, cur, rfl, hbg, hg, hn, hm, hs, ht⟩
  · exact Or.inl ⟨rfl, h2⟩
  · exact Or.inr ⟨g, cap, cur, rfl, hbg, (hk.2 g (by omega) (lt_of_block hg)).trans hg, hn, hm, hs, ht⟩
theorem Keeps.trans {lo : Nat} {w w1 w2 : World} (h1 : Keeps lo w w1) (h2 : Keeps lo w1 w2) : Keeps lo w w2 := ⟨Nat.le_trans h1.1 h2.1, fun b hb1 hb2 => (h2.2 b hb1 (Nat.lt_of_lt_of_le hb2 h1.1)).trans (h1.2 b hb1 hb2)⟩
theorem Keeps.mono {lo lo' : Nat} {w w1 : World} (h : Keeps lo w w1) (hl : lo ≤ lo') : Keeps lo' w w1 := ⟨h.1, fun b h1 h2 => h.2 b (Nat.le_trans hl h1) h2⟩
theorem size36 : (Try.prog.info? 36).map (·.size) = some 3 := by kernel_rfl
theorem Lies.drew {w : World} {a : Option Addr} {l : List Value} (h : Lies w a l) : Lies w.drew a l := h
theorem caps_form {a1 a2 : Option Addr} {n1 c1 n2 c2 : Nat} (h : Caps (.agg #[.slice a1 n1 c1, .slice a2 n2 c2])) : n1 ≤ c1 ∧ n2 ≤ c2 := by
  obtain ⟨b1, m1, k1, b2, m2, k2, hv, h1, h2⟩ := h
  simp only [Value.agg.injEq, Array.mk.injEq, List.cons.injEq, Value.slice.injEq, and_true] at hv
  obtain ⟨⟨-, rfl, rfl⟩, -, rfl, rfl⟩ := hv
  exact ⟨h1, h2⟩
theorem Row.lt {lo : Nat} {w : World} {a : Option Addr} {l : List Int} (R : Row lo w a l) (h0 : 0 < l.length) : ∃ b off, a = some ⟨b, off, none⟩ ∧ b < w.heap.size := by
  obtain ⟨b, off, h, hb, -⟩ := row_at R h0
  exact ⟨b, off, h, hb⟩
theorem Lies.row_next {lo : Nat} {w w' : World} {a : Option Addr} {l : List Int} (R : Row lo w a l) (hb : Below w.heap.size w w') : Lies w' a (l.map (Value.int .i64)) := (R.next hb).lies
theorem owns_cap {w : World} {base n size : Nat} {e : TypeId} {v : Value} {xs : List Value} (h : w.ownsRow base e size v n xs) : ∃ a cap, v = .slice a n cap ∧ n ≤ cap := by
  rcases h.2 with ⟨rfl, h0⟩ | ⟨g, cap, cur, rfl, hb, hg, h1, -⟩
  · exact ⟨none, 0, by rw [h0], by omega⟩
  · exact ⟨_, _, rfl, h1⟩
theorem keeps_two (W : World) (s : Nat) (u v : Value) : Keeps (s + 2) W ((W.setCell ⟨s + 1, 0, none⟩ u).setCell ⟨s + 1, 1, none⟩ v) := ((Keeps.refl _ _).setCell (p := ⟨s + 1, 0, none⟩) (by show s + 1 < _; omega) u).setCell (p := ⟨s + 1, 1, none⟩) (by show s + 1 < _; omega) v
end Go.Proofs.Ytmjncdhahdpplaa
namespace Go.Proofs.Ytmjncdhahdpplaa
open Go.ChangeShapes Go.WideShapes Go.ChangeAt Go.RowKit
set_option linter.unusedVariables false
set_option maxRecDepth 100000
/-- A row of the call's own, which may be written. -/
def Own1 (w w' : World) (a : Option Addr) (cap : Nat) (l : List Int) : Prop := l.length ≤ cap ∧ (0 < l.length → ∃ g, a = some ⟨g, 0, none⟩ ∧ w.heap.size ≤ g ∧ g < w'.heap.size ∧ SoftC w' g l) ∧ Row w.heap.size w' a l
theorem own1_of {w w' : World} {v : Value} {l : List Int} (hl : l.length ≤ 16384) (h : w'.ownsRow w.heap.size 3 1 v l.length (l.map (Value.int .i64))) : ∃ a cap, v = .slice a l.length cap ∧ Own1 w w' a cap l := by
  obtain ⟨a, cap, rfl, hc⟩ := owns_cap h
  obtain ⟨a', cap', he, RR⟩ := owns_rowE l (by omega) h
  simp only [Value.slice.injEq] at he
  obtain ⟨rfl, -, rfl⟩ := he
  refine ⟨a, cap, rfl, hc, fun h0 => ?_, RR⟩
  obtain ⟨g, cp, hg, h1, h2⟩ := owns_form1' h h0
  simp only [Value.slice.injEq] at hg
  obtain ⟨rfl, -, rfl⟩ := hg
  exact ⟨g, rfl, h1, h2, owns_softC rfl h⟩
set_option maxHeartbeats 4000000 in
theorem clone_any {lo : Nat} (l : List Int) (a : Option Addr) (cap : Nat) (w : World) (R : Row lo w a l) (hl : l.length ≤ 16) :
    Calls Try.prog 106 #[.slice a l.length cap] w fun e w' => (∃ a' cap', e = .returned (.slice a' l.length cap') ∧ Own1 w w' a' cap' l) ∧ Below w.heap.size w w' := by
  obtain ⟨i3, hi3, hz30, hz31, hz32⟩ := infoI3
  cases a with
  | none =>
    have h0 : l = [] := by
      rcases R.2 with h | ⟨b, o, h, -⟩
      · exact h
      · cases h
    subst h0
    have HO : Hid (Own1 w w none 0 []) := ⟨by simp, fun h => by simp at h, row_nil _ _ _⟩
    clear R
    simp only [List.length_nil]
    have hq : ∀ W, (binOp .eql 22 (.slice none 0 cap) (.slice none 0 0)).run Try.prog W = .ok (.bool true) W := fun W => Go.Lib.run_eql_slice_nil W 22 3 none 0 cap 0 0 Try.underlying22
    go_enter Try.func106, Try.ntmps106
    go_wp2
    go_ret
    exact ⟨⟨_, _, rfl, HO.out⟩, Below.refl _ _⟩
  | some p =>
    obtain ⟨W2, e2⟩ : ∃ W2, w.alloc (.cells #[] 3) = W2 := ⟨_, rfl⟩
    have B2 : Below w.heap.size w W2 := by rw [← e2]; exact one_alloc _ _
    have HO : Hid (W2.ownsRow w.heap.size 3 1 (.slice (some ⟨w.heap.size, 0, none⟩) 0 0) 0 []) := by
      have := World.ownsRow_lit (base := w.heap.size) (e := 3) (size := 1) w #[] 0 (Nat.le_refl _) (by unfold maxLen; omega) rfl
      rw [e2] at this
      exact this
    have HL := hide (R.next B2).lies
    have hsl : (l.map (Value.int .i64)).length = l.length * 1 := by rw [List.length_map]; omega
    have HB2 := hide B2
    have HLL := hide hl
    obtain ⟨L, hL⟩ : ∃ L, l.length = L := ⟨_, rfl⟩
    rw [hL] at hl hsl ⊢
    have HLE := hide hL
    clear R B2 hL
    have hq : ∀ W, (binOp .eql 22 (.slice (some p) L cap) (.slice none 0 0)).run Try.prog W = .ok (.bool false) W := fun W => Go.Lib.run_eql_slice_nil W 22 3 (some p) L cap 0 0 Try.underlying22
    go_enter Try.func106, Try.ntmps106
    go_wp2_with (at_builtin; refine wpList_append_any rfl _ _ 22 rfl w.heap.size 3 i3 (.int .i64 0) 1 8 Try.underlying22 hi3 hz30 hz31 hz32 rfl (by decide) (.slice (some ⟨w.heap.size, 0, none⟩) 0 0) 0 [] rfl HO.out (some p) L cap (l.map (Value.int .i64)) rfl hsl HL.out ?c3 ?c4 HB2.out.size ?_)
    case c3 => unfold maxLen; omega
    case c4 => omega
    intro v' w3 hown hb
    have hown' : w3.ownsRow w.heap.size 3 1 v' l.length (l.map (Value.int .i64)) := by rw [HLE.out]; simpa using hown
    obtain ⟨a', cap', rfl, ho⟩ := own1_of (by rw [HLE.out]; omega) hown'
    rw [HLE.out]
    have HF := hide (And.intro ho (HB2.out.trans hb))
    clear hown hown' hb ho HL hsl
    go_wp2
    go_ret
    exact ⟨⟨_, _, rfl, HF.out.1⟩, HF.out.2⟩
set_option maxHeartbeats 4000000 in
theorem reshaped_any {lo : Nat} (l : List Int) (a : Option Addr) (cap k : Nat) (long : Int) (w : World) (R : Row lo w a l) (hl : l.length ≤ 8) (hk : k < l.length) :
    Calls Try.prog 95 #[.slice a l.length cap, .int .i64 (k : Int), .int .i64 long] w fun e w' => (∃ a' cap', e = .returned (.tuple #[.slice a' l.length cap', .int .i64 (sizeV (l.set k long)), .int .i64 (sizeE (l.set k long))]) ∧ Own1 w w' a' cap' (l.set k long)) ∧ Below w.heap.size w w' := by
  have C := clone_any l a cap w R (by omega)
  have HSL : Hid ((l.set k long).length = l.length) := by unfold Hid; simp
  obtain ⟨L, hL⟩ : ∃ L, l.length = L := ⟨_, rfl⟩
  have HLE := hide hL
  rw [hL] at hl hk C HSL ⊢
  clear R hL
  go_enter Try.func95, Try.ntmps95
  go_wp2_with fail
  refine C.mono ?_
  rintro e w1 ⟨⟨a', cap', rfl, ho⟩, hb1⟩
  obtain ⟨g, rfl, hg1, hg2, SC⟩ := ho.2.1 (by rw [HLE.out]; omega)
  obtain ⟨u0, u1⟩ := SC k (by rw [HLE.out]; exact hk)
  have SC2 := SC.set k (by rw [HLE.out]; exact hk) long
  obtain ⟨w2, e2⟩ : ∃ w2, w1.setCell ⟨g, k, none⟩ (.int .i64 long) = w2 := ⟨_, rfl⟩
  rw [e2] at SC2
  have hs2 : w2.heap.size = w1.heap.size := by rw [← e2]; simp
  have R2 : Row w.heap.size w2 (some ⟨g, 0, none⟩) (l.set k long) := SC2.row (by omega) hg1 (by rw [HSL.out]; omega)
  have C2 := size_any (l.set k long) (some ⟨g, 0, none⟩) cap' w2 R2
  rw [HSL.out] at C2
  have HF : Hid (Own1 w w2 (some ⟨g, 0, none⟩) cap' (l.set k long) ∧ Below w.heap.size w w2) := ⟨⟨by rw [HSL.out, ← HLE.out]; exact ho.1, fun _ => ⟨g, rfl, hg1, by omega, SC2⟩, R2⟩, by rw [← e2]; exact hb1.setCell (p := ⟨g, k, none⟩) hg1 _⟩
  generalize gI l k = z0 at *
  clear C ho hb1 SC SC2 R2 hs2 hg1 hg2
  go_wp2_with fail
  clear e2 u0 u1
  refine C2.mono ?_
  rintro e w3 ⟨rfl, rfl⟩
  clear C2
  obtain ⟨SV, hSV⟩ : ∃ z, sizeV (l.set k long) = z := ⟨_, rfl⟩
  obtain ⟨SE, hSE⟩ : ∃ z, sizeE (l.set k long) = z := ⟨_, rfl⟩
  have HSV := hide (And.intro hSV hSE)
  rw [hSV, hSE]
  clear hSV hSE
  go_wp2
  exact bodyPost_ret (v := .tuple #[.slice (some ⟨g, 0, none⟩) L cap', .int .i64 SV, .int .i64 SE]) (by simp [results, Try.results95, go_sem]) rfl ⟨⟨_, _, by rw [HSV.out.1, HSV.out.2], HF.out.1⟩, HF.out.2⟩
/-- As GivesZ; the answer's slices are no longer than their rows. -/
def GivesK (n : Nat) (w0 : World) (x : Ar) (w : World) (e : Ending) (w' : World) : Prop := (∃ v, e = .returned v ∧ Caps v ∧ ∀ W, Below w0.heap.size w0 W → Keeps w.heap.size w' W → ArIn n 0 W x v) ∧ Below w.heap.size w w'
def lstA (x : Ar) : Ar := if x.shape.length = 0 then .mk [1] x.cells else x
def numR (x : Ar) : Int × Int := if 0 < x.shape.length then (0, 6) else if ¬ (cAt x.cells 0).1 = 0 then (0, 5) else ((cAt x.cells 0).2.1, 0)
def fillR (x : Ar) : Int × Int × Int := if 0 < x.cells.length then (if (cAt x.cells 0).1 = 1 then (1, 32, 0) else if (cAt x.cells 0).1 = 2 then (0, 0, 5) else (0, 0, 0)) else (0, 0, 0)
set_option maxHeartbeats 4000000 in
theorem number_any {n lo : Nat} {x : Ar} {va : Value} {w : World} (hx : ArIn (n + 1) lo w x va) (hchk : chkA 8 x = 0) : Calls Try.prog 94 #[va] w fun e w' => e = .returned (.tuple #[.int .i64 (numR x).1, .int .i64 (numR x).2]) ∧ Below w.heap.size w w' := by
  obtain ⟨a1, c1, a2, c2, rfl, R, hc⟩ := hx.form
  have hb0 := one_alloc w (.cells #[.slice a1 x.shape.length c1, .slice a2 x.cells.length c2] 25)
  have q0 := cell_new0 w #[.slice a1 x.shape.length c1, .slice a2 x.cells.length c2] 25 0 _ rfl
  have q1 := cell_new0 w #[.slice a1 x.shape.length c1, .slice a2 x.cells.length c2] 25 1 _ rfl
  have hl := R.1
  by_cases h0 : 0 < x.shape.length
  · have HE : Hid (numR x = (0, 6)) := by unfold Hid numR; rw [if_pos h0]
    clear R hc hx hchk
    have h1 : (0 : Int) < (x.shape.length : Int) := by omega
    generalize x.shape.length = SA at *
    generalize x.cells.length = CA at *
    go_enter Try.func94, Try.ntmps94
    go_wp2
    exact bodyPost_ret (v := .tuple #[.int .i64 0, .int .i64 6]) (by simp [results, Try.results94, go_sem]) rfl ⟨by rw [HE.out], one_alloc _ _⟩
  · obtain ⟨-, hone⟩ := atom_one hchk (by omega)
    obtain ⟨ab, cb, hcf⟩ := cells_fn hc
    obtain ⟨b, off, rfl, -, hb, hcells⟩ := hcf (by omega)
    obtain ⟨g0, g1, g2, -⟩ := hcells 0 (by omega)
    simp only [Nat.zero_mul, Nat.add_zero] at g0 g1 g2
    have r0 := (hb0.cell (p := ⟨b, off, none⟩) hb).trans g0
    have r1 := (hb0.cell (p := ⟨b, off + 1, none⟩) hb).trans g1
    have HE : Hid (numR x = if ¬ (cAt x.cells 0).1 = 0 then (0, 5) else ((cAt x.cells 0).2.1, 0)) := by unfold Hid numR; rw [if_neg h0]
    have hs0 : x.shape.length = 0 := by omega
    clear hcells hcf hc R hx hchk g0 g1 g2 hb0
    rw [hs0, hone] at q0 q1 r0 r1 ⊢
    generalize (cAt x.cells 0).1 = ck at *
    generalize (cAt x.cells 0).2.1 = cN at *
    clear hs0 hone h0 hl
    by_cases hk : ck = 0
    · have HE5 : Hid (numR x = (cN, 0)) := by unfold Hid; rw [HE.out, if_neg (by simpa using hk)]
      subst hk
      clear HE
      go_enter Try.func94, Try.ntmps94
      go_wp2
      exact bodyPost_ret (v := .tuple #[.int .i64 cN, .int .i64 0]) (by simp [results, Try.results94, go_sem]) rfl ⟨by rw [HE5.out], one_alloc _ _⟩
    · have HE5 : Hid (numR x = (0, 5)) := by unfold Hid; rw [HE.out, if_pos hk]
      have hkb : (ck == 0) = false := beq_eq_false_iff_ne.2 hk
      clear HE
      go_enter Try.func94, Try.ntmps94
      go_wp2
      exact bodyPost_ret (v := .tuple #[.int .i64 0, .int .i64 5]) (by simp [results, Try.results94, go_sem]) rfl ⟨by rw [HE5.out], one_alloc _ _⟩
end Go.Proofs.Ytmjncdhahdpplaa
namespace Go.Proofs.Ytmjncdhahdpplaa
open Go.ChangeShapes Go.WideShapes Go.ChangeAt Go.RowKit
set_option linter.unusedVariables false
set_option maxRecDepth 100000
/-- A row with cells laid over it. -/
def spF (f : Nat → Value) (off : Nat) (cs : List Value) (i : Nat) : Value := if off ≤ i ∧ i < off + cs.length then cs[i - off]?.getD undef else f i
theorem run_copy_big {P : Program} (w : World) (dT sT ty elem : TypeId) (size g o dLen dCap : Nat) (a : Addr) (sLen sCap : Nat) (cur : Array Value) (t : TypeId) (cs : List Value)
    (hu : P.underlying dT = some (.slice elem)) (hs : (P.info? elem).map (·.size) = some size)
    (hg : w.heap[g]? = some (.cells cur t (0, 0))) (hn : cs.length = Nat.min sLen dLen * size)
    (hsrc : ∀ j v, cs[j]? = some v → w.cell? (a.add j) = some v) (hfit : o + cs.length ≤ cur.size) (h1 : ∀ v ∈ cs, v.oneCell' = true) :
    (Builtin.copy_ #[dT, sT] ty #[.slice (some ⟨g, o, none⟩) dLen dCap, .slice (some a) sLen sCap]).run P w =
      .ok (goInt (Nat.min sLen dLen)) (w.setRow g (cur.toList.take o ++ cs ++ cur.toList.drop (o + cs.length)).toArray) := by
  have hl := run_loadCells_list (P := P) w a cs hsrc
  have hst := run_storeCells_at P g o t cs 0 cur w hg (by simpa using hfit) h1
  cases hq : P.info? elem with
  | none => simp [hq] at hs
  | some i =>
    have hi : i.size = size := by simpa [hq] using hs
    rw [hn] at hl
    simp [Builtin.copy_, run_underlying hu, Builtin.lenOf, Builtin.firstCells, sizeOf, typeInfo, hq, hi, hl, hst]
theorem run_copy_zero {P : Program} (w : World) (dT sT ty elem : TypeId) (size : Nat) (d a : Option Addr) (dLen dCap sLen sCap : Nat) (hu : P.underlying dT = some (.slice elem)) (hs : (P.info? elem).map (·.size) = some size) (hn : Nat.min sLen dLen = 0) :
    (Builtin.copy_ #[dT, sT] ty #[.slice d dLen dCap, .slice a sLen sCap]).run P w = .ok (goInt 0) w := by
  cases hq : P.info? elem with
  | none => simp [hq] at hs
  | some i =>
    cases d <;> cases a <;> simp [Builtin.copy_, run_underlying hu, Builtin.lenOf, Builtin.firstCells, sizeOf, typeInfo, hq, hn, storeCells, loadCells, loadCellsFrom]
theorem rowIs_setRow {w : World} {g n : Nat} {t : TypeId} {f : Nat → Value} {cur : Array Value} (hg : w.heap[g]? = some (.cells cur t (0, 0))) (hc : cur.size = n) (hf : ∀ i, i < n → cur[i]? = some (f i)) (off : Nat) (cs : List Value) (hfit : off + cs.length ≤ n) :
    (w.setRow g (cur.toList.take off ++ cs ++ cur.toList.drop (off + cs.length)).toArray).rowIs g t n (spF f off cs) := by
  refine ⟨_, setRow_heap w g _ _ t _ hg, ?_, fun i hi => ?_⟩
  · simp; omega
  · have hi' := hf i hi
    unfold spF
    simp only [List.getElem?_toArray]
    have hl : cur.toList.length = n := by simpa using hc
    have hcur : cur.toList[i]? = some (f i) := by simpa using hi'
    by_cases h1 : i < off
    · rw [if_neg (by omega), List.append_assoc, List.getElem?_append_left (by rw [List.length_take]; omega), List.getElem?_take_of_lt h1, hcur]
    · by_cases h2 : i < off + cs.length
      · rw [if_pos ⟨by omega, h2⟩, List.append_assoc, List.getElem?_append_right (by rw [List.length_take]; omega), List.length_take, List.getElem?_append_left (by omega)]
        have e : min off cur.toList.length = off := by omega
        rw [e, List.getElem?_eq_getElem (by omega)]; rfl
      · rw [if_neg (by omega), List.getElem?_append_right (by rw [List.length_append, List.length_take]; omega), List.length_append, List.length_take, List.getElem?_drop]
        have e : off + cs.length + (i - (min off cur.toList.length + cs.length)) = i := by omega
        rw [e, hcur]
theorem two_setRow (w : World) (g : Nat) (c : Array Value) : Two w g g (w.setRow g c) := ⟨⟨rfl, rfl, rfl, by simp [World.setRow], fun k hk => by omega⟩, by simp [World.setRow], fun k h1 _ => setRow_other w g k c h1⟩
theorem run_copy_rowIs {P : Program} {w : World} (dT sT ty elem : TypeId) (size : Nat) (hu : P.underlying dT = some (.slice elem)) (hsz : (P.info? elem).map (·.size) = some size)
    (dp sp : Option Addr) (dLen dCap sLen sCap m : Nat) (g off n : Nat) (t : TypeId) (f : Nat → Value) (hr : w.rowIs g t n f) (cs : List Value) (hm : m = Nat.min sLen dLen) (hn : cs.length = m * size)
    (hpos : 0 < m → dp = some ⟨g, off, none⟩) (hsrc : Lies w sp cs) (hs0 : 0 < size) (hfit : off + cs.length ≤ n) :
    ∃ w', (Builtin.copy_ #[dT, sT] ty #[.slice dp dLen dCap, .slice sp sLen sCap]).run P w = .ok (goInt m) w' ∧ w'.rowIs g t n (spF f off cs) ∧ Two w g g w' := by
  by_cases h0 : m = 0
  · subst h0
    have hcs : cs = [] := List.eq_nil_of_length_eq_zero (by omega)
    subst hcs
    refine ⟨w, run_copy_zero w dT sT ty elem size dp sp dLen dCap sLen sCap hu hsz hm.symm, ?_, Two.refl _ _ _⟩
    have : spF f off [] = f := by funext i; unfold spF; rw [if_neg (by simp)]
    rw [this]; exact hr
  · have hd := hpos (by omega)
    subst hd
    obtain ⟨cur, h1, h2, h3⟩ := hr
    rcases hsrc.1 with he | ⟨p, rfl, -, hc⟩
    · have := Nat.mul_pos (show 0 < m by omega) hs0
      rw [he] at hn
      simp at hn
      omega
    · refine ⟨_, ?_, rowIs_setRow h1 h2 h3 off cs hfit, two_setRow _ _ _⟩
      rw [hm]
      exact run_copy_big w dT sT ty elem size g off dLen dCap p sLen sCap cur t cs hu hsz h1 (by rw [← hm]; exact hn) hc (by omega) hsrc.2
theorem step_copy_rowIs {P : Program} {w : World} {ops : Array Oper} {o : Oper} {a : Act} {K : Act → World → Prop} {Q : Exit → Act → World → Prop} {E : Prop} (hg : o.guard = none) (d s : Operand) (dT sT : TypeId)
    (ho : o.op = .call { callee := .builtin .copy, args := #[d, s], argTypes := #[dT, sT] }) (elem : TypeId) (size : Nat) (hu : P.underlying dT = some (.slice elem)) (hsz : (P.info? elem).map (·.size) = some size)
    (dp sp : Option Addr) (dLen dCap sLen sCap m : Nat) (hd : a.eval d = .slice dp dLen dCap) (hs : a.eval s = .slice sp sLen sCap) (g off n : Nat) (t : TypeId) (f : Nat → Value) (hr : w.rowIs g t n f) (cs : List Value) (hm : m = Nat.min sLen dLen) (hn : cs.length = m * size)
    (hpos : 0 < m → dp = some ⟨g, off, none⟩) (hsrc : Lies w sp cs) (hs0 : 0 < size) (hfit : off + cs.length ≤ n)
    (h : ∀ w', w'.rowIs g t n (spF f off cs) → Two w g g w' → K (a.put o.dst (goInt m)) w') : if Region.wanted o (yielded ops a.tmps) = true then Oper.wp P o a w K Q else E := by
  have hw : Region.wanted o (yielded ops a.tmps) = true := by simp [Region.wanted, hg]
  rw [if_pos hw]
  obtain ⟨w', hrun, h2, h3⟩ := run_copy_rowIs (P := P) dT sT o.type elem size hu hsz dp sp dLen dCap sLen sCap m g off n t f hr cs hm hn hpos hsrc hs0 hfit
  unfold Oper.wp execOp
  simp only [ho, resolve, invoke, builtin, Sem.run_bind, Sem.run_pure, Result.andThen_ok, List.map_toArray, List.map_cons, List.map_nil, hd, hs, hrun]
  exact h w' h2 h3
theorem wpList_copy_rowIs {P : Program} {w : World} {ops : Array Oper} {rest : List Oper} {o : Oper} {a : Act} {Q : Exit → Act → World → Prop} (hgd : o.guard = none) (d s : Operand) (dT sT : TypeId)
    (ho : o.op = .call { callee := .builtin .copy, args := #[d, s], argTypes := #[dT, sT] }) (elem : TypeId) (size : Nat) (hu : P.underlying dT = some (.slice elem)) (hsz : (P.info? elem).map (·.size) = some size)
    (dp sp : Option Addr) (dLen dCap sLen sCap m : Nat) (hd : a.eval d = .slice dp dLen dCap) (hs : a.eval s = .slice sp sLen sCap) (g off n : Nat) (t : TypeId) (f : Nat → Value) (hr : w.rowIs g t n f) (cs : List Value) (hm : m = Nat.min sLen dLen) (hn : cs.length = m * size)
    (hpos : 0 < m → dp = some ⟨g, off, none⟩) (hsrc : Lies w sp cs) (hs0 : 0 < size) (hfit : off + cs.length ≤ n)
    (h : ∀ w', w'.rowIs g t n (spF f off cs) → Two w g g w' → wpList P ops Q rest (a.put o.dst (goInt m)) w') : wpList P ops Q (o :: rest) a w := by
  refine BigFrame.wpList_want (by simp [Region.wanted, hgd]) fun K hK => ?_
  obtain ⟨w', hrun, h2, h3⟩ := run_copy_rowIs (P := P) dT sT o.type elem size hu hsz dp sp dLen dCap sLen sCap m g off n t f hr cs hm hn hpos hsrc hs0 hfit
  unfold Oper.wp
  simp only [execOp, ho, resolve, invoke, builtin, Sem.run_bind, Sem.run_pure, Result.andThen_ok, List.map_toArray, List.map_cons, List.map_nil, hd, hs, hrun]
  exact hK _ _ (h w' h2 h3)
/-- Cells laid behind the first t ones. -/
theorem spF_gF (T : Nat → Value × Value × Value) (t m N : Nat) (i : Nat) (hi : i < N * 3) : spF (gF T t) (t * 3) (rowT (fun q => T (t + q)) m) i = gF T (t + m) i := by
  unfold spF
  rw [rowT_len]
  by_cases h : t * 3 ≤ i ∧ i < t * 3 + m * 3
  · rw [if_pos h]
    obtain ⟨r0, r1, r2⟩ := rowT_at (fun q => T (t + q)) m ((i - t * 3) / 3) (by omega)
    obtain ⟨s0, s1, s2⟩ := gF_at T (t + m) (t + (i - t * 3) / 3) (by omega)
    have hm : i - t * 3 = (i - t * 3) / 3 * 3 ∨ i - t * 3 = (i - t * 3) / 3 * 3 + 1 ∨ i - t * 3 = (i - t * 3) / 3 * 3 + 2 := by omega
    rcases hm with e | e | e
    · rw [← e] at r0; rw [r0, show i = (t + (i - t * 3) / 3) * 3 by omega, s0]; simp
      congr 2; omega
    · rw [← e] at r1; rw [r1, show i = (t + (i - t * 3) / 3) * 3 + 1 by omega, s1]; simp
      congr 3; omega
    · rw [← e] at r2; rw [r2, show i = (t + (i - t * 3) / 3) * 3 + 2 by omega, s2]; simp
      congr 3; omega
  · rw [if_neg h]
    unfold gF
    by_cases h1 : i < t * 3
    · have h2 : i < (t + m) * 3 := by omega
      simp only [h1, h2, if_true]
    · have h2 : ¬ i < (t + m) * 3 := by omega
      simp only [h1, h2, if_false]
/-- Where the cell at place p comes from, along an axis of D places, each of w cells, of which L are laid. -/
def alongQ (D w L : Nat) (at' : Nat → Nat) (p : Nat) : Nat := p / w / L * (D * w) + at' (p / w % L) * w + p % w
theorem alongQ_at (D w L : Nat) (at' : Nat → Nat) (r j q : Nat) (hj : j < L) (hq : q < w) : alongQ D w L at' ((r * L + j) * w + q) = r * (D * w) + at' j * w + q := by
  unfold alongQ
  have h1 : ((r * L + j) * w + q) / w = r * L + j := by
    rw [Nat.mul_comm, Nat.mul_add_div (by omega), Nat.div_eq_of_lt hq]; omega
  have h2 : ((r * L + j) * w + q) % w = q := by rw [Nat.mul_comm, Nat.mul_add_mod, Nat.mod_eq_of_lt hq]
  have h3 : (r * L + j) / L = r := by rw [Nat.mul_comm, Nat.mul_add_div (by omega), Nat.div_eq_of_lt hj]; omega
  have h4 : (r * L + j) % L = j := by rw [Nat.mul_comm, Nat.mul_add_mod, Nat.mod_eq_of_lt hj]
  rw [h1, h2, h3, h4]
end Go.Proofs.Ytmjncdhahdpplaa
namespace Go.Proofs.Ytmjncdhahdpplaa
open Go.ChangeShapes Go.WideShapes Go.ChangeAt Go.RowKit
set_option linter.unusedVariables false
set_option maxRecDepth 100000
def alongA (x : Ar) (k : Nat) (l : List Int) : Ar := .mk (x.shape.set k (l.length : Int)) (mkCs (sizeV (x.shape.set k (l.length : Int))).toNat fun p => cAt x.cells (alongQ (gI x.shape k).toNat (sizeV (x.shape.drop (k + 1))).toNat l.length (fun i => (gI l i).toNat) p))
theorem prodL_set (s : List Int) (k : Nat) (hk : k < s.length) (v : Int) : prodL (s.set k v) = prodL (s.take k) * (v * prodL (s.drop (k + 1))) := by
  rw [List.set_eq_take_append_cons_drop, if_pos hk, prodL_append]
  rfl
theorem set_gI (s : List Int) (k : Nat) (hk : k < s.length) : s.set k (gI s k) = s := gI_ext (by simp) fun i hi => by
  rw [gI_set _ _ _ _ hk]
  by_cases h : i = k
  · rw [if_pos h, h]
  · rw [if_neg h]
theorem mem_set_other {s : List Int} {k : Nat} {v z : Int} (hz : z ∈ s) (hk : k < s.length) : z ∈ s.set k v ∨ z = gI s k := by
  obtain ⟨i, hi, e⟩ := mem_getD hz
  by_cases h : i = k
  · right; rw [← e, h]; rfl
  · left
    have : gI (s.set k v) i = z := by rw [gI_set _ _ _ _ hk, if_neg h]; exact e
    rw [← this]
    exact getD_mem (by simpa using hi)
theorem mem_set_self' {s : List Int} {k : Nat} (hk : k < s.length) (v : Int) : v ∈ s.set k v := by
  have h := getD_mem (l := s.set k v) (k := k) (by simpa using hk)
  have e : gI (s.set k v) k = v := by rw [gI_set _ _ _ _ hk, if_pos rfl]
  rw [← e]
  unfold gI at *
  rw [e]
  rw [e] at h
  exact h
/-- What is known where there is a cell at all. -/
theorem along_facts {r : Nat} {x : Ar} (h : chkA r x = 0) {k L : Nat} (hk : k < x.shape.length) (hs : sizeE (x.shape.set k (L : Int)) = 0) (hD : 0 < L → 0 < gI x.shape k) (hN : 0 < sizeV (x.shape.set k (L : Int))) :
    ∃ A D w : Nat, gI x.shape k = (D : Int) ∧ sizeV (x.shape.drop (k + 1)) = (w : Int) ∧ 0 < w ∧ 0 < L ∧ sizeV (x.shape.set k (L : Int)) = ((A * (L * w) : Nat) : Int) ∧ x.cells.length = A * (D * w) ∧ w ≤ 16384 ∧ L ≤ 16384 ∧ D ≤ 16384 := by
  obtain ⟨l8, -, hc⟩ := fine_cases hs
  rcases hc with ⟨-, h0⟩ | ⟨hpos, hle, hv⟩
  · omega
  have hL : 0 < L := by
    have := hpos (L : Int) (mem_set_self' hk _)
    omega
  have hD0 := hD hL
  have hpx : ∀ z ∈ x.shape, 0 < z := fun z hz => by
    rcases mem_set_other (v := (L : Int)) hz hk with h1 | h1
    · exact hpos z h1
    · rw [h1]; exact hD0
  obtain ⟨h1, h2, h3, -⟩ := (chkA_iff r x).1 h
  have hsx := sizeV_prod h1
  have e1 := prodL_set x.shape k hk (L : Int)
  have e2 := prodL_set x.shape k hk (gI x.shape k)
  rw [set_gI _ _ hk] at e2
  have pa := prodL_pos (l := x.shape.take k) fun z hz => hpx z (List.mem_of_mem_take hz)
  have pw := prodL_pos (l := x.shape.drop (k + 1)) fun z hz => hpx z (List.mem_of_mem_drop hz)
  obtain ⟨A, hA⟩ : ∃ A : Nat, prodL (x.shape.take k) = (A : Int) := ⟨(prodL (x.shape.take k)).toNat, by omega⟩
  obtain ⟨w, hw⟩ : ∃ w : Nat, prodL (x.shape.drop (k + 1)) = (w : Int) := ⟨(prodL (x.shape.drop (k + 1))).toNat, by omega⟩
  obtain ⟨D, hDn⟩ : ∃ D : Nat, gI x.shape k = (D : Int) := ⟨(gI x.shape k).toNat, by omega⟩
  rw [hA, hw] at e1 e2
  rw [hDn] at e2
  have hx16 : prodL x.shape ≤ 16384 := by
    obtain ⟨-, -, hc⟩ := fine_cases h1
    rcases hc with ⟨⟨z, hz, hz0⟩, -⟩ | ⟨-, h5, -⟩
    · have := hpx z hz; omega
    · exact h5
  have hwle : (w : Int) ≤ prodL x.shape := by
    rw [e2]
    have a1 : 1 ≤ (A : Int) * (D : Int) := Int.le_trans (by omega) (Int.mul_le_mul (show (1 : Int) ≤ A by omega) (show (1 : Int) ≤ D by omega) (by omega) (by omega))
    have := Int.mul_le_mul_of_nonneg_right a1 (show (0 : Int) ≤ w by omega)
    rw [Int.one_mul, Int.mul_assoc] at this
    exact this
  have hfd := fine_mk (l := x.shape.drop (k + 1)) (by rw [List.length_drop]; have := (fine_cases h1).1; omega) (fun z hz => by have := hpx z (List.mem_of_mem_drop hz); omega) (Or.inr (by rw [hw]; omega))
  have hDle : (D : Int) ≤ 16384 := by
    rcases Int.lt_or_le 16384 (D : Int) with h' | h'
    · exact absurd ⟨gI x.shape k, getD_mem hk, by rw [hDn]; exact h'⟩ h3
    · exact h'
  have hLle : (L : Int) ≤ prodL (x.shape.set k (L : Int)) := prod_of_mem hpos (mem_set_self' hk _)
  refine ⟨A, D, w, hDn, by rw [hfd.2, hw], by omega, hL, ?_, ?_, by omega, by omega, by omega⟩
  · rw [hv, e1]; simp
  · have : (x.cells.length : Int) = ((A * (D * w) : Nat) : Int) := by rw [← h2, hsx, e2]; simp
    omega
theorem rowT_congr {T U : Nat → Value × Value × Value} {m : Nat} (h : ∀ q, q < m → T q = U q) : rowT T m = rowT U m := by
  unfold rowT
  have : ∀ l : List Nat, (∀ q ∈ l, q < m) → l.flatMap (fun i => [(T i).1, (T i).2.1, (T i).2.2]) = l.flatMap (fun i => [(U i).1, (U i).2.1, (U i).2.2]) := by
    intro l hl
    induction l with
    | nil => rfl
    | cons q l ih =>
      simp only [List.flatMap_cons]
      rw [h q (hl q (by simp)), ih (fun q' hq => hl q' (by simp [hq]))]
  exact this _ (fun q hq => List.mem_range.1 hq)
/-- A part of an array's cells as values that lie one behind the other. -/
theorem lies_part {w : World} {cs : List Ce} {ab : Nat → Option Addr} {cb : Nat → Nat} {b off : Nat} (hb : b < w.heap.size) (hc : ∀ i, i < cs.length → w.cell? ⟨b, off + i * 3, none⟩ = some (cellT cs ab cb i).1 ∧ w.cell? ⟨b, off + i * 3 + 1, none⟩ = some (cellT cs ab cb i).2.1 ∧ w.cell? ⟨b, off + i * 3 + 2, none⟩ = some (cellT cs ab cb i).2.2)
    (fr m c : Nat) (hm : fr + m ≤ cs.length) (hcap : cs.length ≤ c) (h0 : 0 < m) : Lies w (subA (some ⟨b, off, none⟩) fr c 3) (rowT (fun q => cellT cs ab cb (fr + q)) m) := by
  refine ⟨Or.inr ⟨⟨b, off + fr * 3, none⟩, ?_, hb, fun j u hj => ?_⟩, rowT_one _ _ fun i _ => ⟨rfl, rfl, rfl⟩⟩
  · unfold subA; rw [if_neg (by omega)]; simp [Addr.add]
  · have hjl : j < m * 3 := by
      rcases Nat.lt_or_ge j (m * 3) with h | h
      · exact h
      · rw [List.getElem?_eq_none (by rw [rowT_len]; exact h)] at hj; cases hj
    obtain ⟨t0, t1, t2⟩ := rowT_at (fun q => cellT cs ab cb (fr + q)) m (j / 3) (by omega)
    obtain ⟨g0, g1, g2⟩ := hc (fr + j / 3) (by omega)
    rw [add_off]
    have hm : j = j / 3 * 3 ∨ j = j / 3 * 3 + 1 ∨ j = j / 3 * 3 + 2 := by omega
    rcases hm with e | e | e
    · rw [← e] at t0; rw [t0] at hj; cases hj
      rw [show off + fr * 3 + j = off + (fr + j / 3) * 3 by omega]; exact g0
    · rw [← e] at t1; rw [t1] at hj; cases hj
      rw [show off + fr * 3 + j = off + (fr + j / 3) * 3 + 1 by omega]; exact g1
    · rw [← e] at t2; rw [t2] at hj; cases hj
      rw [show off + fr * 3 + j = off + (fr + j / 3) * 3 + 2 by omega]; exact g2
set_option maxHeartbeats 8000000 in
theorem along_row {n lo lo' lo2 k : Nat} {x : Ar} {a1 a2 : Option Addr} {c1 c2 : Nat} {w0 w : World} (R : Row lo2 w a1 x.shape) (hc : CellsIn n lo w0 x.cells a2) (hb0 : Below w0.heap.size w0 w) (hcap : Caps (.agg #[.slice a1 x.shape.length c1, .slice a2 x.cells.length c2])) (hchk : chkA 8 x = 0) (hk : k < x.shape.length) (l : List Int) (aT : Option Addr) (cT : Nat) (RT : Row lo' w aT l)
    (hin : ∀ i, i < l.length → 0 ≤ gI l i ∧ gI l i < gI x.shape k) (hs : sizeE (x.shape.set k (l.length : Int)) = 0) (hl16 : l.length ≤ 16384) :
    Calls Try.prog 98 #[.agg #[.slice a1 x.shape.length c1, .slice a2 x.cells.length c2], .int .i64 (k : Int), .slice aT l.length cT] w fun e w' => GivesK (n + 1) w0 (alongA x k l) w e w' := by
  obtain ⟨hc1, hc2⟩ := caps_form hcap
  obtain ⟨l8, c16⟩ := chk_len hchk
  have HAF := hide (fun h => along_facts hchk hk hs (fun h0 => by have := hin 0 h0; omega) h)
  obtain ⟨N, hN⟩ : ∃ N : Nat, sizeV (x.shape.set k (l.length : Int)) = (N : Int) := ⟨(sizeV (x.shape.set k (l.length : Int))).toNat, by have := (sizeV_le hs).1; omega⟩
  have hN16 : N ≤ 16384 := by have := (sizeV_le hs).2; omega
  obtain ⟨ab, cb, hcf⟩ := cells_fn hc
  have I := in2_new w (.slice a1 x.shape.length c1) (.slice a2 x.cells.length c2)
  obtain ⟨W2, e2⟩ : ∃ W2, (w.alloc (.cells #[.slice a1 x.shape.length c1, .slice a2 x.cells.length c2] 25)).alloc (.cells #[.slice none 0 0, .slice none 0 0] 25) = W2 := ⟨_, rfl⟩
  rw [e2] at I
  have z2 : W2.heap.size = w.heap.size + 2 := by rw [← e2]; simp
  have q0 := I.q0
  have C1 := reshaped_any x.shape a1 c1 k (l.length : Int) W2 (R.next I.bel) l8 hk
  rw [hN, hs] at C1
  have hp1 : ∀ W, (Instr.sliceAt 22 (.slice a1 x.shape.length c1) (some (.int .i64 ((k : Int) + 1))) none none).run Try.prog W = .ok (.slice (subA a1 (k + 1) c1 1) (x.shape.length - (k + 1)) (c1 - (k + 1))) W := fun W => part_l (P := Try.prog) Try.underlying22 size3 a1 x.shape.length c1 (k + 1) ((k : Int) + 1) (by simp) (by omega) W
  have ht : ((x.shape.drop (k + 1)).take (x.shape.length - (k + 1))) = x.shape.drop (k + 1) := by rw [List.take_of_length_le (by rw [List.length_drop]; omega)]
  have RD : Row lo2 w (subA a1 (k + 1) c1 1) (x.shape.drop (k + 1)) := by have := R.part (k + 1) c1 (x.shape.length - (k + 1)) (by omega) hc1; rw [ht] at this; exact this
  have HB0 := hide hb0
  have HZ2 := hide z2
  have HI := hide I
  have HRD := hide RD
  have HRT := hide RT
  have HRX := hide R
  have HIN := hide hin
  have HCF := hide hcf
  have HN := hide hN
  have HCAP := hide hc2
  have HDL : Hid ((x.shape.drop (k + 1)).length = x.shape.length - (k + 1)) := by unfold Hid; rw [List.length_drop]
  obtain ⟨SA, hSA⟩ : ∃ SA, x.shape.length = SA := ⟨_, rfl⟩
  obtain ⟨CA, hCA⟩ : ∃ CA, x.cells.length = CA := ⟨_, rfl⟩
  obtain ⟨L, hL⟩ : ∃ L, l.length = L := ⟨_, rfl⟩
  have HSC := hide (And.intro hSA (And.intro hCA hL))
  simp only [hSA, hCA, hL] at C1 e2 q0 HI HCF HAF HIN HDL HN HCAP hp1 hc1 hl16 l8 c16 hk ⊢
  obtain ⟨aD, haD⟩ : ∃ aD, subA a1 (k + 1) c1 1 = aD := ⟨_, rfl⟩
  obtain ⟨cD, hcD⟩ : ∃ cD, c1 - (k + 1) = cD := ⟨_, rfl⟩
  obtain ⟨SD, hSD⟩ : ∃ SD, SA - (k + 1) = SD := ⟨_, rfl⟩
  simp only [haD, hcD, hSD] at hp1 HRD HDL
  clear R hc I hSA hCA hL hcf hcap hchk RT hin hs hN hb0 hc2 RD ht haD hcD hSD
  go_enter Try.func98, Try.ntmps98
  go_wp2_with fail
  clear e2 q0
  refine C1.mono ?_
  clear C1
  rintro e w3 ⟨⟨as', cs', rfl, ho⟩, hb3⟩
  have I3 := HI.out.next hb3
  have q0 := I3.q0
  have mk := make_cells N (by omega) w3
  obtain ⟨W4, e4⟩ : ∃ W4, w3.alloc (.cells (madeCells #[.int .i64 0, .int .i64 0, .slice none 0 0] (N * 3)) 36) = W4 := ⟨_, rfl⟩
  rw [e4] at mk
  have B4 : Below w3.heap.size w3 W4 := by rw [← e4]; exact one_alloc _ _
  have z4 : W4.heap.size = w3.heap.size + 1 := by rw [← e4]; simp
  have RM : W4.rowIs w3.heap.size 36 (N * 3) zero3 := by rw [← e4]; exact rowIs_made3 w3 (N * 3)
  have I4 := I3.next B4
  have q04 := I4.q0
  have C2 := size_any (x.shape.drop (k + 1)) aD cD W4 (HRD.out.next I4.bel)
  rw [HDL.out] at C2
  obtain ⟨WD, hWD⟩ : ∃ z, sizeV (x.shape.drop (k + 1)) = z := ⟨_, rfl⟩
  rw [hWD] at C2 HAF
  have HWD := hide hWD
  have HO := hide (And.intro ho hb3)
  have HB34 := hide B4
  have HI4 := hide I4
  have HRM := hide RM
  have HZ4 := hide z4
  generalize sizeE (x.shape.drop (k + 1)) = ED at C2
  clear ho hb3 I3 B4 z4 RM I4 hWD
  go_wp2_with fail
  clear mk q0 q04 hp1
  refine C2.mono ?_
  clear C2
  rintro e w4 ⟨rfl, rfl⟩
  clear e4
  obtain ⟨QF, hQF⟩ : ∃ Q : Nat → Nat, Q = alongQ (gI x.shape k).toNat (sizeV (x.shape.drop (k + 1))).toNat l.length (fun i => (gI l i).toNat) := ⟨_, rfl⟩
  obtain ⟨QF, hQF⟩ : ∃ Q : Nat → Nat, Q = alongQ (gI x.shape k).toNat (sizeV (x.shape.drop (k + 1))).toNat l.length (fun i => (gI l i).toNat) := ⟨_, rfl⟩
  obtain ⟨QF, hQF⟩ : ∃ Q : Nat → Nat, Q = alongQ (gI x.shape k).toNat (sizeV (x.shape.drop (k + 1))).toNat l.length (fun i => (gI l i).toNat) := ⟨_, rfl⟩
  obtain ⟨QF, hQF⟩ : ∃ Q : Nat → Nat, Q = alongQ (gI x.shape k).toNat (sizeV (x.shape.drop (k + 1))).toNat l.length (fun i => (gI l i).toNat) := ⟨_, rfl⟩
  obtain ⟨QF, hQF⟩ : ∃ Q : Nat → Nat, Q = alongQ (gI x.shape k).toNat (sizeV (x.shape.drop (k + 1))).toNat l.length (fun i => (gI l i).toNat) := ⟨_, rfl⟩
  obtain ⟨QF, hQF⟩ : ∃ Q : Nat → Nat, Q = alongQ (gI x.shape k).toNat (sizeV (x.shape.drop (k + 1))).toNat l.length (fun i => (gI l i).toNat) := ⟨_, rfl⟩
  obtain ⟨QF, hQF⟩ : ∃ Q : Nat → Nat, Q = alongQ (gI x.shape k).toNat (sizeV (x.shape.drop (k + 1))).toNat l.length (fun i => (gI l i).toNat) := ⟨_, rfl⟩
  obtain ⟨T, hT⟩ : ∃ T : Nat → Value × Value × Value, T = fun p => cellT x.cells ab cb (QF p) := ⟨_, rfl⟩
  have HTT := hide hT
  have HQF := hide hQF
  have HR0 : Hid (w4.rowIs w3.heap.size 36 (N * 3) (gF T 0)) := HRM.out.congr fun i hi => by rw [gF_zero]
  clear hT hQF
  by_cases hN0 : N = 0
  · have hNn : ¬ (0 : Int) < (N : Int) := by omega
    have HQB : Hid (∀ i, i < N → QF i < CA) := fun i hi => by omega
    clear hN0
    go_wp2
    go_loopg [13, 14] 0 (fun g tv sv wr => tv = .int .i64 0 ∧ sv = .int .i64 0 ∧ wr = w4)
    case atStart => exact ⟨rfl, rfl, rfl⟩
    case round =>
      obtain ⟨rfl, rfl, hw⟩ := hrel
      have hw' := hw.symm
      subst hw'
      have hTw : Two w4 w3.heap.size w3.heap.size w4 := Two.refl _ _ _
      have e0 : gF T N = gF T 0 := by rw [show N = 0 by omega]
      have hrow := HR0.out
      rw [← e0] at hrow
      have hz4 := HZ4.out
      obtain ⟨i4, hi4⟩ : ∃ B, w3.heap.size = B := ⟨_, rfl⟩
      have BX : Below (w.heap.size + 2) w4 w4 := hTw.belowB (by have := HI4.out.size; have := HO.out.2.size; omega) (by have := HI4.out.size; have := HO.out.2.size; omega)
      have I8 : In2 w (.slice a1 SA c1) (.slice a2 CA c2) w4 := HI4.out.belowS BX (Nat.le_refl _)
      have p0 := I8.p0
      have p1 := I8.p1
      have f0 := I8.f0
      have f1 := I8.f1
      have HT := hide (I8.put (.slice as' SA cs') (.slice (some ⟨w3.heap.size, 0, none⟩) N N))
      have HFIN : Hid (∀ u v, GivesK (n + 1) w0 (alongA x k l) w (.returned (.agg #[.slice as' SA cs', .slice (some ⟨w3.heap.size, 0, none⟩) N N])) ((w4.setCell ⟨w.heap.size + 1, 0, none⟩ u).setCell ⟨w.heap.size + 1, 1, none⟩ v)) := by
        intro u v
        have hsl : (x.shape.set k (l.length : Int)).length = SA := by rw [List.length_set]; exact HSC.out.1
        refine ⟨⟨_, rfl, ⟨_, _, _, _, _, _, rfl, by have := HO.out.1.1; rw [List.length_set, HSC.out.1] at this; exact this, Nat.le_refl _⟩, fun W hW hK => ?_⟩, I8.fin u v⟩
        have K2 := (keeps_two w4 w.heap.size u v).trans (hK.mono (show w.heap.size ≤ w.heap.size + 2 by omega))
        have hsz := HI4.out.size
        have hsO := HO.out.2.size
        have hzz := HZ2.out
        have RS : Row 0 W as' (x.shape.set k (l.length : Int)) := by
          have r1 := HO.out.1.2.2
          rw [← HSC.out.2.2] at r1
          have k1 : Keeps W2.heap.size w3 w4 := ⟨by rw [hTw.size]; omega, fun b h1 h2 => (hTw.keep b (by omega) (by omega)).trans ((HB34.out.block b h2))⟩
          exact ((r1.keeps (k1.trans (K2.mono (by omega)))).low (Nat.zero_le _))
        have hcl : (alongA x k l).cells.length = N := by show (mkCs _ _).length = N; rw [mkCs_len, HSC.out.2.2, HN.out]; simp
        refine arIn_mk (x := alongA x k l) RS (by rw [hcl]; omega) ?_ hsl hcl
        by_cases hN0' : N = 0
        · exact Or.inl (List.eq_nil_of_length_eq_zero (by rw [hcl]; exact hN0'))
        refine Or.inr ⟨w3.heap.size, 0, rfl, Nat.zero_le _, Nat.lt_of_lt_of_le (show w3.heap.size < w4.heap.size by rw [hTw.size]; omega) K2.1, fun i hi => ?_⟩
        rw [hcl] at hi
        rw [Nat.zero_add]
        have ap : ∀ (o : Nat) (q : Value), w4.cell? ⟨w3.heap.size, o, none⟩ = some q → W.cell? ⟨w3.heap.size, o, none⟩ = some q := fun o q h => (K2.cell (p := ⟨w3.heap.size, o, none⟩) (by show _ ≤ w3.heap.size; omega) (by show w3.heap.size < _; rw [hTw.size]; omega)).trans h
        obtain ⟨s0, s1, s2⟩ := gF_at T N i hi
        have m0 := hrow.cell (i := i * 3) (by omega)
        have m1 := hrow.cell (i := i * 3 + 1) (by omega)
        have m2 := hrow.cell (i := i * 3 + 2) (by omega)
        rw [s0] at m0
        rw [s1] at m1
        rw [s2] at m2
        refine ⟨_, _, _, ap _ _ m0, ap _ _ m1, ap _ _ m2, ?_⟩
        have hQ := HQB.out i hi
        obtain ⟨b, off, -, -, hb, hcl2⟩ := HCF.out (by omega)
        obtain ⟨-, -, -, hce⟩ := hcl2 _ hQ
        have ec : cAt (alongA x k l).cells i = cAt x.cells (QF i) := by show cAt (mkCs _ _) i = _; rw [mkCs_at _ _ _ (by rw [HSC.out.2.2, HN.out]; simpa using hi), HQF.out]
        rw [ec, HTT.out]
        exact hce.mono (Nat.zero_le _) hW fun x v h => h.mono (Nat.zero_le _) hW
      clear I8 BX hTw hrow hz4 hi4
      go_wp2
      exact bodyPost_ret (v := .agg #[.slice as' SA cs', .slice (some ⟨w3.heap.size, 0, none⟩) N N]) (by simp [results, Try.results98, go_sem, HT.out.1, HT.out.2]) rfl (HFIN.out _ _)
  · obtain ⟨A, D, wd, hD, hwd, hw0, hL0, hNA, hCAA, hw16, hL16, hD16⟩ := HAF.out (by rw [HN.out]; omega)
    subst hwd
    have hNA' : N = A * (L * wd) := by rw [HN.out] at hNA; omega
    obtain ⟨M, hM⟩ : ∃ M, L * wd = M := ⟨_, rfl⟩
    obtain ⟨DW, hDW⟩ : ∃ DW, D * wd = DW := ⟨_, rfl⟩
    rw [hM] at hNA'
    rw [hDW] at hCAA
    have hM0 : 0 < M := by rw [← hM]; exact Nat.mul_pos hL0 hw0
    have HQ : Hid (∀ r j q, j < L → q < wd → QF (r * M + j * wd + q) = r * DW + (gI l j).toNat * wd + q) := by
      intro r j q hj hq
      rw [HQF.out, hD, HWD.out, HSC.out.2.2]
      have := alongQ_at D wd L (fun i => (gI l i).toNat) r j q hj hq
      rw [Nat.add_mul, Nat.mul_assoc, hM, hDW] at this
      simpa using this
    have HBD : Hid (∀ r j, r < A → j < L → (gI l j).toNat * wd + wd ≤ DW ∧ r * DW + DW ≤ CA ∧ r * M + M ≤ N ∧ j * wd + wd ≤ M) := by
      intro r j hr hj
      have h1 := HIN.out j hj
      rw [hD] at h1
      have a1 : ((gI l j).toNat + 1) * wd ≤ D * wd := Nat.mul_le_mul_right _ (by omega)
      have a2 : (r + 1) * DW ≤ A * DW := Nat.mul_le_mul_right _ hr
      have a3 : (r + 1) * M ≤ A * M := Nat.mul_le_mul_right _ hr
      have a4 : (j + 1) * wd ≤ L * wd := Nat.mul_le_mul_right _ hj
      rw [Nat.add_mul, Nat.one_mul] at a1 a2 a3 a4
      omega
    have HQB : Hid (∀ i, i < N → QF i < CA) := by
      intro i hi
      have e1 : i = (i / M) * M + (i % M / wd) * wd + i % M % wd := by
        have h1 := Nat.div_add_mod i M
        have h2 := Nat.div_add_mod (i % M) wd
        rw [Nat.mul_comm] at h1 h2
        omega
      have hr : i / M < A := by rw [Nat.div_lt_iff_lt_mul hM0]; omega
      have hj : i % M / wd < L := by
        rw [Nat.div_lt_iff_lt_mul hw0, hM]; exact Nat.mod_lt _ hM0
      have hq : i % M % wd < wd := Nat.mod_lt _ hw0
      obtain ⟨b1, b2, -, -⟩ := HBD.out _ _ hr hj
      rw [e1, HQ.out _ _ _ hj hq]
      omega
    have HAM := hide (And.intro hNA' (And.intro hCAA (And.intro hD (And.intro hM hDW))))
    clear hNA hNA' hCAA hD hM hDW hN0
    go_wp2
    go_loopg [13, 14] A (fun g tv sv wr => ∃ r : Nat, g + r = A ∧ tv = .int .i64 ((r * M : Nat) : Int) ∧ sv = .int .i64 ((r * DW : Nat) : Int) ∧ Two w4 w3.heap.size w3.heap.size wr ∧ wr.rowIs w3.heap.size 36 (N * 3) (gF T (r * M)))
    case atStart => exact ⟨0, rfl, by simp, by simp, Two.refl _ _ _, by rw [Nat.zero_mul]; exact HR0.out⟩
    case round =>
      clear HR0 HRM
      obtain ⟨r, hgr, rfl, rfl, hTw, hrow⟩ := hrel
      obtain ⟨wo, hwo⟩ : ∃ wo, wo = wr := ⟨_, rfl⟩
      subst hwo
      by_cases hlt : r < A
      · obtain ⟨tz, hto⟩ : ∃ tz, r * M = tz := ⟨_, rfl⟩
        obtain ⟨st, hst⟩ : ∃ st, r * DW = st := ⟨_, rfl⟩
        have hb1 := HBD.out r 0 hlt hL0
        have HTS := hide (And.intro hto hst)
        rw [hto, hst] at hb1
        rw [hto] at hrow
        rw [hto, hst]
        have htN : (tz : Int) < (N : Int) := by omega
        have HST := hide (And.intro hTw hrow)
        clear hto hst hTw hrow
        go_wp2
        go_loopg [13, 53] L (fun g tv iv wq => ∃ j : Nat, g + j = L ∧ iv = .int .i64 (j : Int) ∧ tv = .int .i64 ((tz + j * wd : Nat) : Int) ∧ Two w4 w3.heap.size w3.heap.size wq ∧ wq.rowIs w3.heap.size 36 (N * 3) (gF T (tz + j * wd)))
        case atStart => exact ⟨0, rfl, rfl, by simp, HST.out.1, by rw [Nat.zero_mul]; exact HST.out.2⟩
        case round =>
          clear HST
          obtain ⟨j, hgj, rfl, rfl, hTw, hrow⟩ := hrel
          have BX : Below (w.heap.size + 2) w4 wr := hTw.belowB (by have := HI4.out.size; have := HO.out.2.size; have := HZ4.out; have := HZ2.out; omega) (by have := HI4.out.size; have := HO.out.2.size; have := HZ2.out; omega)
          have I6 : In2 w (.slice a1 SA c1) (.slice a2 CA c2) wr := HI4.out.belowS BX (Nat.le_refl _)
          by_cases hlj : j < L
          · obtain ⟨b1, b2, b3, b4⟩ := HBD.out r j hlt hlj
            rw [HTS.out.1] at b3
            rw [HTS.out.2] at b2
            obtain ⟨bt, ot, rfl, hbt, hct⟩ := row_at HRT.out (j := j) (by rw [HSC.out.2.2]; exact hlj)
            have u0 := (I6.bel.cell (p := ⟨bt, ot + j, none⟩) hbt).trans hct
            obtain ⟨aj, haj⟩ : ∃ aj : Nat, gI l j = (aj : Int) := ⟨(gI l j).toNat, by have := HIN.out j hlj; omega⟩
            have eg : l[j]?.getD 0 = (aj : Int) := haj
            rw [eg] at u0
            rw [haj, Int.toNat_natCast] at b1
            obtain ⟨jw, hjw⟩ : ∃ jw, j * wd = jw := ⟨_, rfl⟩
            obtain ⟨pw, hpw⟩ : ∃ pw, aj * wd = pw := ⟨_, rfl⟩
            have HQ2 : Hid (∀ q, q < wd → QF (tz + jw + q) = st + pw + q) := by
              intro q hq
              have := HQ.out r j q hlj hq
              rw [haj, Int.toNat_natCast, HTS.out.1, HTS.out.2, hjw, hpw] at this
              exact this
            have hmul : (aj : Int) * (wd : Int) = (pw : Int) := by rw [← Int.natCast_mul, hpw]
            rw [hpw] at b1
            rw [hjw] at b4 hrow ⊢
            obtain ⟨t2, ht2⟩ : ∃ t2, tz + jw = t2 := ⟨_, rfl⟩
            obtain ⟨fr, hfr⟩ : ∃ fr, st + pw = fr := ⟨_, rfl⟩
            obtain ⟨fw, hfw⟩ : ∃ fw, fr + wd = fw := ⟨_, rfl⟩
            rw [ht2] at hrow ⊢
            have ha1 : (st : Int) + (pw : Int) = (fr : Int) := by omega
            have hwr : IntKind.i64.wrap ((fr : Int) + (wd : Int)) = (fw : Int) := by rw [show (fr : Int) + (wd : Int) = (fw : Int) by omega]; exact IntWalk.i64_in _ ⟨by omega, by omega⟩
            have hwr2 : IntKind.i64.wrap ((t2 : Int) + (wd : Int)) = ((t2 + wd : Nat) : Int) := by rw [show (t2 : Int) + (wd : Int) = ((t2 + wd : Nat) : Int) by omega]; exact IntWalk.i64_in _ ⟨by omega, by omega⟩
            have hp1 : ∀ W, (Instr.sliceAt 23 (.slice (some ⟨w3.heap.size, 0, none⟩) N N) (some (.int .i64 (t2 : Int))) none none).run Try.prog W = .ok (.slice (some ⟨w3.heap.size, t2 * 3, none⟩) (N - t2) (N - t2)) W := fun W => by
              rw [part_l (P := Try.prog) Try.underlying23 size36 (some ⟨w3.heap.size, 0, none⟩) N N t2 (t2 : Int) rfl (by omega) W]
              unfold subA; rw [if_neg (by omega), Option.map_some, add_off, Nat.zero_add]
            have hp2 : ∀ W, (Instr.sliceAt 23 (.slice a2 CA c2) (some (.int .i64 (fr : Int))) (some (.int .i64 (fw : Int))) none).run Try.prog W = .ok (.slice (subA a2 fr c2 3) wd (c2 - fr)) W := fun W => by
              rw [part_lh (P := Try.prog) Try.underlying23 size36 a2 CA c2 fr fw (fr : Int) (fw : Int) rfl rfl (by omega) (by have := HCAP.out; omega) W, show fw - fr = wd by omega]
            have HLI : Hid (Lies wr.drew (subA a2 fr c2 3) (rowT (fun q => T (t2 + q)) wd)) := by
              obtain ⟨b, off, rfl, -, hb, hcells⟩ := HCF.out (by omega)
              have hNB := HB0.out.trans (I6.bel.mono HB0.out.size)
              have hL1 := lies_part (w := wr) (cs := x.cells) (ab := ab) (cb := cb) (b := b) (off := off) (Nat.lt_of_lt_of_le hb hNB.size) (fun i hi => by
                rw [HSC.out.2.1] at hi
                obtain ⟨g0, g1, g2, -⟩ := hcells i hi
                exact ⟨(hNB.cell (p := ⟨b, off + i * 3, none⟩) hb).trans g0, (hNB.cell (p := ⟨b, off + i * 3 + 1, none⟩) hb).trans g1, (hNB.cell (p := ⟨b, off + i * 3 + 2, none⟩) hb).trans g2⟩) fr wd c2 (by rw [HSC.out.2.1]; omega) (by rw [HSC.out.2.1]; exact HCAP.out) hw0
              have e : rowT (fun q => T (t2 + q)) wd = rowT (fun q => cellT x.cells ab cb (fr + q)) wd := rowT_congr fun q hq => by
                show T (t2 + q) = _
                rw [HTT.out]
                show cellT x.cells ab cb (QF (t2 + q)) = _
                rw [← ht2, HQ2.out q hq, hfr]
              rw [e]; exact hL1.drew
            have HROW : Hid (wr.drew.rowIs w3.heap.size 36 (N * 3) (gF T t2)) := hrow
            have HMM : Hid (wd = Nat.min wd (N - t2) ∧ (rowT (fun q => T (t2 + q)) wd).length = wd * 3 ∧ t2 * 3 + (rowT (fun q => T (t2 + q)) wd).length ≤ N * 3) := by
              refine ⟨(Nat.min_eq_left (by omega)).symm, rowT_len _ _, ?_⟩
              rw [rowT_len]; omega
            have HTW2 := hide hTw.drew
            have HNX : Hid (tz + (j + 1) * wd = t2 + wd) := by unfold Hid; rw [Nat.add_mul, Nat.one_mul, hjw]; omega
            have t1 := I6.q1
            obtain ⟨RW, hRW⟩ : ∃ RW, rowT (fun q => T (t2 + q)) wd = RW := ⟨_, rfl⟩
            have HRW := hide hRW
            rw [hRW] at HLI HMM
            have hpw16 : pw ≤ 16384 := by omega
            have hst16 : st ≤ 16384 := by omega
            clear hrow hTw I6 BX hct hbt b1 b2 haj eg hjw hpw ht2 hfr HQ2 hRW
            go_wp2
            go_region_law (refine step_copy_rowIs rfl (.tmp 65) (.tmp 72) 23 23 rfl 36 3 Try.underlying23 size36 (some ⟨w3.heap.size, t2 * 3, none⟩) (subA a2 fr c2 3) (N - t2) (N - t2) wd (c2 - fr) wd rfl rfl w3.heap.size (t2 * 3) (N * 3) 36 (gF T t2) HROW.out RW HMM.out.1 HMM.out.2.1 (fun _ => rfl) HLI.out (by decide) HMM.out.2.2 ?_; intro w9 hrow9 hTw9)
            all_goals
              have HN9 : Hid (Two w4 w3.heap.size w3.heap.size w9 ∧ w9.rowIs w3.heap.size 36 (N * 3) (gF T (tz + (j + 1) * wd))) := by
                refine ⟨⟨HTW2.out.io.trans hTw9.io, hTw9.size.trans HTW2.out.size, fun b h1 h2 => (hTw9.keep b h1 h2).trans (HTW2.out.keep b h1 h2)⟩, ?_⟩
                rw [HNX.out]
                refine hrow9.congr fun i hi => ?_
                rw [← HRW.out]
                exact spF_gF T t2 wd N i hi
              clear hrow9 hTw9 HROW HLI HMM HTW2 hp1 hp2 u0 t1
              go_wp2
              go_roundg (L - (j + 1))
              case rel => exact ⟨j + 1, by omega, by go_num, by rw [HNX.out]; first | rfl | simp, HN9.out⟩
              case measure => omega
          · have hje : j = L := by omega
            subst hje
            obtain ⟨hNA, hCAA, hD, hM, hDW⟩ := HAM.out
            rw [hM] at hrow
            obtain ⟨bx, ox, rfl, hbx, hcx⟩ := row_at HRX.out (j := k) (by rw [HSC.out.1]; exact hk)
            have u0 := (I6.bel.cell (p := ⟨bx, ox + k, none⟩) hbx).trans hcx
            have eg : x.shape[k]?.getD 0 = (D : Int) := hD
            rw [eg] at u0
            have t0 := I6.q0
            have hmul : (D : Int) * (wd : Int) = (DW : Int) := by rw [← Int.natCast_mul, hDW]
            have hDWN : DW ≤ 16384 := by have := (HBD.out r 0 hlt hL0).2.1; omega
            have HN9 : Hid (Two w4 w3.heap.size w3.heap.size wr ∧ wr.rowIs w3.heap.size 36 (N * 3) (gF T ((r + 1) * M))) := by
              refine ⟨hTw, ?_⟩
              rw [Nat.add_mul, Nat.one_mul, HTS.out.1]
              exact hrow
            have HEQ : Hid (((tz + j * wd : Nat) : Int) = (((r + 1) * M : Nat) : Int) ∧ (st : Int) + (DW : Int) = (((r + 1) * DW : Nat) : Int)) := by
              refine ⟨?_, ?_⟩
              · rw [hM, Nat.add_mul, Nat.one_mul, HTS.out.1]
              · rw [Nat.add_mul, Nat.one_mul, HTS.out.2]; simp
            have hst16 : st ≤ 16384 := by omega
            clear hrow hTw I6 BX hcx hbx eg hNA hCAA hD hM hDW
            go_wp2
            go_roundg (A - (r + 1))
            case rel => exact ⟨r + 1, by omega, by rw [HEQ.out.1], by rw [← HEQ.out.2], HN9.out⟩
            case measure => omega
      · have hrA : r = A := by omega
        subst hrA
        obtain ⟨hNA, -⟩ := HAM.out
        rw [← hNA] at hrow ⊢
        clear hNA
        have hz4 := HZ4.out
        obtain ⟨i4, hi4⟩ : ∃ B, w3.heap.size = B := ⟨_, rfl⟩
        have BX : Below (w.heap.size + 2) w4 wo := hTw.belowB (by have := HI4.out.size; have := HO.out.2.size; omega) (by have := HI4.out.size; have := HO.out.2.size; omega)
        have I8 : In2 w (.slice a1 SA c1) (.slice a2 CA c2) wo := HI4.out.belowS BX (Nat.le_refl _)
        have p0 := I8.p0
        have p1 := I8.p1
        have f0 := I8.f0
        have f1 := I8.f1
        have HT := hide (I8.put (.slice as' SA cs') (.slice (some ⟨w3.heap.size, 0, none⟩) N N))
        have HFIN : Hid (∀ u v, GivesK (n + 1) w0 (alongA x k l) w (.returned (.agg #[.slice as' SA cs', .slice (some ⟨w3.heap.size, 0, none⟩) N N])) ((wo.setCell ⟨w.heap.size + 1, 0, none⟩ u).setCell ⟨w.heap.size + 1, 1, none⟩ v)) := by
          intro u v
          have hsl : (x.shape.set k (l.length : Int)).length = SA := by rw [List.length_set]; exact HSC.out.1
          refine ⟨⟨_, rfl, ⟨_, _, _, _, _, _, rfl, by have := HO.out.1.1; rw [List.length_set, HSC.out.1] at this; exact this, Nat.le_refl _⟩, fun W hW hK => ?_⟩, I8.fin u v⟩
          have K2 := (keeps_two wo w.heap.size u v).trans (hK.mono (show w.heap.size ≤ w.heap.size + 2 by omega))
          have hsz := HI4.out.size
          have hsO := HO.out.2.size
          have hzz := HZ2.out
          have RS : Row 0 W as' (x.shape.set k (l.length : Int)) := by
            have r1 := HO.out.1.2.2
            rw [← HSC.out.2.2] at r1
            have k1 : Keeps W2.heap.size w3 wo := ⟨by rw [hTw.size]; omega, fun b h1 h2 => (hTw.keep b (by omega) (by omega)).trans ((HB34.out.block b h2))⟩
            exact ((r1.keeps (k1.trans (K2.mono (by omega)))).low (Nat.zero_le _))
          have hcl : (alongA x k l).cells.length = N := by show (mkCs _ _).length = N; rw [mkCs_len, HSC.out.2.2, HN.out]; simp
          refine arIn_mk (x := alongA x k l) RS (by rw [hcl]; omega) ?_ hsl hcl
          by_cases hN0' : N = 0
          · exact Or.inl (List.eq_nil_of_length_eq_zero (by rw [hcl]; exact hN0'))
          refine Or.inr ⟨w3.heap.size, 0, rfl, Nat.zero_le _, Nat.lt_of_lt_of_le (show w3.heap.size < wo.heap.size by rw [hTw.size]; omega) K2.1, fun i hi => ?_⟩
          rw [hcl] at hi
          rw [Nat.zero_add]
          have ap : ∀ (o : Nat) (q : Value), wo.cell? ⟨w3.heap.size, o, none⟩ = some q → W.cell? ⟨w3.heap.size, o, none⟩ = some q := fun o q h => (K2.cell (p := ⟨w3.heap.size, o, none⟩) (by show _ ≤ w3.heap.size; omega) (by show w3.heap.size < _; rw [hTw.size]; omega)).trans h
          obtain ⟨s0, s1, s2⟩ := gF_at T N i hi
          have m0 := hrow.cell (i := i * 3) (by omega)
          have m1 := hrow.cell (i := i * 3 + 1) (by omega)
          have m2 := hrow.cell (i := i * 3 + 2) (by omega)
          rw [s0] at m0
          rw [s1] at m1
          rw [s2] at m2
          refine ⟨_, _, _, ap _ _ m0, ap _ _ m1, ap _ _ m2, ?_⟩
          have hQ := HQB.out i hi
          obtain ⟨b, off, -, -, hb, hcl2⟩ := HCF.out (by omega)
          obtain ⟨-, -, -, hce⟩ := hcl2 _ hQ
          have ec : cAt (alongA x k l).cells i = cAt x.cells (QF i) := by show cAt (mkCs _ _) i = _; rw [mkCs_at _ _ _ (by rw [HSC.out.2.2, HN.out]; simpa using hi), HQF.out]
          rw [ec, HTT.out]
          exact hce.mono (Nat.zero_le _) hW fun x v h => h.mono (Nat.zero_le _) hW
        clear I8 BX hTw hrow hz4 hi4
        go_wp2
        exact bodyPost_ret (v := .agg #[.slice as' SA cs', .slice (some ⟨w3.heap.size, 0, none⟩) N N]) (by simp [results, Try.results98, go_sem, HT.out.1, HT.out.2]) rfl (HFIN.out _ _)
theorem along_any {n lo lo' k : Nat} {x : Ar} {va : Value} {w0 w : World} (hx : ArIn (n + 1) lo w0 x va) (hb0 : Below w0.heap.size w0 w) (hcap : Caps va) (hchk : chkA 8 x = 0) (hk : k < x.shape.length) (l : List Int) (aT : Option Addr) (cT : Nat) (RT : Row lo' w aT l)
    (hin : ∀ i, i < l.length → 0 ≤ gI l i ∧ gI l i < gI x.shape k) (hs : sizeE (x.shape.set k (l.length : Int)) = 0) (hl16 : l.length ≤ 16384) :
    Calls Try.prog 98 #[va, .int .i64 (k : Int), .slice aT l.length cT] w fun e w' => GivesK (n + 1) w0 (alongA x k l) w e w' := by
  obtain ⟨a1, c1, a2, c2, rfl, R, hc⟩ := hx.form
  exact along_row (R.next hb0) hc hb0 hcap hchk hk l aT cT RT hin hs hl16
end Go.Proofs.Ytmjncdhahdpplaa
namespace Go.Proofs.Ytmjncdhahdpplaa
open Go.ChangeShapes Go.WideShapes Go.ChangeAt Go.RowKit
set_option linter.unusedVariables false
set_option maxRecDepth 100000
def Gives2K (n : Nat) (w0 : World) (x : Ar) (E : Int) (w : World) (e : Ending) (w' : World) : Prop := (∃ v, e = .returned (.tuple #[v, .int .i64 E]) ∧ Caps v ∧ ∀ W, Below w0.heap.size w0 W → Keeps w.heap.size w' W → ArIn n 0 W x v) ∧ Below w.heap.size w w'
theorem gives2k_of {n : Nat} {x : Ar} {E : Int} {w0 w w' : World} {v : Value} {R : Ar × Int} (hR : R = (x, E)) (hc : Caps v) (hx : ∀ W, Below w0.heap.size w0 W → Keeps w.heap.size w' W → ArIn n 0 W x v) (hb : Below w.heap.size w w') : Gives2K n w0 R.1 R.2 w (.returned (.tuple #[v, .int .i64 E])) w' := by
  subst hR
  exact ⟨⟨_, rfl, hc, hx⟩, hb⟩
theorem caps_nil : Caps (.agg #[.slice none 0 0, .slice none 0 0]) := ⟨_, _, _, _, _, _, rfl, Nat.le_refl _, Nat.le_refl _⟩
theorem keeps_three (W : World) (s : Nat) (u v : Value) : Keeps (s + 3) W ((W.setCell ⟨s + 2, 0, none⟩ u).setCell ⟨s + 2, 1, none⟩ v) := ((Keeps.refl _ _).setCell (p := ⟨s + 2, 0, none⟩) (by show s + 2 < _; omega) u).setCell (p := ⟨s + 2, 1, none⟩) (by show s + 2 < _; omega) v
def rotL (m : Int) (D : Nat) : List Int := (List.range D).map fun i : Nat => ((i : Int) + m) % (D : Int)
theorem rotL_len (m : Int) (D : Nat) : (rotL m D).length = D := by simp [rotL]
theorem rotL_at (m : Int) (D i : Nat) (hi : i < D) : gI (rotL m D) i = ((i : Int) + m) % (D : Int) := by simp [gI, rotL, hi]
theorem rot_rem (m : Int) (D i : Nat) (hi : i < D) : -(D : Int) < m.tmod (D : Int) ∧ m.tmod (D : Int) < D ∧ ((i : Int) + m.tmod (D : Int) + (D : Int)).tmod (D : Int) = ((i : Int) + m) % (D : Int) ∧ 0 ≤ ((i : Int) + m) % (D : Int) ∧ ((i : Int) + m) % (D : Int) < D := by
  have h1 := Int.tmod_lt_of_pos m (show (0 : Int) < D by omega)
  have h2 : -(D : Int) < m.tmod (D : Int) := by
    have := Int.tmod_lt_of_pos (-m) (show (0 : Int) < D by omega)
    rw [Int.neg_tmod] at this
    omega
  refine ⟨h2, h1, ?_, Int.emod_nonneg _ (by omega), Int.emod_lt_of_pos _ (by omega)⟩
  rw [Int.tmod_eq_emod_of_nonneg (by omega), Int.add_emod_right]
  have e : m = (D : Int) * m.tdiv D + m.tmod D := (Int.mul_tdiv_add_tmod m D).symm
  have e2 : (i : Int) + m = (i : Int) + m.tmod D + (D : Int) * m.tdiv D := by omega
  rw [e2, Int.add_mul_emod_self_left]
theorem row_toF3 {w : World} {b lo : Nat} {l : List Int} (h : w.rowIs b 3 l.length (toF l l.length)) (hlo : lo ≤ b) (hl : l.length ≤ 140737488355328) : Row lo w (some ⟨b, 0, none⟩) l := by
  refine row_made h rfl hlo hl fun i hi => ?_
  unfold toF
  rw [if_pos hi]; rfl
def rotR (x y : Ar) (k : Nat) : Ar × Int := if ¬ (numR x).2 = 0 then (zeroA, (numR x).2) else if y.shape.length = 0 then (y, 0) else (alongA y k (rotL (numR x).1 (gI y.shape k).toNat), 0)
set_option maxHeartbeats 8000000 in
theorem rotated_any {n m lo lo' : Nat} {x y : Ar} {va vb : Value} {w0 w : World} (hx : ArIn (m + 1) lo w0 x va) (hy : ArIn (n + 1) lo' w0 y vb) (hb0 : Below w0.heap.size w0 w) (hcx : chkA 8 x = 0) (hcy : chkA 8 y = 0) (hcap : Caps vb) (k : Nat) (kv : Int) (hk : 0 < y.shape.length → k < y.shape.length ∧ kv = (k : Int)) :
    Calls Try.prog 78 #[va, vb, .int .i64 kv] w fun e w' => Gives2K (n + 1) w0 (rotR x y k).1 (rotR x y k).2 w e w' := by
  obtain ⟨a1, c1, a2, c2, rfl, R, hc⟩ := hx.form
  obtain ⟨b1, d1, b2, d2, rfl, R', hc'⟩ := hy.form
  have I := in3_new w (.slice a1 x.shape.length c1) (.slice a2 x.cells.length c2) (.slice b1 y.shape.length d1) (.slice b2 y.cells.length d2)
  obtain ⟨W3, e3⟩ : ∃ W3, ((w.alloc (.cells #[.slice a1 x.shape.length c1, .slice a2 x.cells.length c2] 25)).alloc (.cells #[.slice b1 y.shape.length d1, .slice b2 y.cells.length d2] 25)).alloc (.cells #[.slice none 0 0, .slice none 0 0] 25) = W3 := ⟨_, rfl⟩
  rw [e3] at I
  have q0 := I.q0
  have q1 := I.q1
  have CN := number_any (hx.next (hb0.trans (I.bel.mono hb0.size))) hcx
  have HI := hide I
  have HB0 := hide hb0
  have HY := hide (And.intro hy (And.intro hcy hcap))
  have HRY := hide R'
  have HK := hide hk
  obtain ⟨l8, cy16⟩ := chk_len hcy
  have HE : Hid (rotR x y k = if ¬ (numR x).2 = 0 then (zeroA, (numR x).2) else if y.shape.length = 0 then (y, 0) else (alongA y k (rotL (numR x).1 (gI y.shape k).toNat), 0)) := rfl
  obtain ⟨⟨Nn, NE⟩, hNR⟩ : ∃ p, numR x = p := ⟨_, rfl⟩
  rw [hNR] at HE CN
  simp only at CN HE
  obtain ⟨SX, hSX⟩ : ∃ SX, x.shape.length = SX := ⟨_, rfl⟩
  obtain ⟨CX, hCX⟩ : ∃ CX, x.cells.length = CX := ⟨_, rfl⟩
  obtain ⟨SY, hSY⟩ : ∃ SY, y.shape.length = SY := ⟨_, rfl⟩
  obtain ⟨CY, hCY⟩ : ∃ CY, y.cells.length = CY := ⟨_, rfl⟩
  have HSC := hide (And.intro hSY hCY)
  simp only [hSX, hCX, hSY, hCY] at CN e3 q0 q1 HI HY HE HK l8 cy16 ⊢
  clear R hc I hx hy R' hc' hSX hCX hSY hCY hb0 hcx hcy hcap hk hNR
  go_enter Try.func78, Try.ntmps78
  go_wp2_with fail
  clear e3 q0 q1
  refine CN.mono ?_
  clear CN
  rintro e w1 ⟨rfl, hb1⟩
  have I1 := HI.out.next hb1
  have r0 := I1.r0
  have r1 := I1.r1
  have p0 := I1.p0
  have p1 := I1.p1
  have f0 := I1.f0
  have f1 := I1.f1
  have HI1 := hide I1
  by_cases hNE : NE = 0
  case neg =>
    have HE5 : Hid (rotR x y k = (zeroA, NE)) := by unfold Hid; rw [HE.out, if_pos hNE]
    have HT := hide (I1.put (.slice none 0 0) (.slice none 0 0))
    have hne : (NE == 0) = false := beq_eq_false_iff_ne.2 hNE
    clear I1 HE HY HRY HK hb1 HI r0 r1
    go_wp2
    exact bodyPost_ret (v := .tuple #[.agg #[.slice none 0 0, .slice none 0 0], .int .i64 NE]) (by simp [results, Try.results78, go_sem, HT.out.1, HT.out.2]) rfl (gives2k_of HE5.out caps_nil (fun _ _ _ => zeroA_in _ _ _) (HI1.out.fin _ _))
  subst hNE
  by_cases hS0 : SY = 0
  · have HE5 : Hid (rotR x y k = (y, 0)) := by unfold Hid; rw [HE.out, if_neg (by simp), if_pos hS0]
    have HT := hide (I1.put (.slice b1 SY d1) (.slice b2 CY d2))
    have hSb : ((SY : Int) == 0) = true := by simp [hS0]
    clear I1 HE HRY HK hb1 HI hS0
    go_wp2
    exact bodyPost_ret (v := .tuple #[.agg #[.slice b1 SY d1, .slice b2 CY d2], .int .i64 0]) (by simp [results, Try.results78, go_sem, HT.out.1, HT.out.2]) rfl (gives2k_of HE5.out HY.out.2.2 (fun _ hW _ => HY.out.1.mono (Nat.zero_le _) hW) (HI1.out.fin _ _))
  obtain ⟨hkS, rfl⟩ := HK.out (by omega)
  have hSb : ((SY : Int) == 0) = false := by simp; omega
  obtain ⟨by', oy, rfl, hby, hcy⟩ := row_at HRY.out (j := k) (by rw [HSC.out.1]; exact hkS)
  have hDb := (chk_axes HY.out.2.1).1 (gI y.shape k) (getD_mem (by rw [HSC.out.1]; exact hkS))
  obtain ⟨D, hD⟩ : ∃ D : Nat, gI y.shape k = (D : Int) := ⟨(gI y.shape k).toNat, by omega⟩
  have u0 := ((HB0.out.trans (I1.bel.mono HB0.out.size)).cell (p := ⟨by', oy + k, none⟩) hby).trans hcy
  have eg : y.shape[k]?.getD 0 = (D : Int) := hD
  rw [eg] at u0
  have hD16 : D ≤ 16384 := by omega
  have HE5 : Hid (rotR x y k = (alongA y k (rotL Nn D), 0)) := by unfold Hid; rw [HE.out, if_neg (by simp), if_neg hS0, hD, Int.toNat_natCast]
  have mk := run_make_row' (P := Try.prog) 22 3 (.int .i64 0) 8 Try.underlying22 int3 rfl .i64 .i64 D (by omega) (by omega) w1
  obtain ⟨W4, e4⟩ : ∃ W4, w1.alloc (.cells (madeCells #[.int .i64 0] D) 3) = W4 := ⟨_, rfl⟩
  rw [e4] at mk
  have B4 : Below w1.heap.size w1 W4 := by rw [← e4]; exact one_alloc _ _
  have z4 : W4.heap.size = w1.heap.size + 1 := by rw [← e4]; simp
  have RM : W4.rowIs w1.heap.size 3 D (toF (rotL Nn D) 0) := by
    rw [← e4]
    exact (World.rowIs_made w1 (.int .i64 0) D 3).congr fun i hi => by unfold toF; rw [if_neg (by omega)]
  have I4 := I1.next B4
  have HI4 := hide I4
  have HZ4 := hide (And.intro z4 I1.size)
  have HRM := hide RM
  have HD := hide hD
  clear I1 HE HK hb1 HI hS0 p0 p1 f0 f1 B4 z4 RM I4 hcy hby eg hDb hD
  go_wp2
  clear mk e4 u0 r0 r1
  go_loopg [36] D (fun g i wr => ∃ j : Nat, g + j = D ∧ i = .int .i64 (j : Int) ∧ Two W4 w1.heap.size w1.heap.size wr ∧ wr.rowIs w1.heap.size 3 D (toF (rotL Nn D) j))
  case atStart => exact ⟨0, rfl, rfl, Two.refl _ _ _, HRM.out⟩
  case round =>
    clear HRM
    obtain ⟨j, hgj, rfl, hTw, hrow⟩ := hrel
    by_cases hlt : j < D
    · obtain ⟨h1, h2, h3, h4, h5⟩ := rot_rem Nn D j hlt
      have z0 := hrow.cell (i := j) hlt
      have y0 := hrow.frozen j
      have HS : Hid (Two W4 w1.heap.size w1.heap.size (wr.setCell ⟨w1.heap.size, j, none⟩ (.int .i64 (((j : Int) + Nn) % (D : Int)))) ∧ (wr.setCell ⟨w1.heap.size, j, none⟩ (.int .i64 (((j : Int) + Nn) % (D : Int)))).rowIs w1.heap.size 3 D (toF (rotL Nn D) (j + 1))) := ⟨hTw.set1 _ _, (hrow.set j (.int .i64 (((j : Int) + Nn) % (D : Int)))).congr (fun i _ => by rw [toF_step, rotL_at Nn D j hlt])⟩
      obtain ⟨rm, hrm⟩ : ∃ rm, Nn.tmod (D : Int) = rm := ⟨_, rfl⟩
      obtain ⟨rv, hrv⟩ : ∃ rv, ((j : Int) + Nn) % (D : Int) = rv := ⟨_, rfl⟩
      rw [hrm] at h1 h2 h3
      rw [hrv] at h3 h4 h5 HS
      have hD0 : ¬ D = 0 := by omega
      have hD1 : ¬ (D : Int) = 0 := by omega
      have hw1 : IntKind.i64.wrap rm = rm := IntWalk.i64_in _ ⟨by omega, by omega⟩
      have hw2 : IntKind.i64.wrap rv = rv := IntWalk.i64_in _ ⟨by omega, by omega⟩
      generalize toF (rotL Nn D) j j = yv at *
      clear hrow hTw hrv
      go_wp2
      go_roundg (D - (j + 1))
      case rel => exact ⟨j + 1, by omega, by go_num, HS.out⟩
      case measure => omega
    · have hje : j = D := by omega
      subst hje
      have hz := HZ4.out
      have RR : Row 0 wr (some ⟨w1.heap.size, 0, none⟩) (rotL Nn j) := row_toF3 (by rw [rotL_len]; exact hrow) (Nat.zero_le _) (by rw [rotL_len]; omega)
      have I5 : In3 w (.slice a1 SX c1) (.slice a2 CX c2) (.slice (some ⟨by', oy, none⟩) SY d1) (.slice b2 CY d2) wr := HI4.out.belowS (hTw.belowB (B := w.heap.size + 3) (by omega) (by omega)) (Nat.le_refl _)
      have hs0 := HY.out.2.1
      have hset : y.shape.set k ((rotL Nn j).length : Int) = y.shape := by rw [rotL_len, ← HD.out]; exact set_gI _ _ (by rw [HSC.out.1]; exact hkS)
      have C := along_any HY.out.1 (HB0.out.trans (I5.bel.mono HB0.out.size)) HY.out.2.2 hs0 (by rw [HSC.out.1]; exact hkS) (rotL Nn j) (some ⟨w1.heap.size, 0, none⟩) j RR (fun i hi => by
        rw [rotL_len] at hi
        rw [rotL_at Nn j i hi, HD.out]
        exact (rot_rem Nn j i hi).2.2.2) (by rw [hset]; exact ((chkA_iff 8 y).1 hs0).1) (by rw [rotL_len]; exact hD16)
      rw [rotL_len] at C
      have r0 := I5.r0
      have r1 := I5.r1
      have HI5 := hide I5
      obtain ⟨Y, hYY⟩ : ∃ Y, alongA y k (rotL Nn j) = Y := ⟨_, rfl⟩
      rw [hYY] at C HE5
      clear RR I5 hs0 hset hrow hTw hz hYY
      go_wp2_with fail
      refine C.mono ?_
      clear C
      rintro e w5 ⟨⟨v, rfl, hcv, hv⟩, hb5⟩
      have NB : Below w0.heap.size w0 w5 := HB0.out.trans ((HI5.out.bel.trans (hb5.mono HI5.out.bel.size)).mono HB0.out.size)
      obtain ⟨z1, m1, z2, m2, rfl, -, -⟩ := (hv w5 NB (Keeps.refl _ _)).form
      have I6 := HI5.out.next hb5
      have p0 := I6.p0
      have p1 := I6.p1
      have f0 := I6.f0
      have f1 := I6.f1
      have HT := hide (I6.put (.slice z1 Y.shape.length m1) (.slice z2 Y.cells.length m2))
      have HCV := hide hcv
      have HF : Hid (∀ u v W, Below w0.heap.size w0 W → Keeps w.heap.size ((w5.setCell ⟨w.heap.size + 2, 0, none⟩ u).setCell ⟨w.heap.size + 2, 1, none⟩ v) W → ArIn (n + 1) 0 W Y (.agg #[.slice z1 Y.shape.length m1, .slice z2 Y.cells.length m2])) := by
        intro u v W hW hK
        exact hv W hW (((keeps_three w5 w.heap.size u v).trans (hK.mono (show w.heap.size ≤ w.heap.size + 3 by omega))).mono HI5.out.size)
      have HFI := hide I6.fin
      clear I6 hv hcv hb5 NB r0 r1
      generalize Y.shape.length = YS at *
      generalize Y.cells.length = YC at *
      go_wp2
      exact bodyPost_ret (v := .tuple #[.agg #[.slice z1 YS m1, .slice z2 YC m2], .int .i64 0]) (by simp [results, Try.results78, go_sem, HT.out.1, HT.out.2]) rfl (gives2k_of HE5.out HCV.out (HF.out _ _) (HFI.out _ _))
end Go.Proofs.Ytmjncdhahdpplaa
namespace Go.Proofs.Ytmjncdhahdpplaa
open Go.ChangeShapes Go.WideShapes Go.ChangeAt Go.RowKit
set_option linter.unusedVariables false
set_option maxRecDepth 100000
theorem run_append_zeros0 (w : World) (L : Nat) (hL : L ≤ 16) (h0 : 0 < L) : ∃ gc cs, (∀ ty, (Builtin.append_ #[22, 3] ty #[.slice none 0 0, .int .i64 (L : Int)]).run Try.prog w = .ok (.slice (some ⟨w.heap.size, 0, none⟩) L gc) (w.drew.alloc (.cells cs 3))) ∧ L ≤ gc ∧ gc ≤ maxLen ∧ cs.size = gc ∧ ∀ i, i < gc → cs[i]? = some (.int .i64 0) := by
  obtain ⟨i, hi, hz, hs, hb⟩ := infoI3
  have hg := grownCap_ge w L 0 3
  refine ⟨grownCap w L 0 3, Builtin.zeroCells #[.int .i64 0] L ++ Builtin.zeroCells #[.int .i64 0] (grownCap w L 0 3 - L), ?_, hg, grownCap_le_maxLen w L 0 3 (by unfold maxLen; omega), ?_, ?_⟩
  · intro ty
    have hn : ¬ ((L : Int) ≤ 0) := by omega
    have hw : IntKind.i64.wrap (L : Int) = (L : Int) := IntWalk.i64_in _ ⟨by omega, by omega⟩
    have h1 : ¬ ((L : Int) < 0) := by omega
    have h2 : ¬ (281474976710656 < (L : Int) * 8) := by omega
    have h4 : ¬ (9223372036854775807 < max (L : Int) 0) := by omega
    have h5 := growslice_fits (need := L) (old := 0) (bytes := 8) (by omega) (by omega)
    have h48 : ¬ (281474976710656 < Builtin.nextslicecap L 0 * 8) := by omega
    have h6 : ¬ L = 0 := by omega
    simp [Builtin.append_, run_underlying Try.underlying22, run_underlying under3, sizeOf, typeInfo, zeroValue, hi, hz, hs, hb, Builtin.lenOf, hw, h1, h2, h48, h6, Question.forced, newRow, grownCap, asInt, asIntOf, Builtin.firstCells]
    rw [if_neg (by omega)]
    rfl
  · rw [Array.size_append, size_zeroCells, size_zeroCells]
    simp
    omega
  · intro i hi
    rw [Array.getElem?_append, size_zeroCells]
    simp only [List.size_toArray, List.length_cons, List.length_nil, Nat.zero_add, Nat.mul_one]
    by_cases h : i < L
    · rw [if_pos h]; simp [Builtin.zeroCells, h, Nat.mod_one]
    · have hh : i - L < grownCap w L 0 3 - L := by omega
      rw [if_neg h]; simp [Builtin.zeroCells, Nat.mod_one, hh]
set_option maxHeartbeats 2000000 in
theorem grow_any (L : Nat) (hL : L ≤ 16) (w : World) : Calls Try.prog 109 #[.slice none 0 0, .int .i64 (L : Int)] w fun e w' => (∃ v, e = .returned v ∧ w'.ownsRow w.heap.size 3 1 v 0 []) ∧ Below w.heap.size w w' := by
  by_cases h0 : L = 0
  · subst h0
    go_enter Try.func109, Try.ntmps109
    go_wp2
    go_ret
    exact ⟨⟨_, rfl, World.ownsRow_nil _ _ _ _⟩, Below.refl _ _⟩
  · obtain ⟨gc, cs, hrun, h1, hmx, h2, h3⟩ := run_append_zeros0 w L hL (by omega)
    have HRUN := hide hrun
    have hp1 : ∀ W, (Instr.sliceAt 22 (.slice none 0 0) none (some (.int .i64 0)) none).run Try.prog W = .ok (.slice none 0 0) W := fun W => part_h (P := Try.prog) Try.underlying22 size3 none 0 0 0 0 rfl (Nat.le_refl _) W
    have hp2 : ∀ W, (Instr.sliceAt 22 (.slice (some ⟨w.heap.size, 0, none⟩) L gc) none (some (.int .i64 0)) none).run Try.prog W = .ok (.slice (some ⟨w.heap.size, 0, none⟩) 0 gc) W := fun W => part_h (P := Try.prog) Try.underlying22 size3 (some ⟨w.heap.size, 0, none⟩) L gc 0 0 rfl (Nat.zero_le _) W
    have HF : Hid ((w.drew.alloc (.cells cs 3)).ownsRow w.heap.size 3 1 (.slice (some ⟨w.heap.size, 0, none⟩) 0 gc) 0 [] ∧ Below w.heap.size w (w.drew.alloc (.cells cs 3))) := by
      refine ⟨⟨by simp, Or.inr ⟨w.heap.size, gc, cs, rfl, Nat.le_refl _, ?_, Nat.zero_le _, hmx, by omega, by simp⟩⟩, ((Below.refl _ _).drew).alloc (Nat.le_refl _) _⟩
      show (w.heap.push _)[w.heap.size]? = _
      simp
    clear hrun h1 h2 h3 hmx
    go_enter Try.func109, Try.ntmps109
    go_wp2_with (at_builtin; refine wpList_append_run (by rfl) (.tmp 20) (.tmp 21) 22 3 rfl _ _ rfl rfl _ _ (HRUN.out _) ?_)
    go_wp2
    go_ret
    exact ⟨⟨_, rfl, HF.out.1⟩, HF.out.2⟩
set_option maxHeartbeats 4000000 in
theorem concat_any {lo lo' : Nat} (l1 l2 : List Int) (a1 a2 : Option Addr) (c1 c2 V : Nat) (w : World) (R1 : Row lo w a1 l1) (R2 : Row lo' w a2 l2) (hV : V < w.heap.size) (v0 : w.cell? ⟨V, 0, none⟩ = some (.slice a1 l1.length c1)) (v1 : w.cell? ⟨V, 1, none⟩ = some (.slice a2 l2.length c2)) (h1 : l1.length ≤ 8) (h2 : l2.length ≤ 8) :
    Calls Try.prog 102 #[.slice (some ⟨V, 0, none⟩) 2 2] w fun e w' => (∃ a cap, e = .returned (.slice a (l1.length + l2.length) cap) ∧ Own1 w w' a cap (l1 ++ l2)) ∧ Below w.heap.size w w' := by
  obtain ⟨i3, hi3, hz30, hz31, hz32⟩ := infoI3
  have HRR := hide (And.intro R1 R2)
  have HVV := hide (And.intro hV (And.intro v0 v1))
  obtain ⟨n1, hn1⟩ : ∃ n1, l1.length = n1 := ⟨_, rfl⟩
  obtain ⟨n2, hn2⟩ : ∃ n2, l2.length = n2 := ⟨_, rfl⟩
  have HNN := hide (And.intro hn1 hn2)
  rw [hn1] at v0 h1 HVV ⊢
  rw [hn2] at v1 h2 HVV ⊢
  have C := grow_any (n1 + n2) (by omega) w
  clear R1 R2 hn1 hn2
  go_enter Try.func102, Try.ntmps102
  go_wp2
  go_loopg [3, 11] 2 (fun g s i wr => wr = w ∧ ∃ j : Nat, g + j = 2 ∧ i = .int .i64 (j : Int) ∧ s = .int .i64 (if j = 0 then 0 else if j = 1 then (n1 : Int) else (n1 : Int) + (n2 : Int)))
  case atStart => exact ⟨rfl, 0, rfl, rfl, rfl⟩
  case round =>
    obtain ⟨hw, j, hg, rfl, rfl⟩ := hrel
    have hw' := hw.symm
    subst hw'
    have hj : j = 0 ∨ j = 1 ∨ j = 2 := by omega
    rcases hj with rfl | rfl | rfl
    · clear C
      go_wp2
      go_roundg 1
      case rel => exact ⟨rfl, 1, by omega, by go_num, by go_num⟩
      case measure => omega
    · clear C
      go_wp2
      go_roundg 0
      case rel => exact ⟨rfl, 2, by omega, by go_num, by go_num⟩
      case measure => omega
    · go_wp2_with fail
      clear v0 v1
      refine C.mono ?_
      clear C
      rintro e w2 ⟨⟨v, rfl, hown⟩, hb2⟩
      have HST := hide (And.intro hb2 hown)
      obtain ⟨a0, c0, rfl⟩ : ∃ a c, v = .slice a 0 c := by obtain ⟨a, c, h, -⟩ := owns_cap hown; exact ⟨a, c, h⟩
      clear hb2 hown
      go_wp2
      go_loopg [6, 27] 2 (fun g mv i wr => ∃ j : Nat, g + j = 2 ∧ i = .int .i64 (j : Int) ∧ Below w.heap.size w wr ∧ (if j = 0 then wr.ownsRow w.heap.size 3 1 mv 0 [] else if j = 1 then wr.ownsRow w.heap.size 3 1 mv n1 (l1.map (Value.int .i64)) else wr.ownsRow w.heap.size 3 1 mv (n1 + n2) ((l1 ++ l2).map (Value.int .i64))))
      case atStart => exact ⟨0, rfl, rfl, HST.out.1, by rw [if_pos rfl]; exact HST.out.2⟩
      case round =>
        clear HST
        obtain ⟨j, hg, rfl, hbw, hown⟩ := hrel
        have u0 := (hbw.cell (p := ⟨V, 0, none⟩) HVV.out.1).trans HVV.out.2.1
        have u1 := (hbw.cell (p := ⟨V, 1, none⟩) HVV.out.1).trans HVV.out.2.2
        have HBW := hide hbw
        have HSZ : Hid (w.heap.size ≤ wr.heap.size) := hbw.size
        have hj : j = 0 ∨ j = 1 ∨ j = 2 := by omega
        rcases hj with rfl | rfl | rfl
        · skip
          rw [if_pos rfl] at hown
          have HOWN := hide hown
          clear hown
          have HLI : Hid (Lies wr a1 (l1.map (Value.int .i64))) := (HRR.out.1.next hbw).lies
          have HLN : Hid ((l1.map (Value.int .i64)).length = n1 * 1) := by unfold Hid; rw [List.length_map, HNN.out.1, Nat.mul_one]
          clear hbw
          go_wp2_with (at_builtin; refine wpList_append_any rfl _ _ 22 rfl w.heap.size 3 i3 (.int .i64 0) 1 8 Try.underlying22 hi3 hz30 hz31 hz32 rfl (by decide) _ 0 [] rfl HOWN.out a1 n1 c1 (l1.map (Value.int .i64)) rfl HLN.out HLI.out ?c3 ?c4 HSZ.out ?_)
          case c3 => unfold maxLen; omega
          case c4 => omega
          intro v' w5 hown5 hb5
          have HF : Hid (Below w.heap.size w w5 ∧ w5.ownsRow w.heap.size 3 1 v' n1 (l1.map (Value.int .i64))) := ⟨HBW.out.trans hb5, by simpa using hown5⟩
          clear hown5 hb5 HOWN HLN HLI HSZ HBW u0 u1
          go_wp2
          go_roundg 1
          case rel => exact ⟨1, by omega, by go_num, HF.out.1, by rw [if_neg (by decide), if_pos rfl]; exact HF.out.2⟩
          case measure => omega
        · skip
          rw [if_neg (by decide), if_pos rfl] at hown
          have HOWN := hide hown
          clear hown
          have HLI : Hid (Lies wr a2 (l2.map (Value.int .i64))) := (HRR.out.2.next hbw).lies
          have HLN : Hid ((l2.map (Value.int .i64)).length = n2 * 1) := by unfold Hid; rw [List.length_map, HNN.out.2, Nat.mul_one]
          clear hbw
          go_wp2_with (at_builtin; refine wpList_append_any rfl _ _ 22 rfl w.heap.size 3 i3 (.int .i64 0) 1 8 Try.underlying22 hi3 hz30 hz31 hz32 rfl (by decide) _ n1 (l1.map (Value.int .i64)) rfl HOWN.out a2 n2 c2 (l2.map (Value.int .i64)) rfl HLN.out HLI.out ?c3 ?c4 HSZ.out ?_)
          case c3 => unfold maxLen; omega
          case c4 => omega
          intro v' w5 hown5 hb5
          have HF : Hid (Below w.heap.size w w5 ∧ w5.ownsRow w.heap.size 3 1 v' (n1 + n2) ((l1 ++ l2).map (Value.int .i64))) := ⟨HBW.out.trans hb5, by rw [List.map_append]; exact hown5⟩
          clear hown5 hb5 HOWN HLN HLI HSZ HBW u0 u1
          go_wp2
          go_roundg 0
          case rel => exact ⟨2, by omega, by go_num, HF.out.1, by rw [if_neg (by decide), if_neg (by decide)]; exact HF.out.2⟩
          case measure => omega
        · skip
          rw [if_neg (by decide), if_neg (by decide), ← HNN.out.1, ← HNN.out.2, ← List.length_append] at hown
          obtain ⟨a, cap, rfl, ho⟩ := own1_of (by rw [List.length_append, HNN.out.1, HNN.out.2]; omega) hown
          have HF := hide (And.intro ho hbw)
          rw [List.length_append, HNN.out.1, HNN.out.2]
          clear hown ho hbw u0 u1
          go_wp2
          go_ret
          exact ⟨⟨_, _, rfl, HF.out.1⟩, HF.out.2⟩
end Go.Proofs.Ytmjncdhahdpplaa
namespace Go.Proofs.Ytmjncdhahdpplaa
open Go.ChangeShapes Go.WideShapes Go.ChangeAt Go.RowKit
set_option linter.unusedVariables false
set_option maxRecDepth 100000
set_option maxHeartbeats 4000000 in
theorem clone_own {lo : Nat} (l : List Int) (p : Addr) (cap : Nat) (w : World) (R : Row lo w (some p) l) (hl : l.length ≤ 16) :
    Calls Try.prog 106 #[.slice (some p) l.length cap] w fun e w' => (∃ v, e = .returned v ∧ w'.ownsRow w.heap.size 3 1 v l.length (l.map (Value.int .i64))) ∧ Below w.heap.size w w' := by
  obtain ⟨i3, hi3, hz30, hz31, hz32⟩ := infoI3
  obtain ⟨W2, e2⟩ : ∃ W2, w.alloc (.cells #[] 3) = W2 := ⟨_, rfl⟩
  have B2 : Below w.heap.size w W2 := by rw [← e2]; exact one_alloc _ _
  have HO : Hid (W2.ownsRow w.heap.size 3 1 (.slice (some ⟨w.heap.size, 0, none⟩) 0 0) 0 []) := by
    have := World.ownsRow_lit (base := w.heap.size) (e := 3) (size := 1) w #[] 0 (Nat.le_refl _) (by unfold maxLen; omega) rfl
    rw [e2] at this
    exact this
  have HL := hide (R.next B2).lies
  have hsl : (l.map (Value.int .i64)).length = l.length * 1 := by rw [List.length_map]; omega
  have HB2 := hide B2
  obtain ⟨L, hL⟩ : ∃ L, l.length = L := ⟨_, rfl⟩
  rw [hL] at hl hsl ⊢
  clear R B2 hL
  have hq : ∀ W, (binOp .eql 22 (.slice (some p) L cap) (.slice none 0 0)).run Try.prog W = .ok (.bool false) W := fun W => Go.Lib.run_eql_slice_nil W 22 3 (some p) L cap 0 0 Try.underlying22
  go_enter Try.func106, Try.ntmps106
  go_wp2_with (at_builtin; refine wpList_append_any rfl _ _ 22 rfl w.heap.size 3 i3 (.int .i64 0) 1 8 Try.underlying22 hi3 hz30 hz31 hz32 rfl (by decide) (.slice (some ⟨w.heap.size, 0, none⟩) 0 0) 0 [] rfl HO.out (some p) L cap (l.map (Value.int .i64)) rfl hsl HL.out ?c3 ?c4 HB2.out.size ?_)
  case c3 => unfold maxLen; omega
  case c4 => omega
  intro v' w3 hown hb
  have HF : Hid (w3.ownsRow w.heap.size 3 1 v' L (l.map (Value.int .i64)) ∧ Below w.heap.size w w3) := ⟨by simpa using hown, HB2.out.trans hb⟩
  clear hown hb HL hsl
  go_wp2
  go_ret
  exact ⟨⟨_, rfl, HF.out.1⟩, HF.out.2⟩
set_option maxHeartbeats 4000000 in
theorem insertE_own {base : Nat} (l : List Int) (a : Option Addr) (cap V : Nat) (W : World) (hown : W.ownsRow base 3 1 (.slice a l.length cap) l.length (l.map (Value.int .i64))) (hl : l.length ≤ 8) (hV : W.cell? ⟨V, 0, none⟩ = some (.int .i64 1)) (hVl : V < W.heap.size) (hbase : base ≤ W.heap.size) :
    Calls Try.prog 66 #[.slice a l.length cap, .int .i64 (l.length : Int), .slice (some ⟨V, 0, none⟩) 1 1] W fun e w' => (∃ a' cap', e = .returned (.slice a' (l.length + 1) cap') ∧ Row base w' a' (l ++ [1])) ∧ Below base W w' := by
  obtain ⟨i3, hi3, hz30, hz31, hz32⟩ := infoI3
  have HOWN := hide hown
  have HB := hide hbase
  have HLI : Hid (Lies W (some ⟨V, 0, none⟩) [.int .i64 1]) := (row_one (lo := 0) hVl (Nat.zero_le _) hV).lies
  obtain ⟨a', cap', he, hcap⟩ := owns_cap hown
  simp only [Value.slice.injEq] at he
  obtain ⟨rfl, -, rfl⟩ := he
  obtain ⟨L, hL⟩ : ∃ L, l.length = L := ⟨_, rfl⟩
  have HL := hide hL
  rw [hL] at HOWN hl hcap ⊢
  have hbe : ((L : Int) == (L : Int)) = true := beq_self_eq_true _
  have hp1 : ∀ W, (Instr.sliceAt 22 (.slice a L cap) (some (.int .i64 (L : Int))) none none).run Try.prog W = .ok (.slice (subA a L cap 1) (L - L) (cap - L)) W := fun W => part_l (P := Try.prog) Try.underlying22 size3 a L cap L (L : Int) rfl (by omega) W
  clear hown hbase hL hV hVl
  go_enter Try.func66, Try.ntmps66
  go_wp2_with (at_builtin; refine wpList_append_any rfl _ _ 22 rfl base 3 i3 (.int .i64 0) 1 8 Try.underlying22 hi3 hz30 hz31 hz32 rfl (by decide) _ L _ rfl HOWN.out (some ⟨V, 0, none⟩) 1 1 [.int .i64 1] rfl rfl HLI.out ?c3 ?c4 HB.out ?_)
  case c3 => unfold maxLen; omega
  case c4 => omega
  intro v' w3 hown hb
  have hm : l.map (Value.int .i64) ++ [.int .i64 1] = (l ++ [1]).map (Value.int .i64) := by simp
  rw [hm] at hown
  have hl2 : (l ++ [1]).length = L + 1 := by rw [List.length_append, HL.out]; rfl
  have hown' : w3.ownsRow base 3 1 v' (l ++ [1]).length ((l ++ [1]).map (Value.int .i64)) := by rw [hl2]; exact hown
  obtain ⟨a', cap', rfl, RR⟩ := owns_rowE (l ++ [1]) (by rw [hl2]; omega) hown'
  rw [hl2]
  have HF := hide (And.intro RR hb)
  clear hown hown' hb RR hm hl2
  go_wp2
  go_ret
  exact ⟨⟨_, _, rfl, HF.out.1⟩, HF.out.2⟩
set_option maxHeartbeats 4000000 in
theorem insert0_own {base : Nat} (l : List Int) (g cap V : Nat) (W : World) (hown : W.ownsRow base 3 1 (.slice (some ⟨g, 0, none⟩) l.length cap) l.length (l.map (Value.int .i64))) (h0 : 0 < l.length) (hl : l.length ≤ 8) (hVh : W.heap[V]? = some (.cells #[.int .i64 1] 3)) (hVg : V ≠ g) (hbase : base ≤ W.heap.size) :
    Calls Try.prog 66 #[.slice (some ⟨g, 0, none⟩) l.length cap, .int .i64 0, .slice (some ⟨V, 0, none⟩) 1 1] W fun e w' => (∃ a' cap', e = .returned (.slice a' (l.length + 1) cap') ∧ Row base w' a' (1 :: l)) ∧ Below base W w' := by
  have hV : W.cell? ⟨V, 0, none⟩ = some (.int .i64 1) := cell_of_heap hVh rfl
  have hVl : V < W.heap.size := (Array.getElem?_eq_some_iff.1 hVh).1
  obtain ⟨hxl, hor⟩ := hown
  rcases hor with ⟨h, -⟩ | ⟨g', cap', cur, he, hbg, hgh, hn, hmax, hcs, htk⟩
  · simp at h
  simp only [Value.slice.injEq, Option.some.injEq, Addr.mk.injEq, and_true, true_and] at he
  obtain ⟨rfl, rfl⟩ := he
  have hgl : g < W.heap.size := (Array.getElem?_eq_some_iff.1 hgh).1
  rw [Nat.mul_one] at hcs htk
  have hcell : ∀ i, i < l.length → W.cell? ⟨g, i, none⟩ = some (.int .i64 (gI l i)) := fun i hi => by
    refine cell_of_heap hgh ?_
    have h1 : (cur.toList.take l.length)[i]? = some (.int .i64 (gI l i)) := by rw [htk]; simp [gI, hi]
    rw [List.getElem?_take_of_lt hi] at h1
    simpa using h1
  by_cases hroom : cap = l.length
  · subst hroom
    refine (insert_any l g V W hl hcell hV hVl hgl).mono ?_
    rintro e w' ⟨⟨a, c, rfl, R⟩, hb⟩
    exact ⟨⟨a, c, rfl, R.low hbase⟩, hb.mono hbase⟩
  have hsome : ∀ i, i < cap → (W.cell? ⟨g, i, none⟩).isSome = true := fun i hi => by
    rw [cell_of_heap hgh (v := cur[i]'(by omega)) (by simp [hcs, hi])]; rfl
  have hfz : ∀ i, W.frozen? ⟨g, i, none⟩ = false := fun i => frozen_of_heap hgh
  have hov : ∀ lb cb, (callFunc 91 #[.slice (some ⟨V, 0, none⟩) 1 1, .slice (some ⟨g, 1, none⟩) lb cb]).run Try.prog W = .ok (.value (.bool false)) W := fun lb cb => by
    obtain ⟨i3, hi3, hz30, hz31, hz32⟩ := infoI3
    rw [run_callFunc_extern Try.func91 (by kernel_rfl) (by kernel_rfl) (by kernel_rfl) (e := Extern.SlicesOverlaps.overlaps #[22, 22] #[4]) (by kernel_rfl),
      Lib.run_overlaps_apart W 22 4 3 Try.underlying22 1 (fun w => by simp [Go.sizeOf, typeInfo, hi3, hz31]) ⟨V, 0, none⟩ ⟨g, 1, none⟩ 1 1 lb cb hVg 3 3 1 cap (by unfold World.shape?; rw [hVh]; rfl) (by unfold World.shape?; rw [hgh]; simp [hcs]) (by omega) (frozen_of_heap hVh) (frozen_of_heap hVh)]
    rfl
  have size3' : (Try.prog.info? 3).map (·.size) = some 1 := size3
  have hml : (l.map (Value.int .i64)).length = l.length := by simp
  have hmv : ∀ j v, (l.map (Value.int .i64))[j]? = some v → j < l.length ∧ v = .int .i64 (gI l j) := by
    intro j v hv
    have hj : j < l.length := by
      rcases Nat.lt_or_ge j l.length with h' | h'
      · exact h'
      · simp [List.getElem?_eq_none h'] at hv
    refine ⟨hj, ?_⟩
    simp [hj] at hv
    simp [gI, hj, ← hv]
  have hc1 := fun ty => run_copy_cells (P := Try.prog) W.drew 22 22 ty 3 g 1 l.length (cap - 1) ⟨g, 0, none⟩ (l.length + 1) cap (l.map (Value.int .i64)) Try.underlying22 size3' (by rw [hml]; simp only [Nat.min_def]; split <;> omega) (by
    intro j v hv
    obtain ⟨hj, rfl⟩ := hmv j v hv
    rw [add_off, Nat.zero_add]
    exact hcell j hj) (by intro j hj; rw [hml] at hj; exact hsome (1 + j) (by omega)) (by intro j hj; exact hfz _) (by intro v hv; obtain ⟨z, _, rfl⟩ := List.mem_map.1 hv; rfl)
  rw [hml] at hc1
  obtain ⟨WA, eA⟩ : ∃ WA, W.drew.setCells g 1 (l.map (Value.int .i64)) = WA := ⟨_, rfl⟩
  have hA0 : ∀ b, b ≠ g → ∀ i, WA.cell? ⟨b, i, none⟩ = W.cell? ⟨b, i, none⟩ := fun b hb i => by rw [← eA]; exact World.cell?_setCells_out g _ _ _ _ (fun h => absurd h hb)
  have hAg : ∀ i, i < cap → (WA.cell? ⟨g, i, none⟩).isSome = true := fun i hi => by
    rw [← eA]
    by_cases h : 1 ≤ i ∧ i < 1 + l.length
    · have := setCells_cell g (l.map (Value.int .i64)) 1 W.drew (i - 1) (.int .i64 (gI l (i - 1))) (by rw [hml]; omega) (by simp [gI, show i - 1 < l.length by omega]) (fun j hj => by rw [hml] at hj; exact hsome (1 + j) (by omega))
      rw [show 1 + (i - 1) = i by omega] at this
      rw [this]; rfl
    · rw [World.cell?_setCells_out g _ _ _ _ (fun _ _ => by rw [hml]; show i < 1 ∨ 1 + l.length ≤ i; omega)]
      exact hsome i hi
  have hAf : ∀ i, WA.frozen? ⟨g, i, none⟩ = false := fun i => by rw [← eA, World.frozen?_setCells]; exact hfz i
  rw [eA] at hc1
  have hc2 := fun ty => run_copy_cells (P := Try.prog) WA 22 22 ty 3 g 0 (l.length + 1) cap ⟨V, 0, none⟩ 1 1 [.int .i64 1] Try.underlying22 size3' (by simp) (by
    intro j v hv
    cases j with
    | zero => simp at hv; subst hv; rw [add_off]; exact (hA0 V hVg 0).trans hV
    | succ j => simp at hv) (by intro j hj; simp at hj; subst hj; exact hAg _ (by omega)) (by intro j hj; exact hAf _) (by intro v hv; simp at hv; subst hv; rfl)
  obtain ⟨WC, eC⟩ : ∃ WC, WA.setCells g 0 [.int .i64 1] = WC := ⟨_, rfl⟩
  rw [eC] at hc2
  have sC : WC.heap.size = W.heap.size := by rw [← eC, (setCells_block _ _ _ _).1, ← eA, (setCells_block _ _ _ _).1]; rfl
  have HF : Hid (Row base WC (some ⟨g, 0, none⟩) (1 :: l) ∧ Below base W WC) := by
    refine ⟨⟨by simp; omega, Or.inr ⟨g, 0, rfl, hbg, by omega, fun i hi => ?_⟩⟩, ?_⟩
    · rw [Nat.zero_add]
      cases i with
      | zero =>
        rw [← eC]
        show (WA.setCell ⟨g, 0, none⟩ (.int .i64 1)).cell? _ = _
        exact World.cell?_setCell_same' _ _ _ (hAg 0 (by omega))
      | succ i =>
        have hil : i < l.length := by simpa using hi
        rw [← eC]
        show (WA.setCell ⟨g, 0, none⟩ (.int .i64 1)).cell? _ = _
        rw [World.cell?_setCell_other _ _ _ _ (by simp), ← eA]
        have := setCells_cell g (l.map (Value.int .i64)) 1 W.drew i (.int .i64 (gI l i)) (by rw [hml]; exact hil) (by simp [gI, hil]) (fun j hj => by rw [hml] at hj; exact hsome (1 + j) (by omega))
        rw [Nat.add_comm 1 i] at this
        rw [this]
        rfl
    · rw [← eC, ← eA]
      have h1 : ∀ (vs : List Value) (o : Nat) (X : World), Below base W X → Below base W (X.setCells g o vs) := by
        intro vs
        induction vs with
        | nil => intro o X h; exact h
        | cons u us ih => intro o X h; exact ih _ _ (h.setCell (p := ⟨g, o, none⟩) hbg u)
      exact h1 _ _ _ (h1 _ _ _ (Below.refl _ _).drew)
  obtain ⟨L, hL⟩ : ∃ L, l.length = L := ⟨_, rfl⟩
  rw [hL] at hc1 hc2 hroom hn h0 hl ⊢
  have r1 : ¬ cap = 1 := by omega
  have r0 : ¬ cap = 0 := by omega
  have rL : L + 1 ≤ cap := by omega
  have rI : ¬ (cap : Int) < (L : Int) + 1 := by omega
  have c63 : cap ≤ 9223372036854775807 := by unfold maxLen at hmax; omega
  have b0 : ((0 : Int) == (L : Int)) = false := by simp; omega
  clear hAf hAg hA0 eA eC hmv hml hsome hfz hcell hV hVl hxl hgh hcs htk hVh hmax hL sC
  go_enter Try.func66, Try.ntmps66
  go_wp2_with (simp only [hov])
  go_region
  all_goals
    go_wp2
    go_ret
    exact ⟨⟨_, _, rfl, HF.out.1⟩, HF.out.2⟩
end Go.Proofs.Ytmjncdhahdpplaa
namespace Go.Proofs.Ytmjncdhahdpplaa
open Go.ChangeShapes Go.WideShapes Go.ChangeAt Go.RowKit
set_option linter.unusedVariables false
set_option maxRecDepth 100000
def besR (s o : List Int) (k : Nat) : List Int × Int :=
  if o.length ≤ s.length then (s, 0) else if s.length = 0 then (o.set k 1, 0) else if o.length = s.length + 1 then (s.take k ++ 1 :: s.drop k, 0) else ([], 6)
def BesIs (s o : List Int) (k : Nat) (w : World) (e : Ending) (w' : World) : Prop := (∃ a n c, e = .returned (.tuple #[.slice a n c, .int .i64 (besR s o k).2]) ∧ n = (besR s o k).1.length ∧ Row 0 w' a (besR s o k).1) ∧ Below w.heap.size w w'
theorem besIs_of {s o l : List Int} {k n c : Nat} {E : Int} {a : Option Addr} {w w' : World} (h : besR s o k = (l, E)) (hn : n = l.length) (R : Row 0 w' a l) (hb : Below w.heap.size w w') : BesIs s o k w (.returned (.tuple #[.slice a n c, .int .i64 E])) w' := by
  unfold BesIs; rw [h]; exact ⟨⟨_, _, _, rfl, hn, R⟩, hb⟩
set_option maxHeartbeats 4000000 in
theorem beside_any {lo lo' : Nat} (s o : List Int) (a b : Option Addr) (c d k : Nat) (w : World) (R : Row lo w a s) (R' : Row lo' w b o) (hs : s.length ≤ 8) (ho : o.length ≤ 8) (hk : s.length < o.length → k = 0 ∨ k + 1 = o.length) :
    Calls Try.prog 108 #[.slice a s.length c, .slice b o.length d, .int .i64 (k : Int)] w fun e w' => BesIs s o k w e w' := by
  have HR := hide (And.intro R R')
  have HB : Hid (besR s o k = if o.length ≤ s.length then (s, 0) else if s.length = 0 then (o.set k 1, 0) else if o.length = s.length + 1 then (s.take k ++ 1 :: s.drop k, 0) else ([], 6)) := rfl
  obtain ⟨SS, hSS⟩ : ∃ z, s.length = z := ⟨_, rfl⟩
  obtain ⟨SO, hSO⟩ : ∃ z, o.length = z := ⟨_, rfl⟩
  have HL := hide (And.intro hSS hSO)
  rw [hSS, hSO] at HB hk
  rw [hSS] at hs ⊢
  rw [hSO] at ho ⊢
  clear R R' hSS hSO
  by_cases h1 : SO ≤ SS
  · have HF : Hid (BesIs s o k w (.returned (.tuple #[.slice a SS c, .int .i64 0])) w) := besIs_of (l := s) (by rw [HB.out, if_pos h1]) HL.out.1.symm (HR.out.1.low (Nat.zero_le _)) (Below.refl _ _)
    have hd : (SO : Int) - (SS : Int) ≤ 0 := by omega
    clear HB HR hk
    go_enter Try.func108, Try.ntmps108
    go_wp2
    exact bodyPost_ret (v := .tuple #[.slice a SS c, .int .i64 0]) (by simp [results, Try.results108, go_sem]) rfl HF.out
  have hd : ¬ (SO : Int) - (SS : Int) ≤ 0 := by omega
  have hkk := hk (by omega)
  by_cases h2 : SS = 0
  · have hb2 : ((SS : Int) == 0) = true := by simp [h2]
    have C := clone_any o b d w HR.out.2 (by rw [HL.out.2]; omega)
    rw [HL.out.2] at C
    have HE : Hid (besR s o k = (o.set k 1, 0)) := by unfold Hid; rw [HB.out, if_neg h1, if_pos h2]
    have hko : k < SO := by omega
    clear HB hk h2
    go_enter Try.func108, Try.ntmps108
    go_wp2_with fail
    refine C.mono ?_
    clear C
    rintro e w1 ⟨⟨a', cap', rfl, hO⟩, hb1⟩
    obtain ⟨g, rfl, hg1, hg2, SC⟩ := hO.2.1 (by rw [HL.out.2]; omega)
    obtain ⟨u0, u1⟩ := SC k (by rw [HL.out.2]; exact hko)
    have SC2 := SC.set k (by rw [HL.out.2]; exact hko) 1
    obtain ⟨w2, e2⟩ : ∃ w2, w1.setCell ⟨g, k, none⟩ (.int .i64 1) = w2 := ⟨_, rfl⟩
    rw [e2] at SC2
    have hs2 : w2.heap.size = w1.heap.size := by rw [← e2]; simp
    have hle : (o.set k 1).length = SO := by rw [List.length_set, HL.out.2]
    have HF : Hid (BesIs s o k w (.returned (.tuple #[.slice (some ⟨g, 0, none⟩) SO cap', .int .i64 0])) w2) := besIs_of HE.out hle.symm (SC2.row (by omega) (Nat.zero_le _) (by rw [hle]; omega)) (by rw [← e2]; exact hb1.setCell (p := ⟨g, k, none⟩) hg1 _)
    generalize gI o k = z0 at *
    clear hO SC SC2 hg1 hg2 hs2 hle hb1 HR HE
    go_wp2
    exact bodyPost_ret (v := .tuple #[.slice (some ⟨g, 0, none⟩) SO cap', .int .i64 0]) (by simp [results, Try.results108, go_sem]) rfl HF.out
  have hb2 : ((SS : Int) == 0) = false := by simp; omega
  by_cases h3 : SO = SS + 1
  · have hd1 : (SO : Int) - (SS : Int) = 1 := by omega
    have HE : Hid (besR s o k = (s.take k ++ 1 :: s.drop k, 0)) := by unfold Hid; rw [HB.out, if_neg h1, if_neg h2, if_pos h3]
    obtain ⟨pb, po, rfl, -, -⟩ := row_at HR.out.1 (j := 0) (by rw [HL.out.1]; omega)
    have C := clone_own s ⟨pb, po, none⟩ c w HR.out.1 (by rw [HL.out.1]; omega)
    rw [HL.out.1] at C
    clear HB hk
    go_enter Try.func108, Try.ntmps108
    go_wp2_with fail
    refine C.mono ?_
    clear C
    rintro e w1 ⟨⟨v, rfl, hown⟩, hb1⟩
    have hown' := hown
    obtain ⟨g, cp, rfl, hg1, hg2⟩ := owns_form1' hown (by omega)
    have own2 := hown.alloc (.cells #[.int .i64 1] 3)
    obtain ⟨W2, e2⟩ : ∃ W2, w1.alloc (.cells #[.int .i64 1] 3) = W2 := ⟨_, rfl⟩
    have hVh : W2.heap[w1.heap.size]? = some (.cells #[.int .i64 1] 3) := by rw [← e2]; exact Array.getElem?_push_size
    rw [e2] at own2
    have hs2 : W2.heap.size = w1.heap.size + 1 := by rw [← e2]; simp
    have hbW : Below w.heap.size w W2 := by rw [← e2]; exact hb1.alloc hb1.size _
    have CI : Calls Try.prog 66 #[.slice (some ⟨g, 0, none⟩) SS cp, .int .i64 (k : Int), .slice (some ⟨w1.heap.size, 0, none⟩) 1 1] W2 fun e w' => (∃ a' cap', e = .returned (.slice a' (SS + 1) cap') ∧ Row w.heap.size w' a' (s.take k ++ 1 :: s.drop k)) ∧ Below w.heap.size W2 w' := by
      rcases hkk with rfl | hkl
      · have := insert0_own (base := w.heap.size) s g cp w1.heap.size W2 (by rw [HL.out.1]; exact own2) (by rw [HL.out.1]; omega) (by rw [HL.out.1]; exact hs) hVh (by omega) (by omega)
        rw [HL.out.1] at this
        exact this
      · have hk' : k = SS := by omega
        subst hk'
        have := insertE_own (base := w.heap.size) s (some ⟨g, 0, none⟩) cp w1.heap.size W2 (by rw [HL.out.1]; exact own2) (by rw [HL.out.1]; exact hs) (cell_of_heap hVh rfl) (by omega) (by omega)
        rw [HL.out.1] at this
        have e : s.take k ++ 1 :: s.drop k = s ++ [1] := by
          rw [← HL.out.1, List.take_length, List.drop_length]
        rw [e]
        exact this
    have HLE : Hid ((s.take k ++ 1 :: s.drop k).length = SS + 1) := by
      have := congrArg List.length (List.take_append_drop k s)
      rw [List.length_append] at this
      unfold Hid
      rw [List.length_append, List.length_cons, ← HL.out.1]; omega
    have HBW := hide hbW
    clear hown hown' own2 hVh hbW hb1 hg1 hg2 HR hs2
    go_wp2_with fail
    clear e2
    refine CI.mono ?_
    clear CI
    rintro e w3 ⟨⟨a', cap', rfl, RR⟩, hb3⟩
    have HF : Hid (BesIs s o k w (.returned (.tuple #[.slice a' (SS + 1) cap', .int .i64 0])) w3) := besIs_of HE.out HLE.out.symm (RR.low (Nat.zero_le _)) (HBW.out.trans hb3)
    clear RR hb3 HE HLE HBW
    go_wp2
    exact bodyPost_ret (v := .tuple #[.slice a' (SS + 1) cap', .int .i64 0]) (by simp [results, Try.results108, go_sem]) rfl HF.out
  · have hd1 : ¬ (SO : Int) - (SS : Int) = 1 := by omega
    have HF : Hid (BesIs s o k w (.returned (.tuple #[.slice none 0 0, .int .i64 6])) w) := besIs_of (l := []) (by rw [HB.out, if_neg h1, if_neg h2, if_neg h3]) rfl (row_nil _ _ _) (Below.refl _ _)
    clear HB HR hk
    go_enter Try.func108, Try.ntmps108
    go_wp2
    exact bodyPost_ret (v := .tuple #[.slice none 0 0, .int .i64 6]) (by simp [results, Try.results108, go_sem]) rfl HF.out
theorem bes_len {s o : List Int} {k : Nat} (h : (besR s o k).2 = 0) : (besR s o k).1.length = max s.length o.length := by
  unfold besR at h ⊢
  by_cases h1 : o.length ≤ s.length
  · rw [if_pos h1]; show s.length = _; omega
  rw [if_neg h1] at h ⊢
  by_cases h2 : s.length = 0
  · rw [if_pos h2]; show (o.set k 1).length = _; rw [List.length_set]; omega
  rw [if_neg h2] at h ⊢
  by_cases h3 : o.length = s.length + 1
  · rw [if_pos h3]
    show (s.take k ++ 1 :: s.drop k).length = _
    have := congrArg List.length (List.take_append_drop k s)
    rw [List.length_append] at this
    rw [List.length_append, List.length_cons]; omega
  · rw [if_neg h3] at h; exact absurd h (by decide)
def fitF (A B : List Int) (k i : Nat) : Int := if ¬ i = k ∧ ¬ gI A i = gI B i then 7 else 0
def fitR (s o : List Int) (k : Nat) : List Int × List Int × Int :=
  if ¬ (besR s o k).2 = 0 then ([], [], (besR s o k).2) else if ¬ (besR o s k).2 = 0 then ([], [], (besR o s k).2) else
  if ¬ firstUp (fitF (besR s o k).1 (besR o s k).1 k) (besR s o k).1.length = 0 then ([], [], 7) else ((besR s o k).1, (besR o s k).1, 0)
def FitIs (s o : List Int) (k : Nat) (w : World) (e : Ending) (w' : World) : Prop := (∃ a n c a2 n2 c2, e = .returned (.tuple #[.slice a n c, .slice a2 n2 c2, .int .i64 (fitR s o k).2.2]) ∧ n = (fitR s o k).1.length ∧ Row 0 w' a (fitR s o k).1 ∧ n2 = (fitR s o k).2.1.length ∧ Row 0 w' a2 (fitR s o k).2.1) ∧ Below w.heap.size w w'
theorem fitIs_of {s o l l2 : List Int} {k n c n2 c2 : Nat} {E : Int} {a a2 : Option Addr} {w w' : World} (h : fitR s o k = (l, l2, E)) (hn : n = l.length) (R : Row 0 w' a l) (hn2 : n2 = l2.length) (R2 : Row 0 w' a2 l2) (hb : Below w.heap.size w w') : FitIs s o k w (.returned (.tuple #[.slice a n c, .slice a2 n2 c2, .int .i64 E])) w' := by
  unfold FitIs; rw [h]; exact ⟨⟨_, _, _, _, _, _, rfl, hn, R, hn2, R2⟩, hb⟩
set_option maxHeartbeats 4000000 in
theorem fitted_any {lo lo' : Nat} (s o : List Int) (a b : Option Addr) (c d k : Nat) (w : World) (R : Row lo w a s) (R' : Row lo' w b o) (hs : s.length ≤ 8) (ho : o.length ≤ 8) (hk1 : s.length < o.length → k = 0 ∨ k + 1 = o.length) (hk2 : o.length < s.length → k = 0 ∨ k + 1 = s.length) :
    Calls Try.prog 99 #[.slice a s.length c, .slice b o.length d, .int .i64 (k : Int)] w fun e w' => FitIs s o k w e w' := by
  have C1 := beside_any s o a b c d k w R R' hs ho hk1
  have HC2 : Hid (∀ W, Below w.heap.size w W → _) := fun W (h : Below w.heap.size w W) => beside_any o s b a d c k W (R'.next h) (R.next h) ho hs hk2
  have HL1 := hide (bes_len (s := s) (o := o) (k := k))
  have HL2 := hide (bes_len (s := o) (o := s) (k := k))
  have HF : Hid (fitR s o k = if ¬ (besR s o k).2 = 0 then ([], [], (besR s o k).2) else if ¬ (besR o s k).2 = 0 then ([], [], (besR o s k).2) else if ¬ firstUp (fitF (besR s o k).1 (besR o s k).1 k) (besR s o k).1.length = 0 then ([], [], 7) else ((besR s o k).1, (besR o s k).1, 0)) := rfl
  unfold BesIs at C1 HC2
  obtain ⟨⟨A, EA⟩, hA⟩ : ∃ p, besR s o k = p := ⟨_, rfl⟩
  obtain ⟨⟨B, EB⟩, hB⟩ : ∃ p, besR o s k = p := ⟨_, rfl⟩
  rw [hA] at C1 HL1 HF
  rw [hB] at HC2 HL2 HF
  simp only at C1 HC2 HL1 HL2 HF
  have HM : Hid (EA = 0 → EB = 0 → B.length = A.length ∧ A.length ≤ 8) := fun h1 h2 => by
    have a1 := HL1.out h1
    have a2 := HL2.out h2
    omega
  clear R R' hA hB HL1 HL2 hk1 hk2
  generalize s.length = SS at *
  generalize o.length = SO at *
  go_enter Try.func99, Try.ntmps99
  go_wp2_with fail
  refine C1.mono ?_
  clear C1
  rintro e w1 ⟨⟨a1, n1, c1, rfl, hn1, R1⟩, hb1⟩
  by_cases h1 : EA = 0
  case neg =>
    have hne : (EA == 0) = false := beq_eq_false_iff_ne.2 h1
    have HG : Hid (FitIs s o k w (.returned (.tuple #[.slice none 0 0, .slice none 0 0, .int .i64 EA])) w1) := fitIs_of (by rw [HF.out, if_pos h1]) rfl (row_nil _ _ _) rfl (row_nil _ _ _) hb1
    clear R1 hb1 HF HC2 hn1
    go_wp2
    exact bodyPost_ret (v := .tuple #[.slice none 0 0, .slice none 0 0, .int .i64 EA]) (by simp [results, Try.results99, go_sem]) rfl HG.out
  subst h1
  have C2 := HC2.out w1 hb1
  have H1 := hide (And.intro R1 (And.intro hb1 hn1))
  clear R1 hb1 hn1 HC2
  go_wp2_with fail
  refine C2.mono ?_
  clear C2
  rintro e w2 ⟨⟨a2, n2, c2, rfl, hn2, R2⟩, hb2⟩
  have hbW := H1.out.2.1.trans (hb2.mono H1.out.2.1.size)
  by_cases h2 : EB = 0
  case neg =>
    have hne : (EB == 0) = false := beq_eq_false_iff_ne.2 h2
    have HG : Hid (FitIs s o k w (.returned (.tuple #[.slice none 0 0, .slice none 0 0, .int .i64 EB])) w2) := fitIs_of (by rw [HF.out, if_neg (by simp), if_pos h2]) rfl (row_nil _ _ _) rfl (row_nil _ _ _) hbW
    clear R2 hb2 HF hn2 H1 hbW
    go_wp2
    exact bodyPost_ret (v := .tuple #[.slice none 0 0, .slice none 0 0, .int .i64 EB]) (by simp [results, Try.results99, go_sem]) rfl HG.out
  subst h2
  have hlen := HM.out (by first | rfl | trivial) (by first | rfl | trivial)
  have hn1 := H1.out.2.2
  have hn21 : n2 = n1 := by omega
  subst hn21
  have h8 : n2 ≤ 8 := by omega
  have H2 := hide (And.intro (H1.out.1.next hb2) (And.intro R2 (And.intro hbW (And.intro hn1 hn2))))
  have HF2 : Hid (fitR s o k = if ¬ firstUp (fitF A B k) n2 = 0 then ([], [], 7) else (A, B, 0)) := by unfold Hid; rw [HF.out, if_neg (by simp), if_neg (by simp), ← hn1]
  clear R2 hb2 HF hn2 H1 hbW hlen hn1 HM
  go_wp2
  go_loopg [35] n2 (fun g i wr => ∃ j : Nat, g + j = n2 ∧ i = .int .i64 (j : Int) ∧ firstUp (fitF A B k) j = 0 ∧ Below w2.heap.size w2 wr)
  case atStart => exact ⟨0, rfl, rfl, rfl, Below.refl _ _⟩
  case round =>
    obtain ⟨j, hgj, rfl, hfu, hBr⟩ := hrel
    by_cases hlt : j < n2
    · obtain ⟨b1', o1, rfl, hb1', hc1⟩ := row_at H2.out.1 (j := j) (by rw [← H2.out.2.2.2.1]; exact hlt)
      obtain ⟨b2', o2, rfl, hb2', hc2⟩ := row_at H2.out.2.1 (j := j) (by rw [← H2.out.2.2.2.2]; exact hlt)
      have u1 := (hBr.cell (p := ⟨b1', o1 + j, none⟩) hb1').trans hc1
      have u2 := (hBr.cell (p := ⟨b2', o2 + j, none⟩) hb2').trans hc2
      have HLF : Hid (fitF A B k j = if ¬ j = k ∧ ¬ A[j]?.getD 0 = B[j]?.getD 0 then 7 else 0) := rfl
      generalize A[j]?.getD 0 = x1 at *
      generalize B[j]?.getD 0 = x2 at *
      have HBr := hide hBr
      by_cases hjk : j = k
      · have hb : ((j : Int) != (k : Int)) = false := by rw [hjk]; simp
        have HS : Hid (firstUp (fitF A B k) (j + 1) = 0) := by unfold Hid; rw [firstUp_step hfu, HLF.out, if_neg (fun h => h.1 hjk)]
        clear hc1 hc2 hBr hjk HLF
        go_wp2
        go_quiet (fail)
        go_wp2
        go_roundg (n2 - (j + 1))
        case rel => exact ⟨j + 1, by omega, by go_num, HS.out, HBr.out.trans ⟨rfl, rfl, rfl, Nat.le_refl _, fun _ _ => rfl⟩⟩
        case measure => omega
      · have hb : ((j : Int) != (k : Int)) = true := by simp; omega
        by_cases hxx : x1 = x2
        · subst hxx
          have hb3 : (x1 != x1) = false := by simp
          have HS : Hid (firstUp (fitF A B k) (j + 1) = 0) := by unfold Hid; rw [firstUp_step hfu, HLF.out, if_neg (fun h => h.2 rfl)]
          clear hc1 hc2 hBr hjk HLF
          go_wp2
          go_quiet (fail)
          go_wp2
          go_roundg (n2 - (j + 1))
          case rel => exact ⟨j + 1, by omega, by go_num, HS.out, HBr.out.trans ⟨rfl, rfl, rfl, Nat.le_refl _, fun _ _ => rfl⟩⟩
          case measure => omega
        · have hb3 : (x1 != x2) = true := by simpa using hxx
          have h7 : fitF A B k j = 7 := by rw [HLF.out]; exact if_pos ⟨hjk, hxx⟩
          have HE7 : Hid (fitR s o k = ([], [], 7)) := by unfold Hid; rw [HF2.out, firstUp_hit hfu (by rw [h7]; decide) n2 hlt, h7]; exact if_pos (by decide)
          have HG : Hid (∀ q : Nat, FitIs s o k w (.returned (.tuple #[.slice none 0 0, .slice none 0 0, .int .i64 7])) (wr.drewN q)) := fun q => fitIs_of HE7.out rfl (row_nil _ _ _) rfl (row_nil _ _ _) (H2.out.2.2.1.trans ((hBr.trans (c := wr.drewN q) ⟨rfl, rfl, rfl, Nat.le_refl _, fun _ _ => rfl⟩).mono H2.out.2.2.1.size))
          clear h7
          clear hc1 hc2 hBr hjk HLF hxx
          go_wp2
          go_quiet (fail)
          go_wp2
          exact bodyPost_ret (v := .tuple #[.slice none 0 0, .slice none 0 0, .int .i64 7]) (by simp [results, Try.results99, go_sem]) rfl (HG.out _)
    · have hje : j = n2 := by omega
      subst hje
      have HG : Hid (FitIs s o k w (.returned (.tuple #[.slice a1 j c1, .slice a2 j c2, .int .i64 0])) wr) := fitIs_of (by rw [HF2.out, hfu, if_neg (by simp)]) H2.out.2.2.2.1 (H2.out.1.next hBr) H2.out.2.2.2.2 (H2.out.2.1.next hBr) (H2.out.2.2.1.trans (hBr.mono H2.out.2.2.1.size))
      clear hBr HF2 hfu
      go_wp2
      exact bodyPost_ret (v := .tuple #[.slice a1 j c1, .slice a2 j c2, .int .i64 0]) (by simp [results, Try.results99, go_sem]) rfl HG.out
end Go.Proofs.Ytmjncdhahdpplaa
namespace Go.Proofs.Ytmjncdhahdpplaa
open Go.ChangeShapes Go.WideShapes Go.ChangeAt Go.RowKit
set_option linter.unusedVariables false
set_option maxRecDepth 100000
theorem maskN (a : Nat) (ha : a < 18446744073709551616) : bits .and .u64 (a : Int) 4294967295 = ((a % 4294967296 : Nat) : Int) := by
  have h := bits_and_u64_nat a 4294967295 ha (by omega)
  have e : a &&& 4294967295 = a % 4294967296 := Nat.and_two_pow_sub_one_eq_mod a 32
  rw [e] at h
  exact h
theorem divN (a : Nat) : (a : Int) / 4294967296 = ((a / 4294967296 : Nat) : Int) := by omega
theorem mulN (a b : Nat) : (a : Int) * (b : Int) = ((a * b : Nat) : Int) := (Int.natCast_mul a b).symm
theorem addN (a b : Nat) : (a : Int) + (b : Int) = ((a + b : Nat) : Int) := (Int.natCast_add a b).symm
theorem wrapN (a : Nat) (ha : a < 18446744073709551616) : IntKind.u64.wrap (a : Int) = (a : Int) := by rw [IntKind.wrap_u64]; omega
theorem wrapM (a : Nat) : IntKind.u64.wrap (a : Int) = ((a % 18446744073709551616 : Nat) : Int) := by rw [IntKind.wrap_u64]; omega
set_option maxHeartbeats 1000000 in
theorem mul64_any (x y : Nat) (hx : x < 18446744073709551616) (hy : y < 18446744073709551616) (w : World) :
    Calls Try.prog 112 #[.int .u64 x, .int .u64 y] w fun e w' => e = .returned (.tuple #[.int .u64 ((x * y / 18446744073709551616 : Nat) : Int), .int .u64 ((x * y % 18446744073709551616 : Nat) : Int)]) ∧ w' = w := by
  obtain ⟨bd, bt, bw, hhi⟩ := Lib.mul64_hi x y hx hy
  have ba := Lib.half_mul_le (a := x / 4294967296) (b := y / 4294967296) (by omega) (by omega)
  have bb := Lib.half_mul_le (a := x / 4294967296) (b := y % 4294967296) (by omega) (by omega)
  have bc := Lib.half_mul_le (a := x % 4294967296) (b := y / 4294967296) (by omega) (by omega)
  have ba' : x / 4294967296 * (y / 4294967296) < 18446744073709551616 := by omega
  have bb' : x / 4294967296 * (y % 4294967296) < 18446744073709551616 := by omega
  have bc' : x % 4294967296 * (y / 4294967296) < 18446744073709551616 := by omega
  have bh1 : x / 4294967296 * (y / 4294967296) + (x / 4294967296 * (y % 4294967296) + x % 4294967296 * (y % 4294967296) / 4294967296) / 4294967296 < 18446744073709551616 := by omega
  have bh : x / 4294967296 * (y / 4294967296) + (x / 4294967296 * (y % 4294967296) + x % 4294967296 * (y % 4294967296) / 4294967296) / 4294967296 + ((x / 4294967296 * (y % 4294967296) + x % 4294967296 * (y % 4294967296) / 4294967296) % 4294967296 + x % 4294967296 * (y / 4294967296)) / 4294967296 < 18446744073709551616 := by omega
  go_enter Try.func112, Try.ntmps112
  go_wp2
  simp only [maskN x hx, maskN y hy, divN, mulN, addN, wrapN _ bd, wrapN _ bb', wrapN _ bt, maskN _ bt, wrapN _ bc', wrapN _ bw, wrapN _ ba', wrapN _ bh1, wrapN _ bh, wrapM (x * y)]
  rw [hhi]
  go_ret2
  exact ⟨rfl, rfl⟩
set_option maxHeartbeats 2000000 in
theorem mul_any (N : Nat) (hN : N ≤ 16384) (w : World) : Calls Try.prog 107 #[.int .u64 1, .int .u64 (N : Int)] w fun e w' => e = .returned (.tuple #[.int .u64 0, .int .u64 (N : Int)]) ∧ w' = w := by
  have C := mul64_any 1 N (by omega) (by omega) w
  have e1 : 1 * N / 18446744073709551616 = 0 := by omega
  have e2 : 1 * N % 18446744073709551616 = N := by omega
  rw [e1, e2] at C
  go_enter Try.func107, Try.ntmps107
  go_wp2_with fail
  refine C.mono ?_
  rintro e w1 ⟨rfl, rfl⟩
  clear C e1 e2
  go_wp2
  go_ret2
  exact ⟨rfl, rfl⟩
theorem const_lies {w : World} {B N t m : Nat} {T0 : Value × Value × Value} (h1 : T0.1.oneCell' = true ∧ T0.2.1.oneCell' = true ∧ T0.2.2.oneCell' = true) (hr : w.rowIs B 36 (N * 3) (gF (fun _ => T0) t)) (hB : B < w.heap.size) (hm : m ≤ t) (ht : t ≤ N) : Lies w (some ⟨B, 0, none⟩) (rowT (fun _ => T0) m) := by
  refine ⟨?_, rowT_one _ _ fun i _ => h1⟩
  refine Or.inr ⟨_, rfl, hB, fun j u hj => ?_⟩
  have hjl : j < m * 3 := by
    rcases Nat.lt_or_ge j (m * 3) with h | h
    · exact h
    · rw [List.getElem?_eq_none (by rw [rowT_len]; exact h)] at hj; cases hj
  rw [add_off, Nat.zero_add]
  have hc := hr.cell (i := j) (by omega)
  rw [hc]
  obtain ⟨t0, t1, t2⟩ := rowT_at (fun _ => T0) m (j / 3) (by omega)
  obtain ⟨s0, s1, s2⟩ := gF_at (fun _ => T0) t (j / 3) (by omega)
  have hmm : j = j / 3 * 3 ∨ j = j / 3 * 3 + 1 ∨ j = j / 3 * 3 + 2 := by omega
  rcases hmm with e | e | e
  · rw [← e] at t0 s0; rw [t0] at hj; rw [s0]; exact hj
  · rw [← e] at t1 s1; rw [t1] at hj; rw [s1]; exact hj
  · rw [← e] at t2 s2; rw [t2] at hj; rw [s2]; exact hj
set_option maxHeartbeats 4000000 in
theorem repeat_any (a : Option Addr) (c N : Nat) (kk NN : Int) (ab : Option Addr) (nb cb : Nat) (w : World) (hl : Lies w a [.int .i64 kk, .int .i64 NN, .slice ab nb cb]) (hN : N ≤ 16384) :
    Calls Try.prog 97 #[.slice a 1 c, .int .i64 (N : Int)] w fun e w' => (∃ g, e = .returned (.slice (some ⟨g, 0, none⟩) N N) ∧ w.heap.size ≤ g ∧ g < w'.heap.size ∧ w'.rowIs g 36 (N * 3) (gF (fun _ => (.int .i64 kk, .int .i64 NN, .slice ab nb cb)) N)) ∧ Below w.heap.size w w' := by
  have C := mul_any N hN w
  obtain ⟨T0, hT0⟩ : ∃ T0 : Value × Value × Value, T0 = (.int .i64 kk, .int .i64 NN, .slice ab nb cb) := ⟨_, rfl⟩
  have H1 : Hid (T0.1.oneCell' = true ∧ T0.2.1.oneCell' = true ∧ T0.2.2.oneCell' = true) := by rw [hT0]; exact ⟨rfl, rfl, rfl⟩
  have hrow1 : [Value.int .i64 kk, .int .i64 NN, .slice ab nb cb] = rowT (fun _ => T0) 1 := by rw [hT0]; rfl
  rw [hrow1] at hl
  rw [← hT0]
  have mk := make_cells N (by omega) w
  obtain ⟨W4, e4⟩ : ∃ W4, w.alloc (.cells (madeCells #[.int .i64 0, .int .i64 0, .slice none 0 0] (N * 3)) 36) = W4 := ⟨_, rfl⟩
  rw [e4] at mk
  have B4 : Below w.heap.size w W4 := by rw [← e4]; exact one_alloc _ _
  have z4 : W4.heap.size = w.heap.size + 1 := by rw [← e4]; simp
  have RM : Hid (W4.rowIs w.heap.size 36 (N * 3) (gF (fun _ => T0) 0)) := by
    rw [← e4]
    exact (rowIs_made3 w (N * 3)).congr fun i hi => by rw [gF_zero]
  obtain ⟨m0, hm0⟩ : ∃ m0, Nat.min 1 N = m0 := ⟨_, rfl⟩
  have HM0 : Hid (m0 = Nat.min 1 N ∧ m0 ≤ N ∧ (0 < N → 0 < m0) ∧ m0 ≤ 1) := by
    refine ⟨hm0.symm, ?_, fun h => ?_, ?_⟩ <;> rw [← hm0]
    · exact Nat.min_le_right _ _
    · exact Nat.lt_min.2 ⟨by decide, h⟩
    · exact Nat.min_le_left _ _
  have HLI : Hid (Lies W4 a (rowT (fun _ => T0) m0)) := by
    have h1 := hl.next B4
    have hle := HM0.out.2.2.2
    have hc : m0 = 0 ∨ m0 = 1 := by omega
    rcases hc with h0 | h0
    · rw [h0]; exact ⟨Or.inl rfl, fun u hu => by simp [rowT] at hu⟩
    · rw [h0]; exact h1
  have HLN : Hid ((rowT (fun _ => T0) m0).length = m0 * 3 ∧ 0 + (rowT (fun _ => T0) m0).length ≤ N * 3) := by
    have := HM0.out.2.1
    exact ⟨rowT_len _ _, by rw [rowT_len]; omega⟩
  obtain ⟨R0, hR0⟩ : ∃ R0, rowT (fun _ => T0) m0 = R0 := ⟨_, rfl⟩
  have HR0 := hide hR0
  rw [hR0] at HLI HLN
  have HB4 := hide (And.intro B4 z4)
  have hu1 : IntKind.u64.wrap (N : Int) = (N : Int) := wrapN N (by omega)
  have hi1 : IntKind.i64.wrap (N : Int) = (N : Int) := IntWalk.i64_in _ ⟨by omega, by omega⟩
  have hb1 : ¬ (9223372036854775807 : Int) < (N : Int) := by omega
  have hb2 : ¬ (N : Int) < 0 := by omega
  clear hl B4 z4 hrow1 hT0 hR0 hm0
  go_enter Try.func97, Try.ntmps97
  go_wp2_with fail
  refine C.mono ?_
  clear C
  rintro e w1 ⟨rfl, rfl⟩
  go_wp2_with (refine wpList_copy_rowIs rfl _ _ 23 23 rfl 36 3 Try.underlying23 size36 (some ⟨w1.heap.size, 0, none⟩) a N N 1 c m0 rfl rfl w1.heap.size 0 (N * 3) 36 (gF (fun _ => T0) 0) RM.out R0 HM0.out.1 HLN.out.1 (fun _ => rfl) HLI.out (by decide) HLN.out.2 ?_)
  intro w5 hrow5 hTw5
  have HST : Hid (Two W4 w1.heap.size w1.heap.size w5 ∧ w5.rowIs w1.heap.size 36 (N * 3) (gF (fun _ => T0) m0)) := by
    refine ⟨hTw5, hrow5.congr fun i hi => ?_⟩
    rw [← HR0.out]
    have := spF_gF (fun _ => T0) 0 m0 N i hi
    rw [Nat.zero_add] at this
    exact this
  clear hrow5 hTw5 HLI HLN HR0 RM mk hu1 hi1
  go_wp2
  clear e4
  go_loopg [8] (N + 1 - m0) (fun g i wr => ∃ t : Nat, g + t = N + 1 ∧ i = .int .i64 (t : Int) ∧ t ≤ N ∧ (0 < N → 0 < t) ∧ Two W4 w1.heap.size w1.heap.size wr ∧ wr.rowIs w1.heap.size 36 (N * 3) (gF (fun _ => T0) t))
  case atStart => exact ⟨m0, by have := HM0.out; omega, rfl, HM0.out.2.1, HM0.out.2.2.1, HST.out⟩
  case round =>
    clear HST
    obtain ⟨t, hg, rfl, htN, ht0, hTw, hrow⟩ := hrel
    by_cases hlt : t < N
    · have ht1 := ht0 (by omega)
      obtain ⟨m, hm⟩ : ∃ m, Nat.min t (N - t) = m := ⟨_, rfl⟩
      have hm1 : m ≤ t := by rw [← hm]; exact Nat.min_le_left _ _
      have hm2 : m ≤ N - t := by rw [← hm]; exact Nat.min_le_right _ _
      have hm3 : 0 < m := by rw [← hm]; exact Nat.lt_min.2 ⟨ht1, by omega⟩
      have hp1 : ∀ W, (Instr.sliceAt 23 (.slice (some ⟨w1.heap.size, 0, none⟩) N N) (some (.int .i64 (t : Int))) none none).run Try.prog W = .ok (.slice (some ⟨w1.heap.size, t * 3, none⟩) (N - t) (N - t)) W := fun W => by
        rw [part_l (P := Try.prog) Try.underlying23 size36 (some ⟨w1.heap.size, 0, none⟩) N N t (t : Int) rfl (by omega) W]
        unfold subA; rw [if_neg (by omega), Option.map_some, add_off, Nat.zero_add]
      have hp2 : ∀ W, (Instr.sliceAt 23 (.slice (some ⟨w1.heap.size, 0, none⟩) N N) none (some (.int .i64 (t : Int))) none).run Try.prog W = .ok (.slice (some ⟨w1.heap.size, 0, none⟩) t N) W := fun W => part_h (P := Try.prog) Try.underlying23 size36 (some ⟨w1.heap.size, 0, none⟩) N N t (t : Int) rfl (by omega) W
      have hBl : w1.heap.size < wr.heap.size := by rw [hTw.size]; have := HB4.out.2; omega
      have HLI : Hid (Lies wr.drew (some ⟨w1.heap.size, 0, none⟩) (rowT (fun _ => T0) m)) := (const_lies H1.out hrow hBl hm1 htN).drew
      have HROW : Hid (wr.drew.rowIs w1.heap.size 36 (N * 3) (gF (fun _ => T0) t)) := hrow
      have HMM : Hid (m = Nat.min t (N - t) ∧ (rowT (fun _ => T0) m).length = m * 3 ∧ t * 3 + (rowT (fun _ => T0) m).length ≤ N * 3) := ⟨hm.symm, rowT_len _ _, by rw [rowT_len]; omega⟩
      obtain ⟨RW, hRW⟩ : ∃ RW, rowT (fun _ => T0) m = RW := ⟨_, rfl⟩
      have HRW := hide hRW
      rw [hRW] at HLI HMM
      have HTW := hide hTw.drew
      have hw2 : IntKind.i64.wrap ((t : Int) + (m : Int)) = ((t + m : Nat) : Int) := by rw [show (t : Int) + (m : Int) = ((t + m : Nat) : Int) by omega]; exact IntWalk.i64_in _ ⟨by omega, by omega⟩
      clear hrow hTw hRW hm hBl ht0
      go_wp2
      go_region_law (refine step_copy_rowIs rfl (.tmp 41) (.tmp 44) 23 23 rfl 36 3 Try.underlying23 size36 (some ⟨w1.heap.size, t * 3, none⟩) (some ⟨w1.heap.size, 0, none⟩) (N - t) (N - t) t N m (by go_simp) (by go_simp) w1.heap.size (t * 3) (N * 3) 36 (gF (fun _ => T0) t) HROW.out RW HMM.out.1 HMM.out.2.1 (fun _ => rfl) HLI.out (by decide) HMM.out.2.2 ?_; intro w9 hrow9 hTw9)
      all_goals
        have HN9 : Hid (Two W4 w1.heap.size w1.heap.size w9 ∧ w9.rowIs w1.heap.size 36 (N * 3) (gF (fun _ => T0) (t + m))) := by
          refine ⟨⟨HTW.out.io.trans hTw9.io, hTw9.size.trans HTW.out.size, fun b h1 h2 => (hTw9.keep b h1 h2).trans (HTW.out.keep b h1 h2)⟩, ?_⟩
          refine hrow9.congr fun i hi => ?_
          rw [← HRW.out]
          exact spF_gF (fun _ => T0) t m N i hi
        clear hrow9 hTw9 HROW HLI HMM HTW hp1 hp2
        go_wp2
        go_roundg (N + 1 - (t + m))
        case rel => exact ⟨t + m, by omega, by first | rfl | simp, by omega, fun _ => by omega, HN9.out⟩
        case measure => omega
    · have hte : t = N := by omega
      subst hte
      have HF := hide (And.intro hTw hrow)
      clear hTw hrow
      go_wp2
      go_ret
      have hz := HB4.out.2
      exact ⟨⟨w1.heap.size, rfl, Nat.le_refl _, by rw [HF.out.1.size]; omega, HF.out.2⟩, HF.out.1.below HB4.out.1 (Nat.le_refl _) (Nat.le_refl _)⟩
set_option maxHeartbeats 4000000 in
theorem filling_any {n lo : Nat} {x : Ar} {va : Value} {w : World} (hx : ArIn (n + 1) lo w x va) : Calls Try.prog 96 #[va] w fun e w' => e = .returned (.tuple #[.agg #[.int .i64 (fillR x).1, .int .i64 (fillR x).2.1, .slice none 0 0], .int .i64 (fillR x).2.2]) ∧ Below w.heap.size w w' := by
  obtain ⟨a1, c1, a2, c2, rfl, R, hc⟩ := hx.form
  obtain ⟨W2, e2⟩ : ∃ W2, (w.alloc (.cells #[.slice a1 x.shape.length c1, .slice a2 x.cells.length c2] 25)).alloc (.cells #[.int .i64 0, .int .i64 0, .slice none 0 0] 36) = W2 := ⟨_, rfl⟩
  have b0 : Below w.heap.size w W2 := by rw [← e2]; exact two_allocs _ _ _
  have z2 : W2.heap.size = w.heap.size + 2 := by rw [← e2]; simp
  have q1 : W2.cell? ⟨w.heap.size, 1, none⟩ = some (.slice a2 x.cells.length c2) := by rw [← e2]; exact cell_new1 w _ 25 (0, 0) _ 1 _ rfl
  have g0 : W2.cell? ⟨w.heap.size + 1, 0, none⟩ = some (.int .i64 0) := by rw [← e2]; exact cell_new2 w _ 36 (0, 0) _ 0 _ rfl
  have g1 : W2.cell? ⟨w.heap.size + 1, 1, none⟩ = some (.int .i64 0) := by rw [← e2]; exact cell_new2 w _ 36 (0, 0) _ 1 _ rfl
  have g2 : W2.cell? ⟨w.heap.size + 1, 2, none⟩ = some (.slice none 0 0) := by rw [← e2]; exact cell_new2 w _ 36 (0, 0) _ 2 _ rfl
  have h0 : W2.frozen? ⟨w.heap.size + 1, 0, none⟩ = false := by rw [← e2]; exact frozen_new1 _ _ _ _ _
  have h1 : W2.frozen? ⟨w.heap.size + 1, 1, none⟩ = false := by rw [← e2]; exact frozen_new1 _ _ _ _ _
  have h2 : W2.frozen? ⟨w.heap.size + 1, 2, none⟩ = false := by rw [← e2]; exact frozen_new1 _ _ _ _ _
  have HST : Hid (∀ u0 u1 u2, (((W2.setCell ⟨w.heap.size + 1, 0, none⟩ u0).setCell ⟨w.heap.size + 1, 1, none⟩ u1).setCell ⟨w.heap.size + 1, 2, none⟩ u2).cell? ⟨w.heap.size + 1, 0, none⟩ = some u0 ∧ (((W2.setCell ⟨w.heap.size + 1, 0, none⟩ u0).setCell ⟨w.heap.size + 1, 1, none⟩ u1).setCell ⟨w.heap.size + 1, 2, none⟩ u2).cell? ⟨w.heap.size + 1, 1, none⟩ = some u1 ∧ (((W2.setCell ⟨w.heap.size + 1, 0, none⟩ u0).setCell ⟨w.heap.size + 1, 1, none⟩ u1).setCell ⟨w.heap.size + 1, 2, none⟩ u2).cell? ⟨w.heap.size + 1, 2, none⟩ = some u2 ∧ Below w.heap.size w (((W2.setCell ⟨w.heap.size + 1, 0, none⟩ u0).setCell ⟨w.heap.size + 1, 1, none⟩ u1).setCell ⟨w.heap.size + 1, 2, none⟩ u2)) := by
    intro u0 u1 u2
    refine ⟨?_, ?_, ?_, ((b0.setCell (p := ⟨w.heap.size + 1, 0, none⟩) (by show _ ≤ w.heap.size + 1; omega) _).setCell (p := ⟨w.heap.size + 1, 1, none⟩) (by show _ ≤ w.heap.size + 1; omega) _).setCell (p := ⟨w.heap.size + 1, 2, none⟩) (by show _ ≤ w.heap.size + 1; omega) _⟩
    · rw [World.cell?_setCell_other _ _ _ _ (by simp), World.cell?_setCell_other _ _ _ _ (by simp)]; exact World.cell?_setCell_same' _ _ _ (by rw [g0]; rfl)
    · rw [World.cell?_setCell_other _ _ _ _ (by simp)]; exact World.cell?_setCell_same' _ _ _ (by rw [World.cell?_setCell_other _ _ _ _ (by simp), g1]; rfl)
    · exact World.cell?_setCell_same' _ _ _ (by rw [World.cell?_setCell_other _ _ _ _ (by simp), World.cell?_setCell_other _ _ _ _ (by simp), g2]; rfl)
  have HB := hide b0
  by_cases hC : 0 < x.cells.length
  · obtain ⟨ab, cb, hcf⟩ := cells_fn hc
    obtain ⟨b, off, rfl, -, hb, hcells⟩ := hcf hC
    obtain ⟨k0, k1, k2, -⟩ := hcells 0 hC
    simp only [Nat.zero_mul, Nat.add_zero] at k0 k1 k2
    have r0 := (b0.cell (p := ⟨b, off, none⟩) hb).trans k0
    have HE : Hid (fillR x = if (cAt x.cells 0).1 = 1 then (1, 32, 0) else if (cAt x.cells 0).1 = 2 then (0, 0, 5) else (0, 0, 0)) := by unfold Hid fillR; rw [if_pos hC]
    have hC1 : (0 : Int) < (x.cells.length : Int) := by omega
    clear hcells hcf hc R hx k0 k1 k2 b0
    generalize (cAt x.cells 0).1 = ck at *
    generalize x.shape.length = SA at *
    generalize x.cells.length = CA at *
    by_cases hk1 : ck = 1
    · have HE5 : Hid (fillR x = (1, 32, 0)) := by unfold Hid; rw [HE.out, if_pos hk1]
      subst hk1
      clear HE
      go_enter Try.func96, Try.ntmps96
      go_wp2
      exact bodyPost_ret (v := .tuple #[.agg #[.int .i64 1, .int .i64 32, .slice none 0 0], .int .i64 0]) (by obtain ⟨x0, x1, x2, -⟩ := HST.out (.int .i64 1) (.int .i64 32) (.slice none 0 0); simp [results, Try.results96, go_sem, x0, x1, x2]) rfl ⟨by rw [HE5.out], (HST.out _ _ _).2.2.2⟩
    have hb1 : (ck == 1) = false := beq_eq_false_iff_ne.2 hk1
    by_cases hk2 : ck = 2
    · have HE5 : Hid (fillR x = (0, 0, 5)) := by unfold Hid; rw [HE.out, if_neg hk1, if_pos hk2]
      subst hk2
      clear HE
      go_enter Try.func96, Try.ntmps96
      go_wp2
      exact bodyPost_ret (v := .tuple #[.agg #[.int .i64 0, .int .i64 0, .slice none 0 0], .int .i64 5]) (by obtain ⟨x0, x1, x2, -⟩ := HST.out (.int .i64 0) (.int .i64 0) (.slice none 0 0); simp [results, Try.results96, go_sem, x0, x1, x2]) rfl ⟨by rw [HE5.out], (HST.out _ _ _).2.2.2⟩
    have hb2 : (ck == 2) = false := beq_eq_false_iff_ne.2 hk2
    have HE5 : Hid (fillR x = (0, 0, 0)) := by unfold Hid; rw [HE.out, if_neg hk1, if_neg hk2]
    clear HE
    go_enter Try.func96, Try.ntmps96
    go_wp2
    exact bodyPost_ret (v := .tuple #[.agg #[.int .i64 0, .int .i64 0, .slice none 0 0], .int .i64 0]) (by obtain ⟨x0, x1, x2, -⟩ := HST.out (.int .i64 0) (.int .i64 0) (.slice none 0 0); simp [results, Try.results96, go_sem, x0, x1, x2]) rfl ⟨by rw [HE5.out], (HST.out _ _ _).2.2.2⟩
  · have HE5 : Hid (fillR x = (0, 0, 0)) := by unfold Hid fillR; rw [if_neg hC]
    have hC1 : ¬ (0 : Int) < (x.cells.length : Int) := by omega
    clear hc R hx b0
    generalize x.shape.length = SA at *
    generalize x.cells.length = CA at *
    go_enter Try.func96, Try.ntmps96
    go_wp2
    exact bodyPost_ret (v := .tuple #[.agg #[.int .i64 0, .int .i64 0, .slice none 0 0], .int .i64 0]) (by obtain ⟨x0, x1, x2, -⟩ := HST.out (.int .i64 0) (.int .i64 0) (.slice none 0 0); simp [results, Try.results96, go_sem, x0, x1, x2]) rfl ⟨by rw [HE5.out], (HST.out _ _ _).2.2.2⟩
end Go.Proofs.Ytmjncdhahdpplaa
