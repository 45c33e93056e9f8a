/-
  The contract of layer 3's copy of a cell, given that of the array in its box: the same cell, its box in memory of its own; for all cells that may be.
  The contract of layer 3's Copy: the same array in memory of its own; for all arrays that may be.
  The contract of the statements' own look whether an array is not more than is waited for: what is light is thin: no more than so many boxes within one another; for all arrays.
  The contracts of layer 3's Atom and of the document's, and of layer 3's trial run: it answers true.
  What a call of layer 3's statements is told of a slice of numbers that came in: it is a row of numbers; and Places' answer as one row and one error.
  What a call of layer 3's statements is told of an array or a cell that came in: it is one of the plain arrays or cells, as deep as it may be; no condition.
  An array is the same as itself, and the arrays that Atom and Nums make may be: the plain mathematics of it; and a slice of int64 that came in, as a row.
  Layer 5's plain mathematics: steps along axes, places turned round, shapes that may be, arrays made of others' cells; no program is named.
  The contracts of layer 5's strides and of the library's Reverse, over rows of the call's own.
  Sorting in place, as plain mathematics: a row of numbers as a function; swaps, rotations, insertions; orders. No program's function is named.
  The contract of layer 5's gather: the cells that the steps lead to, in the order of the places.
  Layer 5's answers as plain data, and what a call's own memory holds while it goes on: the boxed argument, the answer's place.
  The contract of the library's Insert of one number ahead of a row, and of layer 5's listed.
-/
import Derived.Test.YtimkcpbgnoekcaaM0
import Derived.Test.YtimkcpbgnoekcaaChecked
import GoSem.Claim
import GoSem.ClaimJoined
import GoSem.ClaimMapViews
import Derived.JoinedTies
import Derived.KernelRfl
import Derived.WalkKit
import Derived.ProofKit
import Derived.Below
import Derived.Deep.OwnRows
import Derived.Deep.QuietTactic
import Derived.BigQuiet
import Derived.Deep.RegionWith
import Derived.Laws.MakeOwn
import Derived.Deep.RegionHeld3
import Derived.Laws.IdiomCopy
import Derived.Deep.Cut
import Derived.Deep.LoopGhost
import Derived.OpenShut
import Derived.ChangeOld
import Derived.SizedLaws
import Derived.Deep.Slices
import Derived.Deep.Strs
import Derived.Laws.AppendOwn
import Derived.BigFrame
import Derived.Deep.CutRange
import Derived.Deep.RegionLaw
import Derived.Laws.OwnMore
import Derived.Lib.SliceRun
import Derived.Laws.CopyOwn
import Derived.Lib.Mul64
import Derived.Lib.Overlaps
import Derived.Laws.EntriesVeiled
namespace Go.Proofs.Ytimkcpbgnoekcaa
open Go.ChangeShapes Go.WideShapes Go.ChangeAt Go.RowKit
set_option linter.unusedVariables false
theorem info25 : (Try.prog.info? 25).map (fun i => (i.zero, i.size, i.bytes)) = some (some (.agg #[.slice none 0 0, .slice none 0 0]), 2, 48) := by kernel_rfl
theorem make_one (w : World) : (Instr.makeSlice 37 (.int .i64 1) (.int .i64 1)).run Try.prog w = .ok (.slice (some ⟨w.heap.size, 0, none⟩) 1 1) (w.alloc (.cells #[.slice none 0 0, .slice none 0 0] 25)) := by
  obtain ⟨i, hi, hzz⟩ := Option.map_eq_some_iff.1 info25
  simp only [Prod.mk.injEq] at hzz
  obtain ⟨hz, hs, hb⟩ := hzz
  have hr := run_make (P := Try.prog) w 37 25 i _ Try.underlying37 hi hz .i64 .i64 1 1 (by omega) (Int.le_refl _) (by rw [hb]; omega) (by omega)
  simp only [hs] at hr
  rw [hr]
  have e : madeCells (Value.agg #[.slice none 0 0, .slice none 0 0]).cells ((1 : Int).toNat * 2) = #[.slice none 0 0, .slice none 0 0] := by
    apply Array.ext
    · simp [madeCells]
    · intro i h1 h2
      have : i = 0 ∨ i = 1 := by simp at h2; omega
      rcases this with rfl | rfl <;> simp [madeCells, Value.cells]
  rw [e]
  rfl
/-- What the copy of a cell hands back. -/
def GivesC (n : Nat) (c : Ce) (w : World) (e : Ending) (w' : World) : Prop := (∃ a cap, e = .returned (.agg #[.int .i64 c.1, .int .i64 c.2.1, .slice a c.2.2.length cap]) ∧ CeIn (ArIn n w.heap.size w') w.heap.size w' c (.int .i64 c.1) (.int .i64 c.2.1) (.slice a c.2.2.length cap)) ∧ BelowS w.heap.size w w'
set_option maxHeartbeats 2000000 in
theorem copyCell_none (n : Nat) (k N : Int) (ab : Option Addr) (cb : Nat) (w : World) :
    Calls Try.prog 84 #[.agg #[.int .i64 k, .int .i64 N, .slice ab 0 cb]] w fun e w' => GivesC n (k, N, []) w e w' := by
  go_enter Try.func84, Try.ntmps84
  go_wp2
  refine bodyPost_ret (v := .agg #[.int .i64 k, .int .i64 N, .slice none 0 0]) (by simp [results, Try.results84, go_sem]) rfl ⟨⟨none, 0, rfl, rfl, rfl, none, 0, rfl, by simp, Or.inl rfl⟩, ?_⟩
  exact (two_allocsS _ _ _).trans ((one_allocS _ _).mono (by simp; omega))
set_option maxHeartbeats 4000000 in
theorem copyCell_one (n : Nat) (k N : Int) (y : Ar) (bb ob cb : Nat) (u0 u1 : Value) (lo : Nat) (w : World) (hb : bb < w.heap.size) (g0 : w.cell? ⟨bb, ob, none⟩ = some u0) (g1 : w.cell? ⟨bb, ob + 1, none⟩ = some u1) (hy : ArIn n lo w y (.agg #[u0, u1]))
    (IH : ∀ lo vb w, ArIn n lo w y vb → Calls Try.prog 59 #[vb] w fun e w' => GivesS n y w e w') :
    Calls Try.prog 84 #[.agg #[.int .i64 k, .int .i64 N, .slice (some ⟨bb, ob, none⟩) 1 cb]] w fun e w' => GivesC n (k, N, [y]) w e w' := by
  cases n with
  | zero => exact hy.elim
  | succ n =>
  have hy' := hy
  obtain ⟨a1, k1, a2, k2, hv, -⟩ := hy'
  simp only [Value.agg.injEq, Array.mk.injEq, List.cons.injEq, and_true] at hv
  obtain ⟨rfl, rfl⟩ := hv
  generalize hSA : y.shape.length = SA at *
  generalize hCA : y.cells.length = CA at *
  have mk := make_one
  obtain ⟨W4, e4⟩ : ∃ W4, W4 = (((w.alloc (.cells #[.int .i64 k, .int .i64 N, .slice (some ⟨bb, ob, none⟩) 1 cb] 39)).alloc (.cells #[.int .i64 0, .int .i64 0, .slice none 0 0] 39)).alloc (.cells #[.int .i64 k, .int .i64 N, .slice (some ⟨w.heap.size + 1 + 1 + 1, 0, none⟩) 1 1] 39)).alloc (.cells #[.slice none 0 0, .slice none 0 0] 25) := ⟨_, rfl⟩
  have B4 : BelowS w.heap.size w W4 := by rw [e4]; exact (two_allocsS _ _ _).trans ((two_allocsS _ _ _).mono (by simp; omega))
  have s4 : W4.heap.size = w.heap.size + 4 := by rw [e4]; simp
  have s2 := size_two w (.cells #[.int .i64 k, .int .i64 N, .slice (some ⟨bb, ob, none⟩) 1 cb] 39) (.cells #[.int .i64 0, .int .i64 0, .slice none 0 0] 39)
  have r0 : ∀ i v, #[Value.int .i64 0, .int .i64 0, .slice none 0 0][i]? = some v → W4.cell? ⟨w.heap.size + 1, i, none⟩ = some v := by
    intro i v hi
    rw [e4]
    exact ((two_allocsS _ _ _).cell (p := ⟨w.heap.size + 1, i, none⟩) (by rw [s2]; show w.heap.size + 1 < _; omega)).trans (cell_new2 w _ 39 (0, 0) _ i v hi)
  have r1 : ∀ i v, #[Value.int .i64 k, .int .i64 N, .slice (some ⟨w.heap.size + 1 + 1 + 1, 0, none⟩) 1 1][i]? = some v → W4.cell? ⟨w.heap.size + 1 + 1, i, none⟩ = some v := by
    intro i v hi
    rw [e4]
    have := cell_new1 ((w.alloc (.cells #[.int .i64 k, .int .i64 N, .slice (some ⟨bb, ob, none⟩) 1 cb] 39)).alloc (.cells #[.int .i64 0, .int .i64 0, .slice none 0 0] 39)) #[Value.int .i64 k, .int .i64 N, .slice (some ⟨w.heap.size + 1 + 1 + 1, 0, none⟩) 1 1] 39 (0, 0) (.cells #[.slice none 0 0, .slice none 0 0] 25) i v hi
    rw [s2] at this
    exact this
  have r2 : ∀ i v, #[Value.slice none 0 0, .slice none 0 0][i]? = some v → W4.cell? ⟨w.heap.size + 1 + 1 + 1, i, none⟩ = some v := by
    intro i v hi
    rw [e4]
    have := cell_new2 ((w.alloc (.cells #[.int .i64 k, .int .i64 N, .slice (some ⟨bb, ob, none⟩) 1 cb] 39)).alloc (.cells #[.int .i64 0, .int .i64 0, .slice none 0 0] 39)) #[Value.slice none 0 0, .slice none 0 0] 25 (0, 0) (.cells #[.int .i64 k, .int .i64 N, .slice (some ⟨w.heap.size + 1 + 1 + 1, 0, none⟩) 1 1] 39) i v hi
    rw [s2] at this
    exact this
  have f0 : ∀ i, W4.frozen? ⟨w.heap.size + 1, i, none⟩ = false := by
    intro i
    rw [e4]
    have := frozen_new (w.alloc (.cells #[.int .i64 k, .int .i64 N, .slice (some ⟨bb, ob, none⟩) 1 cb] 39)) #[.int .i64 0, .int .i64 0, .slice none 0 0] 39 i
    have s1 : (w.alloc (.cells #[.int .i64 k, .int .i64 N, .slice (some ⟨bb, ob, none⟩) 1 cb] 39)).heap.size = w.heap.size + 1 := by simp
    rw [s1] at this
    exact ((two_allocsS _ _ _).frozen (p := ⟨w.heap.size + 1, i, none⟩) (by rw [s2]; show w.heap.size + 1 < _; omega)).trans this
  have f2 : ∀ i, W4.frozen? ⟨w.heap.size + 1 + 1 + 1, i, none⟩ = false := by
    intro i
    rw [e4]
    have := frozen_new (((w.alloc (.cells #[.int .i64 k, .int .i64 N, .slice (some ⟨bb, ob, none⟩) 1 cb] 39)).alloc (.cells #[.int .i64 0, .int .i64 0, .slice none 0 0] 39)).alloc (.cells #[.int .i64 k, .int .i64 N, .slice (some ⟨w.heap.size + 1 + 1 + 1, 0, none⟩) 1 1] 39)) #[.slice none 0 0, .slice none 0 0] 25 i
    have s3 : (((w.alloc (.cells #[.int .i64 k, .int .i64 N, .slice (some ⟨bb, ob, none⟩) 1 cb] 39)).alloc (.cells #[.int .i64 0, .int .i64 0, .slice none 0 0] 39)).alloc (.cells #[.int .i64 k, .int .i64 N, .slice (some ⟨w.heap.size + 1 + 1 + 1, 0, none⟩) 1 1] 39)).heap.size = w.heap.size + 1 + 1 + 1 := by simp
    rw [s3] at this
    exact this
  have h0 : W4.cell? ⟨bb, ob, none⟩ = some (.slice a1 SA k1) := (B4.cell (p := ⟨bb, ob, none⟩) hb).trans g0
  have h1 : W4.cell? ⟨bb, ob + 1, none⟩ = some (.slice a2 CA k2) := (B4.cell (p := ⟨bb, ob + 1, none⟩) hb).trans g1
  have C : Hid (Calls Try.prog 59 #[.agg #[.slice a1 SA k1, .slice a2 CA k2]] (W4.alloc (.cells #[.slice a1 SA k1, .slice a2 CA k2] 25)).drew fun e w' => (∃ p1 pc1 p2 pc2, e = .returned (.agg #[.slice p1 SA pc1, .slice p2 CA pc2]) ∧ ArIn (n + 1) W4.heap.size w' y (.agg #[.slice p1 SA pc1, .slice p2 CA pc2])) ∧ BelowS W4.heap.size W4 w' ∧ W4.heap.size + 1 ≤ w'.heap.size ∧ w'.cell? ⟨W4.heap.size, 0, none⟩ = some (.slice a1 SA k1) ∧ w'.cell? ⟨W4.heap.size, 1, none⟩ = some (.slice a2 CA k2)) := by
    have b := (one_allocS W4 (.cells #[.slice a1 SA k1, .slice a2 CA k2] 25)).drew
    have hs : ((W4.alloc (.cells #[.slice a1 SA k1, .slice a2 CA k2] 25)).drew).heap.size = W4.heap.size + 1 := by
      have : (W4.alloc (.cells #[.slice a1 SA k1, .slice a2 CA k2] 25)).heap.size = W4.heap.size + 1 := by simp
      exact this
    refine (IH lo _ _ (hy.next (B4.trans (b.mono B4.size)).b)).mono ?_
    rintro e w' ⟨⟨v, rfl, hv⟩, hb'⟩
    rw [hs] at hv hb'
    have hv' := hv
    obtain ⟨p1, pc1, p2, pc2, rfl, -⟩ := hv'
    rw [hSA, hCA] at hv ⊢
    refine ⟨⟨p1, pc1, p2, pc2, rfl, hv.mono (by omega) (Below.refl _ _)⟩, b.trans (hb'.mono (by omega)), by have := hb'.size; rw [hs] at this; exact this, ?_, ?_⟩
    · exact (hb'.cell (p := ⟨W4.heap.size, 0, none⟩) (by show W4.heap.size < _; omega)).trans (cell_new0 W4 _ 25 0 _ rfl)
    · exact (hb'.cell (p := ⟨W4.heap.size, 1, none⟩) (by show W4.heap.size < _; omega)).trans (cell_new0 W4 _ 25 1 _ rfl)
  have HF : Hid (∀ w1, BelowS W4.heap.size W4 w1 → (w1.cell? ⟨w.heap.size + 1 + 1 + 1, 0, none⟩ = some (.slice none 0 0) ∧ w1.cell? ⟨w.heap.size + 1 + 1 + 1, 1, none⟩ = some (.slice none 0 0) ∧ w1.frozen? ⟨w.heap.size + 1 + 1 + 1, 0, none⟩ = false ∧ w1.frozen? ⟨w.heap.size + 1 + 1 + 1, 1, none⟩ = false) ∧ (∀ i v, #[Value.int .i64 k, .int .i64 N, .slice (some ⟨w.heap.size + 1 + 1 + 1, 0, none⟩) 1 1][i]? = some v → w1.cell? ⟨w.heap.size + 1 + 1, i, none⟩ = some v) ∧ (∀ i v, #[Value.int .i64 0, .int .i64 0, .slice none 0 0][i]? = some v → w1.cell? ⟨w.heap.size + 1, i, none⟩ = some v) ∧ ∀ i, w1.frozen? ⟨w.heap.size + 1, i, none⟩ = false) := by
    intro w1 h
    have tr : ∀ b i v, b < w.heap.size + 4 → W4.cell? ⟨b, i, none⟩ = some v → w1.cell? ⟨b, i, none⟩ = some v := fun b i v hb hh => (h.cell (p := ⟨b, i, none⟩) (by rw [s4]; exact hb)).trans hh
    have tf : ∀ b i, b < w.heap.size + 4 → W4.frozen? ⟨b, i, none⟩ = false → w1.frozen? ⟨b, i, none⟩ = false := fun b i hb hh => (h.frozen (p := ⟨b, i, none⟩) (by rw [s4]; exact hb)).trans hh
    exact ⟨⟨tr _ _ _ (by omega) (r2 0 _ rfl), tr _ _ _ (by omega) (r2 1 _ rfl), tf _ _ (by omega) (f2 0), tf _ _ (by omega) (f2 1)⟩, fun i v hi => tr _ _ _ (by omega) (r1 i v hi), fun i v hi => tr _ _ _ (by omega) (r0 i v hi), fun i => tf _ _ (by omega) (f0 i)⟩
  have HB4 := hide B4
  have HS4 := hide s4
  have hs2 : W4.cell? ⟨w.heap.size + 1 + 1, 2, none⟩ = some (.slice (some ⟨w.heap.size + 1 + 1 + 1, 0, none⟩) 1 1) := r1 2 _ rfl
  clear r0 r1 r2 f0 f2 B4 s4 s2 IH hy g0 g1 hSA hCA
  go_enter Try.func84, Try.ntmps84
  go_wp2
  rw [← e4]
  clear e4 mk
  go_loopw [24] (fun i wr => (i = .int .i64 0 ∧ wr = W4) ∨ (i = .int .i64 1 ∧ ∃ w1 p1 pc1 p2 pc2, wr = (w1.setCell ⟨w.heap.size + 1 + 1 + 1, 0, none⟩ (.slice p1 SA pc1)).setCell ⟨w.heap.size + 1 + 1 + 1, 1, none⟩ (.slice p2 CA pc2) ∧ BelowS W4.heap.size W4 w1 ∧ ArIn (n + 1) W4.heap.size w1 y (.agg #[.slice p1 SA pc1, .slice p2 CA pc2]))) (fun i _ => 1 - (intOf i).toNat)
  case atStart => exact Or.inl ⟨rfl, rfl⟩
  case round =>
    rcases hrel with ⟨rfl, rfl⟩ | ⟨rfl, w1, p1, pc1, p2, pc2, rfl, hb1, hP⟩
    · have KS : Hid (∀ w1 : World, BelowS wr.heap.size wr w1 → w1.cell? ⟨wr.heap.size, 0, none⟩ = some (.slice a1 SA k1) → w1.cell? ⟨wr.heap.size, 1, none⟩ = some (.slice a2 CA k2) → (w1.cell? ⟨w.heap.size + 1 + 1, 2, none⟩ = some (.slice (some ⟨w.heap.size + 1 + 1 + 1, 0, none⟩) 1 1) ∧ w1.cell? ⟨wr.heap.size, 0, none⟩ = some (.slice a1 SA k1) ∧ w1.cell? ⟨wr.heap.size, 1, none⟩ = some (.slice a2 CA k2))) := fun w1 h x y => ⟨(HF.out w1 h).2.1 2 _ rfl, x, y⟩
      have D0 : Hid (BelowS wr.heap.size wr (wr.alloc (.cells #[.slice a1 SA k1, .slice a2 CA k2] 25)).drew ∧ (wr.alloc (.cells #[.slice a1 SA k1, .slice a2 CA k2] 25)).drew.cell? ⟨wr.heap.size, 0, none⟩ = some (.slice a1 SA k1) ∧ (wr.alloc (.cells #[.slice a1 SA k1, .slice a2 CA k2] 25)).drew.cell? ⟨wr.heap.size, 1, none⟩ = some (.slice a2 CA k2)) := ⟨(one_allocS _ _).drew, cell_new0 wr _ 25 0 _ rfl, cell_new0 wr _ 25 1 _ rfl⟩
      have KT : Hid (∀ (w1 : World) (x y : Value), (w1.cell? ⟨w.heap.size + 1 + 1, 2, none⟩ = some (.slice (some ⟨w.heap.size + 1 + 1 + 1, 0, none⟩) 1 1) ∧ w1.cell? ⟨wr.heap.size, 0, none⟩ = some (.slice a1 SA k1) ∧ w1.cell? ⟨wr.heap.size, 1, none⟩ = some (.slice a2 CA k2)) → (((w1.setCell ⟨w.heap.size + 1 + 1 + 1, 0, none⟩ x).setCell ⟨w.heap.size + 1 + 1 + 1, 1, none⟩ y).cell? ⟨w.heap.size + 1 + 1, 2, none⟩ = some (.slice (some ⟨w.heap.size + 1 + 1 + 1, 0, none⟩) 1 1) ∧ ((w1.setCell ⟨w.heap.size + 1 + 1 + 1, 0, none⟩ x).setCell ⟨w.heap.size + 1 + 1 + 1, 1, none⟩ y).cell? ⟨wr.heap.size, 0, none⟩ = some (.slice a1 SA k1) ∧ ((w1.setCell ⟨w.heap.size + 1 + 1 + 1, 0, none⟩ x).setCell ⟨w.heap.size + 1 + 1 + 1, 1, none⟩ y).cell? ⟨wr.heap.size, 1, none⟩ = some (.slice a2 CA k2))) := by
        rintro w1 x y ⟨e1, e2, e3⟩
        have ne := HS4.out
        exact ⟨cell_apart (p := ⟨w.heap.size + 1 + 1, 2, none⟩) (q := ⟨w.heap.size + 1 + 1 + 1, 1, none⟩) (by show w.heap.size + 1 + 1 ≠ w.heap.size + 1 + 1 + 1; omega) _ (cell_apart (p := ⟨w.heap.size + 1 + 1, 2, none⟩) (q := ⟨w.heap.size + 1 + 1 + 1, 0, none⟩) (by show w.heap.size + 1 + 1 ≠ w.heap.size + 1 + 1 + 1; omega) _ e1),
          cell_apart (p := ⟨wr.heap.size, 0, none⟩) (q := ⟨w.heap.size + 1 + 1 + 1, 1, none⟩) (by show wr.heap.size ≠ w.heap.size + 1 + 1 + 1; omega) _ (cell_apart (p := ⟨wr.heap.size, 0, none⟩) (q := ⟨w.heap.size + 1 + 1 + 1, 0, none⟩) (by show wr.heap.size ≠ w.heap.size + 1 + 1 + 1; omega) _ e2),
          cell_apart (p := ⟨wr.heap.size, 1, none⟩) (q := ⟨w.heap.size + 1 + 1 + 1, 1, none⟩) (by show wr.heap.size ≠ w.heap.size + 1 + 1 + 1; omega) _ (cell_apart (p := ⟨wr.heap.size, 1, none⟩) (q := ⟨w.heap.size + 1 + 1 + 1, 0, none⟩) (by show wr.heap.size ≠ w.heap.size + 1 + 1 + 1; omega) _ e3)⟩
      go_wp2
      go_region_held3 (fun W => W.cell? ⟨w.heap.size + 1 + 1, 2, none⟩ = some (.slice (some ⟨w.heap.size + 1 + 1 + 1, 0, none⟩) 1 1) ∧ W.cell? ⟨wr.heap.size, 0, none⟩ = some (.slice a1 SA k1) ∧ W.cell? ⟨wr.heap.size, 1, none⟩ = some (.slice a2 CA k2))
        (first | exact KS.out _ D0.out.1 D0.out.2.1 D0.out.2.2 | exact KS.out _ (by assumption) (by assumption) (by assumption) | exact KT.out _ _ _ (by assumption))
        (first
          | (go_at_call 59; refine C.out.mono ?_; rintro e w1 ⟨⟨p1, pc1, p2, pc2, rfl, hP⟩, hb1, hz1, hq0, hq1⟩; obtain ⟨⟨t0, t1, t2, t3⟩, -⟩ := HF.out _ hb1))
      go_wp2
      go_roundw
      case rel => exact Or.inr ⟨by go_num, w1, p1, pc1, p2, pc2, rfl, hb1, hP⟩
      case measure => simp [intOf]
    · obtain ⟨⟨t0, t1, t2, t3⟩, tc, td, tf⟩ := HF.out _ hb1
      have ne1 : (⟨w.heap.size + 1 + 1, 0, none⟩ : Addr).block ≠ (⟨w.heap.size + 1 + 1 + 1, 0, none⟩ : Addr).block := by show w.heap.size + 1 + 1 ≠ w.heap.size + 1 + 1 + 1; omega
      have AP : ∀ (b i : Nat) (v : Value), b ≠ w.heap.size + 1 + 1 + 1 → w1.cell? ⟨b, i, none⟩ = some v → ((w1.setCell ⟨w.heap.size + 1 + 1 + 1, 0, none⟩ (.slice p1 SA pc1)).setCell ⟨w.heap.size + 1 + 1 + 1, 1, none⟩ (.slice p2 CA pc2)).cell? ⟨b, i, none⟩ = some v := fun b i v hne hv => cell_apart (p := ⟨b, i, none⟩) (q := ⟨w.heap.size + 1 + 1 + 1, 1, none⟩) hne _ (cell_apart (p := ⟨b, i, none⟩) (q := ⟨w.heap.size + 1 + 1 + 1, 0, none⟩) hne _ hv)
      have x0 := AP (w.heap.size + 1 + 1) 0 _ (by omega) (tc 0 _ rfl)
      have x1 := AP (w.heap.size + 1 + 1) 1 _ (by omega) (tc 1 _ rfl)
      have x2 := AP (w.heap.size + 1 + 1) 2 _ (by omega) (tc 2 _ rfl)
      have y0 := AP (w.heap.size + 1) 0 _ (by omega) (td 0 _ rfl)
      have y1 := AP (w.heap.size + 1) 1 _ (by omega) (td 1 _ rfl)
      have y2 := AP (w.heap.size + 1) 2 _ (by omega) (td 2 _ rfl)
      have z : ∀ i, ((w1.setCell ⟨w.heap.size + 1 + 1 + 1, 0, none⟩ (.slice p1 SA pc1)).setCell ⟨w.heap.size + 1 + 1 + 1, 1, none⟩ (.slice p2 CA pc2)).frozen? ⟨w.heap.size + 1, i, none⟩ = false := fun i => by simpa using tf i
      have z0 := z 0
      have z1 := z 1
      have z2 := z 2
      have hT := set_two t0 t1 (.slice p1 SA pc1) (.slice p2 CA pc2)
      have q0 : ((w1.setCell ⟨w.heap.size + 1 + 1 + 1, 0, none⟩ (.slice p1 SA pc1)).setCell ⟨w.heap.size + 1 + 1 + 1, 1, none⟩ (.slice p2 CA pc2)).cell? ⟨w.heap.size + 1 + 1 + 1, 0, none⟩ = some (.slice p1 SA pc1) := by
        rw [World.cell?_setCell_other _ _ _ _ (by simp)]; exact hT.1
      have HK : Hid (Keeps (w.heap.size + 4) w1 ((w1.setCell ⟨w.heap.size + 1 + 1 + 1, 0, none⟩ (.slice p1 SA pc1)).setCell ⟨w.heap.size + 1 + 1 + 1, 1, none⟩ (.slice p2 CA pc2))) := ((Keeps.refl _ _).setCell (p := ⟨w.heap.size + 1 + 1 + 1, 0, none⟩) (by show w.heap.size + 1 + 1 + 1 < _; omega) _).setCell (p := ⟨w.heap.size + 1 + 1 + 1, 1, none⟩) (by show w.heap.size + 1 + 1 + 1 < _; omega) _
      have HBW : Hid (BelowS w.heap.size w ((w1.setCell ⟨w.heap.size + 1 + 1 + 1, 0, none⟩ (.slice p1 SA pc1)).setCell ⟨w.heap.size + 1 + 1 + 1, 1, none⟩ (.slice p2 CA pc2))) := ((HB4.out.trans (hb1.mono HB4.out.size)).setCell (p := ⟨w.heap.size + 1 + 1 + 1, 0, none⟩) (by show w.heap.size ≤ w.heap.size + 1 + 1 + 1; omega) _).setCell (p := ⟨w.heap.size + 1 + 1 + 1, 1, none⟩) (by show w.heap.size ≤ w.heap.size + 1 + 1 + 1; omega) _
      have HSZ : Hid (w.heap.size + 4 ≤ w1.heap.size) := by have := hb1.size; rw [HS4.out] at this; exact this
      have HP := hide hP
      have HQ := hide (And.intro q0 hT.2)
      generalize ew : (w1.setCell ⟨w.heap.size + 1 + 1 + 1, 0, none⟩ (.slice p1 SA pc1)).setCell ⟨w.heap.size + 1 + 1 + 1, 1, none⟩ (.slice p2 CA pc2) = wr at *
      have HFIN : Hid (∀ a b c, GivesC (n + 1) (k, N, [y]) w (.returned (.agg #[.int .i64 k, .int .i64 N, .slice (some ⟨w.heap.size + 1 + 1 + 1, 0, none⟩) 1 1])) (((wr.setCell ⟨w.heap.size + 1, 0, none⟩ a).setCell ⟨w.heap.size + 1, 1, none⟩ b).setCell ⟨w.heap.size + 1, 2, none⟩ c)) := by
        intro a b c
        have hk2 : Keeps (w.heap.size + 2) wr (((wr.setCell ⟨w.heap.size + 1, 0, none⟩ a).setCell ⟨w.heap.size + 1, 1, none⟩ b).setCell ⟨w.heap.size + 1, 2, none⟩ c) := (((Keeps.refl _ _).setCell (p := ⟨w.heap.size + 1, 0, none⟩) (by show w.heap.size + 1 < _; omega) _).setCell (p := ⟨w.heap.size + 1, 1, none⟩) (by show w.heap.size + 1 < _; omega) _).setCell (p := ⟨w.heap.size + 1, 2, none⟩) (by show w.heap.size + 1 < _; omega) _
        have hbw : BelowS w.heap.size w (((wr.setCell ⟨w.heap.size + 1, 0, none⟩ a).setCell ⟨w.heap.size + 1, 1, none⟩ b).setCell ⟨w.heap.size + 1, 2, none⟩ c) := ((HBW.out.setCell (p := ⟨w.heap.size + 1, 0, none⟩) (by show w.heap.size ≤ w.heap.size + 1; omega) _).setCell (p := ⟨w.heap.size + 1, 1, none⟩) (by show w.heap.size ≤ w.heap.size + 1; omega) _).setCell (p := ⟨w.heap.size + 1, 2, none⟩) (by show w.heap.size ≤ w.heap.size + 1; omega) _
        have hsz := HSZ.out
        have hszr := HK.out.1
        refine ⟨⟨_, _, rfl, rfl, rfl, _, _, rfl, by simp, Or.inr ⟨w.heap.size + 1 + 1 + 1, 0, rfl, by omega, Nat.lt_of_lt_of_le (by omega) hk2.1, ?_⟩⟩, hbw⟩
        intro j hj
        have hj0 : j = 0 := by simpa using hj
        subst hj0
        refine ⟨_, _, (hk2.cell (p := ⟨w.heap.size + 1 + 1 + 1, 0 + 0 * 2, none⟩) (by show w.heap.size + 2 ≤ w.heap.size + 1 + 1 + 1; omega) (by show w.heap.size + 1 + 1 + 1 < _; omega)).trans HQ.out.1, (hk2.cell (p := ⟨w.heap.size + 1 + 1 + 1, 0 + 0 * 2 + 1, none⟩) (by show w.heap.size + 2 ≤ w.heap.size + 1 + 1 + 1; omega) (by show w.heap.size + 1 + 1 + 1 < _; omega)).trans HQ.out.2, ?_⟩
        have h4 := HP.out
        rw [HS4.out] at h4
        have h5 : ArIn (n + 1) (w.heap.size + 4) wr y (.agg #[.slice p1 SA pc1, .slice p2 CA pc2]) := h4.keeps HK.out
        exact ((h5.mono (lo' := w.heap.size + 2) (by omega) (Below.refl _ _)).keeps hk2).mono (by omega) (Below.refl _ _)
      have HR : Hid ((wr.setCell ⟨w.heap.size + 1, 0, none⟩ (.int .i64 k)).cell? ⟨w.heap.size + 1, 0, none⟩ = some (.int .i64 k) ∧ ((wr.setCell ⟨w.heap.size + 1, 0, none⟩ (.int .i64 k)).setCell ⟨w.heap.size + 1, 1, none⟩ (.int .i64 N)).cell? ⟨w.heap.size + 1, 1, none⟩ = some (.int .i64 N) ∧ (((wr.setCell ⟨w.heap.size + 1, 0, none⟩ (.int .i64 k)).setCell ⟨w.heap.size + 1, 1, none⟩ (.int .i64 N)).setCell ⟨w.heap.size + 1, 2, none⟩ (.slice (some ⟨w.heap.size + 1 + 1 + 1, 0, none⟩) 1 1)).cell? ⟨w.heap.size + 1, 2, none⟩ = some (.slice (some ⟨w.heap.size + 1 + 1 + 1, 0, none⟩) 1 1)) := by
        have t := set_two y0 y1 (.int .i64 k) (.int .i64 N)
        refine ⟨t.1, t.2, World.cell?_setCell_same' _ _ _ ?_⟩
        rw [World.cell?_setCell_other _ _ _ _ (by simp), World.cell?_setCell_other _ _ _ _ (by simp), y2]
        rfl
      clear AP tc td tf z hT q0 hP hb1 t0 t1 t2 t3 HK HBW HSZ HP HQ HF HB4 HS4 C h0 h1 hs2 ne1 ew
      go_wp2
      exact bodyPost_ret (v := .agg #[.int .i64 k, .int .i64 N, .slice (some ⟨w.heap.size + 1 + 1 + 1, 0, none⟩) 1 1]) (by simp [results, Try.results84, go_sem, HR.out.1, HR.out.2.1, HR.out.2.2]) rfl (HFIN.out _ _ _)
/-- What the copy of an array that may be promises. -/
def CopyC (n : Nat) : Prop := ∀ r x lo va w, chkA r x = 0 → ArIn n lo w x va → Calls Try.prog 59 #[va] w fun e w' => GivesS n x w e w'
theorem copyCell_any (n : Nat) (IH : CopyC n) (f : Ar → Int) (hf : ∀ y, f y = 0 → ∃ r, chkA r y = 0) (c : Ce) (hc : chkC f c = 0) (lo : Nat) (w : World) (v0 v1 v2 : Value) (h : CeIn (ArIn n lo w) lo w c v0 v1 v2) :
    Calls Try.prog 84 #[.agg #[v0, v1, v2]] w fun e w' => GivesC n c w e w' := by
  obtain ⟨rfl, rfl, a, cap, rfl, hl, hx⟩ := h
  obtain ⟨k, N, box⟩ := c
  simp only at hl hx hc ⊢
  unfold chkC at hc
  by_cases h1 : k = 2 ∧ N = 0 ∧ box.length = 1
  · rw [if_pos h1] at hc
    obtain ⟨-, -, hb1⟩ := h1
    rcases hx with hx | ⟨b, off, rfl, hlo, hb, hx⟩
    · subst hx; simp at hb1
    · obtain ⟨u0, u1, e0, e1, e2⟩ := hx 0 (by omega)
      simp only [Nat.zero_mul, Nat.add_zero] at e0 e1
      obtain ⟨r, hr⟩ := hf _ hc
      have hbox : box = [bAt box 0] := by
        match box, hb1 with
        | [y], _ => rfl
      have := copyCell_one n k N (bAt box 0) b off cap u0 u1 lo w hb e0 e1 e2 fun lo vb w hy => IH r _ lo vb w hr hy
      rw [hbox]
      exact this
  · rw [if_neg h1] at hc
    by_cases h2 : box.length = 0 ∧ (k = 0 ∨ k = 1 ∧ Good N)
    · have hb : box = [] := List.eq_nil_of_length_eq_zero h2.1
      subst hb
      exact copyCell_none n k N a cap w
    · simp only at hc
      rw [if_neg h2] at hc
      omega
end Go.Proofs.Ytimkcpbgnoekcaa
namespace Go.Proofs.Ytimkcpbgnoekcaa
open Go.ChangeShapes Go.WideShapes Go.ChangeAt Go.RowKit
set_option linter.unusedVariables false
set_option maxRecDepth 100000
theorem firstUp_none {f : Nat → Int} {m : Nat} (h : firstUp f m = 0) : ∀ i, i < m → f i = 0 := fun i hi => by
  rw [← firstUp_step (firstUp_zero h i (by omega))]
  exact firstUp_zero h (i + 1) hi
/-- What is known of an array that may be. -/
theorem chk_ok {r : Nat} {x : Ar} (h : chkA r x = 0) : ∃ f : Ar → Int, (∀ y, f y = 0 → ∃ r, chkA r y = 0) ∧ x.shape.length ≤ 8 ∧ x.cells.length ≤ 16384 ∧ ∀ i, i < x.cells.length → chkC f (cAt x.cells i) = 0 := by
  have key : ∀ f : Ar → Int, chkB f x = 0 → x.shape.length ≤ 8 ∧ x.cells.length ≤ 16384 ∧ ∀ i, i < x.cells.length → chkC f (cAt x.cells i) = 0 := by
    intro f hb
    unfold chkB at hb
    by_cases h1 : sizeE x.shape = 0
    · rw [if_neg (fun k => k h1)] at hb
      by_cases h2 : sizeV x.shape = x.cells.length
      · rw [if_neg (fun k => k h2)] at hb
        by_cases h3 : hasLong x.shape
        · rw [if_pos h3] at hb; omega
        · rw [if_neg h3] at hb
          obtain ⟨s1, s2, s3⟩ := sizeE_ok h1
          refine ⟨by omega, ?_, firstUp_none hb⟩
          rcases s3 with s3 | ⟨s3, s4⟩
          · have := (size_zero s1 s2 s3).1
            omega
          · have := (size_ok s1 s2 s3 (by omega)).1
            omega
      · rw [if_pos h2] at hb; omega
    · rw [if_pos h1] at hb; exact absurd hb h1
  cases r with
  | zero => exact ⟨fun _ => 15, fun y hy => absurd (show (15 : Int) = 0 from hy) (by decide), key _ h⟩
  | succ r => exact ⟨chkA r, fun y hy => ⟨r, hy⟩, key _ h⟩
theorem setCells_block (b : Nat) (vs : List Value) (o : Nat) (w : World) : (w.setCells b o vs).heap.size = w.heap.size ∧ ∀ k, k ≠ b → (w.setCells b o vs).heap[k]? = w.heap[k]? := by
  induction vs generalizing o w with
  | nil => exact ⟨rfl, fun _ _ => rfl⟩
  | cons v vs ih =>
    obtain ⟨h1, h2⟩ := ih (o + 1) (w.setCell ⟨b, o, none⟩ v)
    refine ⟨by show (((w.setCell ⟨b, o, none⟩ v).setCells b (o + 1) vs)).heap.size = _; rw [h1]; simp, fun k hk => ?_⟩
    show (((w.setCell ⟨b, o, none⟩ v).setCells b (o + 1) vs)).heap[k]? = _
    rw [h2 k hk]
    exact BelowS.heap_setCell w _ v k hk
theorem below_setCells {B : Nat} {a : World} (b : Nat) (hB : B ≤ b) (vs : List Value) (o : Nat) (w : World) (h : BelowS B a w) : BelowS B a (w.setCells b o vs) := by
  induction vs generalizing o w with
  | nil => exact h
  | cons v vs ih => exact ih (o + 1) _ (h.setCell (p := ⟨b, o, none⟩) hB v)
/-- copy into a row of the call's own, whatever the source. -/
theorem run_copy_any {P : Program} {w : World} (ty : TypeId) (hu : P.underlying 22 = some (.slice 3)) (hsz : (P.info? 3).map (·.size) = some 1)
    (b L dCap : Nat) (sp : Option Addr) (sCap : Nat) (cs : List Value) (hn : cs.length = L)
    (hsrc : 0 < cs.length → ∃ ad, sp = some ad ∧ ∀ j v, cs[j]? = some v → w.cell? (ad.add j) = some v) (hc : ∀ j, j < cs.length → (w.cell? ⟨b, 0 + j, none⟩).isSome = true) (hf : ∀ j, j < cs.length → w.frozen? ⟨b, 0 + j, none⟩ = false) (h1 : ∀ v ∈ cs, v.oneCell' = true) :
    (Builtin.copy_ #[22, 22] ty #[.slice (some ⟨b, 0, none⟩) L dCap, .slice sp L sCap]).run P w = .ok (goInt L) (w.setCells b 0 cs) := by
  subst hn
  by_cases h0 : cs.length = 0
  · have hcs : cs = [] := List.eq_nil_of_length_eq_zero h0
    subst hcs
    exact run_copy_none (P := P) w 22 22 ty 3 (some ⟨b, 0, none⟩) sp 0 dCap 0 sCap hu hsz rfl
  · obtain ⟨ad, rfl, hsr⟩ := hsrc (by omega)
    exact run_copy_cells (P := P) w 22 22 ty 3 b 0 cs.length dCap ad cs.length sCap cs hu hsz (Nat.min_self _).symm hsr hc hf h1
theorem size3 : (Try.prog.info? 3).map (·.size) = some 1 := by kernel_rfl
theorem alloc3 (W : World) (o1 o2 o3 : Obj) : (((W.alloc o1).alloc o2).alloc o3).drew.heap[W.heap.size]? = some o1 ∧ (((W.alloc o1).alloc o2).alloc o3).drew.heap[W.heap.size + 1]? = some o2 ∧ (((W.alloc o1).alloc o2).alloc o3).drew.heap[W.heap.size + 2]? = some o3 ∧ (((W.alloc o1).alloc o2).alloc o3).drew.heap.size = W.heap.size + 3 ∧ (softO o1 → softO o2 → softO o3 → BelowS W.heap.size W (((W.alloc o1).alloc o2).alloc o3).drew) := by
  have hh : (((W.alloc o1).alloc o2).alloc o3).drew.heap = ((W.heap.push o1).push o2).push o3 := rfl
  rw [hh]
  have z1 : (W.heap.push o1).size = W.heap.size + 1 := by simp
  have z2 : ((W.heap.push o1).push o2).size = W.heap.size + 2 := by simp
  refine ⟨?_, ?_, ?_, by simp, ?_⟩
  · rw [Array.getElem?_push, z2, if_neg (by omega), Array.getElem?_push, z1, if_neg (by omega), Array.getElem?_push, if_pos rfl]
  · rw [Array.getElem?_push, z2, if_neg (by omega), Array.getElem?_push, z1, if_pos rfl]
  · rw [Array.getElem?_push, z2, if_pos rfl]
  exact fun h1 h2 h3 => ((((BelowS.refl _ _).alloc (Nat.le_refl _) _ h1).alloc (by simp) _ h2).alloc (by simp; omega) _ h3).drew
/-- Where Copy stands when its memory is made: the shape's row, the cells' row, the answer, in whatever order they were made. -/
def Pre (w W2 : World) (SA CA bs bc bo : Nat) (W : World) : Prop :=
  W.heap.size = w.heap.size + 5 ∧ BelowS (w.heap.size + 2) W2 W ∧ ((w.heap.size + 2 ≤ bs ∧ bs < w.heap.size + 5) ∧ (w.heap.size + 2 ≤ bc ∧ bc < w.heap.size + 5) ∧ (w.heap.size + 2 ≤ bo ∧ bo < w.heap.size + 5) ∧ bs ≠ bc ∧ bs ≠ bo ∧ bc ≠ bo) ∧
  W.heap[bs]? = some (.cells (madeCells #[.int .i64 0] SA) 3) ∧ W.heap[bc]? = some (.cells (madeCells #[.int .i64 0, .int .i64 0, .slice none 0 0] (CA * 3)) 39) ∧ W.heap[bo]? = some (.cells #[.slice (some ⟨bs, 0, none⟩) SA SA, .slice (some ⟨bc, 0, none⟩) CA CA] 25)
/-- The copied cells so far, one more stored behind them. -/
theorem fam_step {n L : Nat} {wr w1 : World} {cs : List Ce} {bc CA j : Nat} {F : Nat → Value} (hL : bc < L) (hw : Below wr.heap.size wr w1) (hbw : bc < wr.heap.size) (hr : wr.rowIs bc 39 (CA * 3) F)
    (hF : ∀ i, i < j → CeIn (ArIn n L wr) L wr (cAt cs i) (F (i * 3)) (F (i * 3 + 1)) (F (i * 3 + 2))) (v0 v1 v2 : Value) (hnew : CeIn (ArIn n L w1) L w1 (cAt cs j) v0 v1 v2) :
    ∃ F', (((w1.setCell ⟨bc, j * 3, none⟩ v0).setCell ⟨bc, j * 3 + 1, none⟩ v1).setCell ⟨bc, j * 3 + 2, none⟩ v2).rowIs bc 39 (CA * 3) F' ∧
      ∀ i, i < j + 1 → CeIn (ArIn n L (((w1.setCell ⟨bc, j * 3, none⟩ v0).setCell ⟨bc, j * 3 + 1, none⟩ v1).setCell ⟨bc, j * 3 + 2, none⟩ v2)) L (((w1.setCell ⟨bc, j * 3, none⟩ v0).setCell ⟨bc, j * 3 + 1, none⟩ v1).setCell ⟨bc, j * 3 + 2, none⟩ v2) (cAt cs i) (F' (i * 3)) (F' (i * 3 + 1)) (F' (i * 3 + 2)) := by
  have r1 : w1.rowIs bc 39 (CA * 3) F := hr.of_block (hw.block bc hbw)
  have hk : Keeps L w1 (((w1.setCell ⟨bc, j * 3, none⟩ v0).setCell ⟨bc, j * 3 + 1, none⟩ v1).setCell ⟨bc, j * 3 + 2, none⟩ v2) := (((Keeps.refl _ _).setCell (p := ⟨bc, j * 3, none⟩) hL v0).setCell (p := ⟨bc, j * 3 + 1, none⟩) hL v1).setCell (p := ⟨bc, j * 3 + 2, none⟩) hL v2
  refine ⟨_, ((r1.set (j * 3) v0).set (j * 3 + 1) v1).set (j * 3 + 2) v2, ?_⟩
  intro i hi
  rcases Nat.lt_succ_iff_lt_or_eq.1 hi with h | rfl
  · have := ((hF i h).mono (Nat.le_refl _) hw fun x v hx => hx.next hw).keeps hk fun x v hx => hx.keeps hk
    have e0 : (if i * 3 = j * 3 + 2 then v2 else if i * 3 = j * 3 + 1 then v1 else if i * 3 = j * 3 then v0 else F (i * 3)) = F (i * 3) := by rw [if_neg (by omega), if_neg (by omega), if_neg (by omega)]
    have e1 : (if i * 3 + 1 = j * 3 + 2 then v2 else if i * 3 + 1 = j * 3 + 1 then v1 else if i * 3 + 1 = j * 3 then v0 else F (i * 3 + 1)) = F (i * 3 + 1) := by rw [if_neg (by omega), if_neg (by omega), if_neg (by omega)]
    have e2 : (if i * 3 + 2 = j * 3 + 2 then v2 else if i * 3 + 2 = j * 3 + 1 then v1 else if i * 3 + 2 = j * 3 then v0 else F (i * 3 + 2)) = F (i * 3 + 2) := by rw [if_neg (by omega), if_neg (by omega), if_neg (by omega)]
    rw [e0, e1, e2]
    exact this
  · have := hnew.keeps hk fun x v hx => hx.keeps hk
    have e0 : (if i * 3 = i * 3 + 2 then v2 else if i * 3 = i * 3 + 1 then v1 else if i * 3 = i * 3 then v0 else F (i * 3)) = v0 := by rw [if_neg (by omega), if_neg (by omega), if_pos rfl]
    have e1 : (if i * 3 + 1 = i * 3 + 2 then v2 else if i * 3 + 1 = i * 3 + 1 then v1 else if i * 3 + 1 = i * 3 then v0 else F (i * 3 + 1)) = v1 := by rw [if_neg (by omega), if_pos rfl]
    have e2 : (if i * 3 + 2 = i * 3 + 2 then v2 else if i * 3 + 2 = i * 3 + 1 then v1 else if i * 3 + 2 = i * 3 then v0 else F (i * 3 + 2)) = v2 := by rw [if_pos rfl]
    rw [e0, e1, e2]
    exact this
/-- The shape's row lies in a block of its own: the cells stay what they are whatever is written there. -/
def Apart (n lo : Nat) (w : World) (x : Ar) (v : Value) : Prop := ∃ bs bc, v = .agg #[.slice (some ⟨bs, 0, none⟩) x.shape.length x.shape.length, .slice (some ⟨bc, 0, none⟩) x.cells.length x.cells.length] ∧ lo ≤ bs ∧ bs < w.heap.size ∧ (∀ i, i < x.shape.length → w.cell? ⟨bs, i, none⟩ = some (.int .i64 (x.shape[i]?.getD 0))) ∧
  ∀ w' : World, w.heap.size ≤ w'.heap.size → (∀ k, k < w.heap.size → k ≠ bs → w'.heap[k]? = w.heap[k]?) → CellsIn n lo w' x.cells (some ⟨bc, 0, none⟩)
def GivesT (n : Nat) (x : Ar) (w : World) (e : Ending) (w' : World) : Prop := (∃ v, e = .returned v ∧ ArIn (n + 1) w.heap.size w' x v ∧ Apart n w.heap.size w' x v) ∧ BelowS w.heap.size w w'
set_option maxHeartbeats 8000000 in
theorem copy_own (n : Nat) (IH : CopyC n) : ∀ r x lo va w, chkA r x = 0 → ArIn (n + 1) lo w x va → Calls Try.prog 59 #[va] w fun e w' => GivesT n x w e w' := by
  intro r x lo va w hchk hx
  obtain ⟨a1, c1, a2, c2, rfl, R, hl, hc⟩ := hx
  obtain ⟨f, hf, hS8, hC16, hcs⟩ := chk_ok hchk
  have mk1 := run_make_row' (P := Try.prog) 22 3 (.int .i64 0) 8 Try.underlying22 int3 rfl .i64 .i64 x.shape.length (by omega) (by omega)
  have mk2 := make_cells x.cells.length hl
  obtain ⟨W2, e2⟩ : ∃ W2, W2 = (w.alloc (.cells #[.slice a1 x.shape.length c1, .slice a2 x.cells.length c2] 25)).alloc (.cells #[.slice none 0 0, .slice none 0 0] 25) := ⟨_, rfl⟩
  have B2 : BelowS w.heap.size w W2 := by rw [e2]; exact two_allocsS _ _ _
  have s2 : W2.heap.size = w.heap.size + 2 := by rw [e2]; exact size_two _ _ _
  have q0 : W2.cell? ⟨w.heap.size, 0, none⟩ = some (.slice a1 x.shape.length c1) := by rw [e2]; exact cell_new1 w _ 25 (0, 0) _ 0 _ rfl
  have q1 : W2.cell? ⟨w.heap.size, 1, none⟩ = some (.slice a2 x.cells.length c2) := by rw [e2]; exact cell_new1 w _ 25 (0, 0) _ 1 _ rfl
  have p0 : W2.cell? ⟨w.heap.size + 1, 0, none⟩ = some (.slice none 0 0) := by rw [e2]; exact cell_new2 w _ 25 (0, 0) _ 0 _ rfl
  have p1 : W2.cell? ⟨w.heap.size + 1, 1, none⟩ = some (.slice none 0 0) := by rw [e2]; exact cell_new2 w _ 25 (0, 0) _ 1 _ rfl
  have pf : ∀ i, W2.frozen? ⟨w.heap.size + 1, i, none⟩ = false := by
    intro i
    have := frozen_new (w.alloc (.cells #[.slice a1 x.shape.length c1, .slice a2 x.cells.length c2] 25)) #[.slice none 0 0, .slice none 0 0] 25 i
    have s1 : (w.alloc (.cells #[.slice a1 x.shape.length c1, .slice a2 x.cells.length c2] 25)).heap.size = w.heap.size + 1 := by simp
    rw [s1] at this
    rw [e2]
    exact this
  have HX : Hid (Row lo w a1 x.shape) := R
  have HCS : Hid (∀ i, i < x.cells.length → ∃ b off z0 z1 ab nb cb, a2 = some ⟨b, off, none⟩ ∧ ∀ wr, BelowS w.heap.size w wr → (wr.cell? ⟨b, off + i * 3, none⟩ = some (.int .i64 z0) ∧ wr.cell? ⟨b, off + i * 3 + 1, none⟩ = some (.int .i64 z1) ∧ wr.cell? ⟨b, off + i * 3 + 2, none⟩ = some (.slice ab nb cb)) ∧ Calls Try.prog 84 #[.agg #[.int .i64 z0, .int .i64 z1, .slice ab nb cb]] wr fun e w' => (∃ a' cap', e = .returned (.agg #[.int .i64 z0, .int .i64 z1, .slice a' nb cap']) ∧ CeIn (ArIn n wr.heap.size w') wr.heap.size w' (cAt x.cells i) (.int .i64 z0) (.int .i64 z1) (.slice a' nb cap')) ∧ BelowS wr.heap.size wr w') := by
    intro i hi
    obtain ⟨b, off, z0, z1, ab, nb, cb, ha, h⟩ := cells_at hc i hi
    refine ⟨b, off, z0, z1, ab, nb, cb, ha, fun wr hw => ?_⟩
    obtain ⟨g0, g1, g2, g3⟩ := h wr hw.b
    refine ⟨⟨g0, g1, g2⟩, (copyCell_any n IH f hf _ (hcs i hi) lo wr _ _ _ g3).mono ?_⟩
    obtain ⟨h0, h1, a', cap', h2, -⟩ := g3
    simp only [Value.int.injEq, true_and, Value.slice.injEq] at h0 h1 h2
    obtain ⟨-, rfl, -⟩ := h2
    subst h0 h1
    exact fun e w' h => h
  have HL := hide R.1
  clear R hc IH hcs hchk hf
  have HAR : Hid (∀ (W : World) (a1' a2' : Option Addr) (k1 k2 : Nat), Row w.heap.size W a1' x.shape → CellsIn n w.heap.size W x.cells a2' → ArIn (n + 1) w.heap.size W x (.agg #[.slice a1' x.shape.length k1, .slice a2' x.cells.length k2])) := fun W a1' a2' k1 k2 hr hcc => arIn_mk hr hl hcc rfl rfl
  generalize hSA : x.shape.length = SA at *
  generalize hCA : x.cells.length = CA at *
  go_enter Try.func59, Try.ntmps59
  go_wp2
  go_cut [3] from 6 (fun s3 wx => ∃ bs bc bo, s3 = .pointer (some ⟨bo, 0, none⟩) ∧ Pre w W2 SA CA bs bc bo wx)
  case first =>
    have AL := fun o1 o2 o3 => alloc3 W2 o1 o2 o3
    rw [s2] at AL
    have HAL := hide AL
    clear AL
    go_region
    all_goals
      go_wp2
      go_meet
    all_goals
      case rel =>
        rw [← e2]
        obtain ⟨A, B, C, D, E⟩ := HAL.out _ _ _
        first
          | exact ⟨w.heap.size + 2, w.heap.size + 3, w.heap.size + 4, rfl, D, E rfl rfl rfl, by omega, A, B, C⟩
          | exact ⟨w.heap.size + 2, w.heap.size + 4, w.heap.size + 3, rfl, D, E rfl rfl rfl, by omega, A, C, B⟩
          | exact ⟨w.heap.size + 3, w.heap.size + 2, w.heap.size + 4, rfl, D, E rfl rfl rfl, by omega, B, A, C⟩
          | exact ⟨w.heap.size + 4, w.heap.size + 2, w.heap.size + 3, rfl, D, E rfl rfl rfl, by omega, C, A, B⟩
          | exact ⟨w.heap.size + 3, w.heap.size + 4, w.heap.size + 2, rfl, D, E rfl rfl rfl, by omega, B, C, A⟩
          | exact ⟨w.heap.size + 4, w.heap.size + 3, w.heap.size + 2, rfl, D, E rfl rfl rfl, by omega, C, B, A⟩
  case rest =>
    obtain ⟨bs, bc, bo, rfl, hz, E, ⟨⟨i1, i2⟩, ⟨i3, i4⟩, ⟨i5, i6⟩, i7, i8, i9⟩, hbs, hbc, hbo⟩ := hcut
    have cellof : ∀ (b i : Nat) (cs : Array Value) (t : TypeId) (v : Value), wc.heap[b]? = some (.cells cs t) → cs[i]? = some v → wc.cell? ⟨b, i, none⟩ = some v := by
      intro b i cs t v h hi
      unfold World.cell?
      simp only [h, hi]
      rfl
    have Q0 : wc.cell? ⟨w.heap.size, 0, none⟩ = some (.slice a1 SA c1) := (E.cell (p := ⟨w.heap.size, 0, none⟩) (by show w.heap.size < _; omega)).trans q0
    have O0 : wc.cell? ⟨bo, 0, none⟩ = some (.slice (some ⟨bs, 0, none⟩) SA SA) := cellof _ _ _ _ _ hbo rfl
    have RB : wc.rowIs bs 3 SA (fun _ => .int .i64 0) := ⟨_, hbs, size_madeCells _ _, fun i hi => by simp [madeCells, hi, Nat.mod_one]⟩
    have BW : BelowS w.heap.size w wc := B2.trans (E.mono (by omega))
    have HSRC : Hid (0 < (x.shape.map (Value.int .i64)).length → ∃ ad, a1 = some ad ∧ ∀ j v, (x.shape.map (Value.int .i64))[j]? = some v → wc.cell? (ad.add j) = some v) := by
      intro h0
      rcases HX.out.2 with h | ⟨b, off, ha, hlo, hb, hcell⟩
      · rw [h] at h0; simp at h0
      · refine ⟨⟨b, off, none⟩, ha, fun j v hv => ?_⟩
        have hj : j < x.shape.length := by
          rcases Nat.lt_or_ge j x.shape.length with h' | h'
          · exact h'
          · simp [List.getElem?_eq_none h'] at hv
        have ea : (⟨b, off, none⟩ : Addr).add j = ⟨b, off + j, none⟩ := by
          unfold Addr.add
          split
          · subst_vars; rfl
          · rfl
        rw [ea]
        refine (BW.cell (p := ⟨b, off + j, none⟩) hb).trans ((hcell j hj).trans ?_)
        rw [List.getElem?_map, List.getElem?_eq_getElem hj] at hv
        rw [List.getElem?_eq_getElem hj]
        simpa using hv
    have hml : (x.shape.map (Value.int .i64)).length = SA := by rw [List.length_map]; exact hSA
    have HC1 : Hid (∀ j, j < (x.shape.map (Value.int .i64)).length → (wc.cell? ⟨bs, 0 + j, none⟩).isSome = true) := by
      intro j hj
      rw [Nat.zero_add, RB.cell (by omega)]; rfl
    have HF1 : Hid (∀ j, j < (x.shape.map (Value.int .i64)).length → wc.frozen? ⟨bs, 0 + j, none⟩ = false) := by
      intro j hj
      rw [Nat.zero_add]; exact RB.frozen j
    have HO1 : Hid (∀ v ∈ x.shape.map (Value.int .i64), v.oneCell' = true) := by
      intro v hv
      obtain ⟨z, _, rfl⟩ := List.mem_map.1 hv
      rfl
    have hrun := run_copy_any (P := Try.prog) (w := wc) 3 Try.underlying22 size3 bs SA SA a1 c1 (x.shape.map (Value.int .i64)) hml HSRC.out HC1.out HF1.out HO1.out
    have SB := setCells_block bs (x.shape.map (Value.int .i64)) 0 wc
    have SIN := World.cell?_setCells_in bs (x.shape.map (Value.int .i64)) 0 wc (fun j hj => HC1.out j hj)
    have BB := below_setCells bs (show w.heap.size ≤ bs by omega) (x.shape.map (Value.int .i64)) 0 wc BW
    have hROW : ∀ i, i < x.shape.length → (wc.setCells bs 0 (x.shape.map (Value.int .i64))).cell? ⟨bs, i, none⟩ = some (.int .i64 (x.shape[i]?.getD 0)) := by
      intro i hi
      have := SIN i (by simpa using hi)
      rw [Nat.zero_add] at this
      rw [this]
      simp [hi]
    generalize wc.setCells bs 0 (x.shape.map (Value.int .i64)) = w3 at hrun SB BB hROW
    have HROW := hide hROW
    have tr3 : ∀ b i v, b ≠ bs → wc.cell? ⟨b, i, none⟩ = some v → w3.cell? ⟨b, i, none⟩ = some v := fun b i v hne hv => by
      rw [World.cell?_of_block (w := wc) (SB.2 b hne)]; exact hv
    have tf3 : ∀ b i, b ≠ bs → wc.frozen? ⟨b, i, none⟩ = false → w3.frozen? ⟨b, i, none⟩ = false := fun b i hne hv => by
      rw [World.frozen?_of_block (w := wc) (SB.2 b hne)]; exact hv
    have Q1 : w3.cell? ⟨w.heap.size, 1, none⟩ = some (.slice a2 CA c2) := tr3 _ _ _ (by omega) ((E.cell (p := ⟨w.heap.size, 1, none⟩) (by show w.heap.size < _; omega)).trans q1)
    have O3 : w3.cell? ⟨bo, 0, none⟩ = some (.slice (some ⟨bs, 0, none⟩) SA SA) := tr3 _ _ _ (by omega) O0
    have O4 : w3.cell? ⟨bo, 1, none⟩ = some (.slice (some ⟨bc, 0, none⟩) CA CA) := tr3 _ _ _ (by omega) (cellof _ _ _ _ _ hbo rfl)
    have P3 : w3.cell? ⟨w.heap.size + 1, 0, none⟩ = some (.slice none 0 0) := tr3 _ _ _ (by omega) ((E.cell (p := ⟨w.heap.size + 1, 0, none⟩) (by show w.heap.size + 1 < _; omega)).trans p0)
    have P4 : w3.cell? ⟨w.heap.size + 1, 1, none⟩ = some (.slice none 0 0) := tr3 _ _ _ (by omega) ((E.cell (p := ⟨w.heap.size + 1, 1, none⟩) (by show w.heap.size + 1 < _; omega)).trans p1)
    have P5 : ∀ i, w3.frozen? ⟨w.heap.size + 1, i, none⟩ = false := fun i => tf3 _ _ (by omega) ((E.frozen (p := ⟨w.heap.size + 1, i, none⟩) (by show w.heap.size + 1 < _; omega)).trans (pf i))
    have hz3 : w3.heap.size = w.heap.size + 5 := SB.1.trans hz
    have RC : w3.rowIs bc 39 (CA * 3) zero3 := by
      have h0 : wc.rowIs bc 39 (CA * 3) zero3 := by
        obtain ⟨c, h1, h2, h3⟩ := rowIs_made3 wc (CA * 3)
        have e : c = madeCells #[.int .i64 0, .int .i64 0, .slice none 0 0] (CA * 3) := by
          have h4 : (wc.alloc (.cells (madeCells #[.int .i64 0, .int .i64 0, .slice none 0 0] (CA * 3)) 39)).heap[wc.heap.size]? = some (.cells (madeCells #[.int .i64 0, .int .i64 0, .slice none 0 0] (CA * 3)) 39) := by
            show (wc.heap.push _)[wc.heap.size]? = _
            simp
          rw [h4] at h1
          simp only [Option.some.injEq, Obj.cells.injEq, true_and] at h1
          exact h1.1.symm
        exact ⟨c, by rw [e]; exact hbc, h2, h3⟩
      exact h0.of_block (SB.2 bc (fun h => i7 h.symm))
    /- What a world in the loop still holds of the memory that was made before. -/
    have HKP : Hid (∀ wr : World, (∀ k, k < w.heap.size + 5 → k ≠ bc → wr.heap[k]? = w3.heap[k]?) → wr.cell? ⟨bo, 0, none⟩ = some (.slice (some ⟨bs, 0, none⟩) SA SA) ∧ wr.cell? ⟨bo, 1, none⟩ = some (.slice (some ⟨bc, 0, none⟩) CA CA) ∧ wr.cell? ⟨w.heap.size + 1, 0, none⟩ = some (.slice none 0 0) ∧ wr.cell? ⟨w.heap.size + 1, 1, none⟩ = some (.slice none 0 0) ∧ (∀ i, wr.frozen? ⟨w.heap.size + 1, i, none⟩ = false) ∧ ∀ i, i < x.shape.length → wr.cell? ⟨bs, i, none⟩ = some (.int .i64 (x.shape[i]?.getD 0))) := by
      intro wr h
      have t : ∀ b i v, b < w.heap.size + 5 → b ≠ bc → w3.cell? ⟨b, i, none⟩ = some v → wr.cell? ⟨b, i, none⟩ = some v := fun b i v h1 h2 h3 => by
        rw [World.cell?_of_block (w := w3) (h b h1 h2)]; exact h3
      exact ⟨t _ _ _ (by omega) (by omega) O3, t _ _ _ (by omega) (by omega) O4, t _ _ _ (by omega) (by omega) P3, t _ _ _ (by omega) (by omega) P4, fun i => by
        rw [World.frozen?_of_block (w := w3) (h (w.heap.size + 1) (by omega) (by omega))]; exact P5 i, fun i hi => t _ _ _ (by omega) (by omega) (HROW.out i hi)⟩
    have HBB := hide BB
    have HZ3 := hide hz3
    have HRC := hide RC
    have HLT : Hid (w.heap.size + 2 ≤ bs ∧ w.heap.size + 2 ≤ bc ∧ bs < w.heap.size + 5 ∧ bc < w.heap.size + 5 ∧ bo < w.heap.size + 5 ∧ bs ≠ bc ∧ bo ≠ bc ∧ w.heap.size + 2 ≤ bo) := ⟨i1, i3, i2, i4, i6, i7, fun h => i9 h.symm, i5⟩
    clear cellof RB BW HSRC hml HC1 HF1 HO1 SB SIN BB hROW tr3 tf3 O3 O4 P3 P4 P5 hz3 RC HROW HX E hbs hbc hbo q0 q1 p0 p1 pf B2 s2 e2 mk1 mk2 hz
    go_wp2
    go_loopw [23] (fun i wr => ∃ j : Nat, j ≤ CA ∧ i = .int .i64 (j : Int) ∧ BelowS w.heap.size w wr ∧ w.heap.size + 5 ≤ wr.heap.size ∧ (∀ k, k < w.heap.size + 5 → k ≠ bc → wr.heap[k]? = w3.heap[k]?) ∧ ∃ F, wr.rowIs bc 39 (CA * 3) F ∧ ∀ i, i < j → CeIn (ArIn n (w.heap.size + 5) wr) (w.heap.size + 5) wr (cAt x.cells i) (F (i * 3)) (F (i * 3 + 1)) (F (i * 3 + 2))) (fun i _ => CA - (intOf i).toNat)
    case atStart => exact ⟨0, Nat.zero_le _, rfl, HBB.out, by rw [HZ3.out]; exact Nat.le_refl _, fun _ _ _ => rfl, zero3, HRC.out, fun i hi => absurd hi (by omega)⟩
    case round =>
      obtain ⟨j, hj, rfl, hnx, hsz, hkeep, F, hr, hF⟩ := hrel
      obtain ⟨t0, t1, t2, t3, t4, t5⟩ := HKP.out wr hkeep
      by_cases hlt : j < CA
      · obtain ⟨b, off, z0, z1, ab, nb, cb, rfl, hcs⟩ := HCS.out j hlt
        obtain ⟨⟨k0, k1, k2⟩, -⟩ := hcs wr hnx
        have hal := hnx.alloc hnx.size (.cells #[.int .i64 z0, .int .i64 z1, .slice ab nb cb] 39)
        have hsa : ((wr.alloc (.cells #[.int .i64 z0, .int .i64 z1, .slice ab nb cb] 39)).drew).heap.size = wr.heap.size + 1 := by
          have : (wr.alloc (.cells #[.int .i64 z0, .int .i64 z1, .slice ab nb cb] 39)).heap.size = wr.heap.size + 1 := by simp
          exact this
        have C : Hid (Calls Try.prog 84 #[.agg #[.int .i64 z0, .int .i64 z1, .slice ab nb cb]] (wr.alloc (.cells #[.int .i64 z0, .int .i64 z1, .slice ab nb cb] 39)).drew fun e w' => (∃ a' cap', e = .returned (.agg #[.int .i64 z0, .int .i64 z1, .slice a' nb cap']) ∧ CeIn (ArIn n (w.heap.size + 5) w') (w.heap.size + 5) w' (cAt x.cells j) (.int .i64 z0) (.int .i64 z1) (.slice a' nb cap')) ∧ BelowS wr.heap.size wr w' ∧ w'.cell? ⟨wr.heap.size, 0, none⟩ = some (.int .i64 z0) ∧ w'.cell? ⟨wr.heap.size, 1, none⟩ = some (.int .i64 z1) ∧ w'.cell? ⟨wr.heap.size, 2, none⟩ = some (.slice ab nb cb)) := by
          refine ((hcs _ hal.drew).2).mono ?_
          rintro e w' ⟨⟨a', cap', he, hce⟩, hb'⟩
          rw [hsa] at hce hb'
          have tr : ∀ i v, #[Value.int .i64 z0, .int .i64 z1, .slice ab nb cb][i]? = some v → w'.cell? ⟨wr.heap.size, i, none⟩ = some v := fun i v hi => (hb'.cell (p := ⟨wr.heap.size, i, none⟩) (by show wr.heap.size < _; omega)).trans (cell_new0 wr _ 39 i v hi)
          exact ⟨⟨a', cap', he, hce.mono (by omega) (Below.refl _ _) fun x v hx => hx.mono (by omega) (Below.refl _ _)⟩, ((one_allocS wr _).drew).trans (hb'.mono (by omega)), tr 0 _ rfl, tr 1 _ rfl, tr 2 _ rfl⟩
        have hbcw : bc < wr.heap.size := by have := HLT.out; omega
        have HD : Hid (∀ w1 : World, BelowS wr.heap.size wr w1 → w1.cell? ⟨bc, j * 3, none⟩ = some (F (j * 3)) ∧ w1.cell? ⟨bc, j * 3 + 1, none⟩ = some (F (j * 3 + 1)) ∧ w1.cell? ⟨bc, j * 3 + 2, none⟩ = some (F (j * 3 + 2)) ∧ w1.frozen? ⟨bc, j * 3, none⟩ = false ∧ w1.frozen? ⟨bc, j * 3 + 1, none⟩ = false ∧ w1.frozen? ⟨bc, j * 3 + 2, none⟩ = false) := by
          intro w1 h
          have r1 : w1.rowIs bc 39 (CA * 3) F := hr.of_block (h.block bc hbcw)
          exact ⟨r1.cell (by omega), r1.cell (by omega), r1.cell (by omega), r1.frozen _, r1.frozen _, r1.frozen _⟩
        have KS : Hid (∀ w1 : World, BelowS wr.heap.size wr w1 → w1.cell? ⟨wr.heap.size, 0, none⟩ = some (.int .i64 z0) → w1.cell? ⟨wr.heap.size, 1, none⟩ = some (.int .i64 z1) → w1.cell? ⟨wr.heap.size, 2, none⟩ = some (.slice ab nb cb) → (w1.cell? ⟨bo, 1, none⟩ = some (.slice (some ⟨bc, 0, none⟩) CA CA) ∧ w1.cell? ⟨wr.heap.size, 0, none⟩ = some (.int .i64 z0) ∧ w1.cell? ⟨wr.heap.size, 1, none⟩ = some (.int .i64 z1) ∧ w1.cell? ⟨wr.heap.size, 2, none⟩ = some (.slice ab nb cb))) := fun w1 h x0 x1 x2 => ⟨(h.cell (p := ⟨bo, 1, none⟩) (by have := HLT.out; show bo < _; omega)).trans t1, x0, x1, x2⟩
        have D0 : Hid (BelowS wr.heap.size wr (wr.alloc (.cells #[.int .i64 z0, .int .i64 z1, .slice ab nb cb] 39)).drew ∧ (wr.alloc (.cells #[.int .i64 z0, .int .i64 z1, .slice ab nb cb] 39)).drew.cell? ⟨wr.heap.size, 0, none⟩ = some (.int .i64 z0) ∧ (wr.alloc (.cells #[.int .i64 z0, .int .i64 z1, .slice ab nb cb] 39)).drew.cell? ⟨wr.heap.size, 1, none⟩ = some (.int .i64 z1) ∧ (wr.alloc (.cells #[.int .i64 z0, .int .i64 z1, .slice ab nb cb] 39)).drew.cell? ⟨wr.heap.size, 2, none⟩ = some (.slice ab nb cb)) := ⟨(one_allocS _ _).drew, cell_new0 wr _ 39 0 _ rfl, cell_new0 wr _ 39 1 _ rfl, cell_new0 wr _ 39 2 _ rfl⟩
        have KT : Hid (∀ (w1 : World) (v0 v1 v2 : Value), (w1.cell? ⟨bo, 1, none⟩ = some (.slice (some ⟨bc, 0, none⟩) CA CA) ∧ w1.cell? ⟨wr.heap.size, 0, none⟩ = some (.int .i64 z0) ∧ w1.cell? ⟨wr.heap.size, 1, none⟩ = some (.int .i64 z1) ∧ w1.cell? ⟨wr.heap.size, 2, none⟩ = some (.slice ab nb cb)) → ((((w1.setCell ⟨bc, j * 3, none⟩ v0).setCell ⟨bc, j * 3 + 1, none⟩ v1).setCell ⟨bc, j * 3 + 2, none⟩ v2).cell? ⟨bo, 1, none⟩ = some (.slice (some ⟨bc, 0, none⟩) CA CA) ∧ (((w1.setCell ⟨bc, j * 3, none⟩ v0).setCell ⟨bc, j * 3 + 1, none⟩ v1).setCell ⟨bc, j * 3 + 2, none⟩ v2).cell? ⟨wr.heap.size, 0, none⟩ = some (.int .i64 z0) ∧ (((w1.setCell ⟨bc, j * 3, none⟩ v0).setCell ⟨bc, j * 3 + 1, none⟩ v1).setCell ⟨bc, j * 3 + 2, none⟩ v2).cell? ⟨wr.heap.size, 1, none⟩ = some (.int .i64 z1) ∧ (((w1.setCell ⟨bc, j * 3, none⟩ v0).setCell ⟨bc, j * 3 + 1, none⟩ v1).setCell ⟨bc, j * 3 + 2, none⟩ v2).cell? ⟨wr.heap.size, 2, none⟩ = some (.slice ab nb cb))) := by
          rintro w1 v0 v1 v2 ⟨g0, g1, g2, g3⟩
          have ap : ∀ (b i : Nat) (v : Value), b ≠ bc → w1.cell? ⟨b, i, none⟩ = some v → (((w1.setCell ⟨bc, j * 3, none⟩ v0).setCell ⟨bc, j * 3 + 1, none⟩ v1).setCell ⟨bc, j * 3 + 2, none⟩ v2).cell? ⟨b, i, none⟩ = some v := fun b i v hne hv => cell_apart (p := ⟨b, i, none⟩) (q := ⟨bc, j * 3 + 2, none⟩) hne _ (cell_apart (p := ⟨b, i, none⟩) (q := ⟨bc, j * 3 + 1, none⟩) hne _ (cell_apart (p := ⟨b, i, none⟩) (q := ⟨bc, j * 3, none⟩) hne _ hv))
          have hl := HLT.out
          exact ⟨ap _ _ _ (by omega) g0, ap _ _ _ (by omega) g1, ap _ _ _ (by omega) g2, ap _ _ _ (by omega) g3⟩
        have HEND : Hid (∀ w1 v0 v1 v2, BelowS wr.heap.size wr w1 → CeIn (ArIn n (w.heap.size + 5) w1) (w.heap.size + 5) w1 (cAt x.cells j) v0 v1 v2 → BelowS w.heap.size w (((w1.setCell ⟨bc, j * 3, none⟩ v0).setCell ⟨bc, j * 3 + 1, none⟩ v1).setCell ⟨bc, j * 3 + 2, none⟩ v2) ∧ w.heap.size + 5 ≤ (((w1.setCell ⟨bc, j * 3, none⟩ v0).setCell ⟨bc, j * 3 + 1, none⟩ v1).setCell ⟨bc, j * 3 + 2, none⟩ v2).heap.size ∧ (∀ k, k < w.heap.size + 5 → k ≠ bc → (((w1.setCell ⟨bc, j * 3, none⟩ v0).setCell ⟨bc, j * 3 + 1, none⟩ v1).setCell ⟨bc, j * 3 + 2, none⟩ v2).heap[k]? = w3.heap[k]?) ∧ ∃ F', (((w1.setCell ⟨bc, j * 3, none⟩ v0).setCell ⟨bc, j * 3 + 1, none⟩ v1).setCell ⟨bc, j * 3 + 2, none⟩ v2).rowIs bc 39 (CA * 3) F' ∧ ∀ i, i < j + 1 → CeIn (ArIn n (w.heap.size + 5) (((w1.setCell ⟨bc, j * 3, none⟩ v0).setCell ⟨bc, j * 3 + 1, none⟩ v1).setCell ⟨bc, j * 3 + 2, none⟩ v2)) (w.heap.size + 5) (((w1.setCell ⟨bc, j * 3, none⟩ v0).setCell ⟨bc, j * 3 + 1, none⟩ v1).setCell ⟨bc, j * 3 + 2, none⟩ v2) (cAt x.cells i) (F' (i * 3)) (F' (i * 3 + 1)) (F' (i * 3 + 2))) := by
          intro w1 v0 v1 v2 hb hnew
          have hl := HLT.out
          have hlo : w.heap.size ≤ bc := by omega
          refine ⟨(((hnx.trans (hb.mono hnx.size)).setCell (p := ⟨bc, j * 3, none⟩) hlo v0).setCell (p := ⟨bc, j * 3 + 1, none⟩) hlo v1).setCell (p := ⟨bc, j * 3 + 2, none⟩) hlo v2, ?_, ?_, fam_step (by omega) hb.b hbcw hr hF v0 v1 v2 hnew⟩
          · have : (((w1.setCell ⟨bc, j * 3, none⟩ v0).setCell ⟨bc, j * 3 + 1, none⟩ v1).setCell ⟨bc, j * 3 + 2, none⟩ v2).heap.size = w1.heap.size := by simp
            rw [this]; exact Nat.le_trans hsz hb.size
          · intro k h1 h2
            rw [BelowS.heap_setCell _ _ _ _ h2, BelowS.heap_setCell _ _ _ _ h2, BelowS.heap_setCell _ _ _ _ h2, hb.block k (by omega)]
            exact hkeep k h1 h2
        clear hcs hal hsa hr hF hkeep t0 t2 t3 t4 t5
        go_wp2
        go_region_held3 (fun W => W.cell? ⟨bo, 1, none⟩ = some (.slice (some ⟨bc, 0, none⟩) CA CA) ∧ W.cell? ⟨wr.heap.size, 0, none⟩ = some (.int .i64 z0) ∧ W.cell? ⟨wr.heap.size, 1, none⟩ = some (.int .i64 z1) ∧ W.cell? ⟨wr.heap.size, 2, none⟩ = some (.slice ab nb cb))
          (first | exact KS.out _ D0.out.1 D0.out.2.1 D0.out.2.2.1 D0.out.2.2.2 | exact KS.out _ (by assumption) (by assumption) (by assumption) (by assumption) | exact KT.out _ _ _ _ (by assumption))
          (first
            | (go_at_call 84; refine C.out.mono ?_; rintro e w1 ⟨⟨a', cap', rfl, hce⟩, hb1, hq0, hq1, hq2⟩; obtain ⟨y0, y1, y2, y3, y4, y5⟩ := HD.out _ hb1))
        have HFIN := hide (HEND.out w1 _ _ _ hb1 hce)
        clear HEND KT KS D0 HD C y0 y1 y2 y3 y4 y5 hq0 hq1 hq2 hce hb1
        go_wp2
        go_roundw
        case rel => exact ⟨j + 1, by omega, by go_num, HFIN.out⟩
        case measure => simp [intOf]; omega
      · have hje : j = CA := by omega
        subst hje
        have HFIN : Hid (∀ u v, GivesT n x w (.returned (.agg #[.slice (some ⟨bs, 0, none⟩) SA SA, .slice (some ⟨bc, 0, none⟩) j j])) ((wr.setCell ⟨w.heap.size + 1, 0, none⟩ u).setCell ⟨w.heap.size + 1, 1, none⟩ v)) := by
          intro u v
          have hl := HLT.out
          have hk : Keeps (w.heap.size + 2) wr ((wr.setCell ⟨w.heap.size + 1, 0, none⟩ u).setCell ⟨w.heap.size + 1, 1, none⟩ v) := ((Keeps.refl _ _).setCell (p := ⟨w.heap.size + 1, 0, none⟩) (by show w.heap.size + 1 < _; omega) u).setCell (p := ⟨w.heap.size + 1, 1, none⟩) (by show w.heap.size + 1 < _; omega) v
          refine ⟨⟨_, rfl, HAR.out _ _ _ _ _ ?_ ?_, ?_⟩, (hnx.setCell (p := ⟨w.heap.size + 1, 0, none⟩) (by show w.heap.size ≤ w.heap.size + 1; omega) u).setCell (p := ⟨w.heap.size + 1, 1, none⟩) (by show w.heap.size ≤ w.heap.size + 1; omega) v⟩
          · have hrow : Row (w.heap.size + 2) wr (some ⟨bs, 0, none⟩) x.shape := ⟨by rw [hSA]; exact HL.out, Or.inr ⟨bs, 0, rfl, by omega, by omega, fun i hi => by rw [Nat.zero_add]; exact t5 i hi⟩⟩
            exact (hrow.keeps hk).low (by omega)
          · have hcc : CellsIn n (w.heap.size + 2) wr x.cells (some ⟨bc, 0, none⟩) := by
              refine Or.inr ⟨bc, 0, rfl, by omega, by omega, fun i hi => ?_⟩
              rw [hCA] at hi
              rw [Nat.zero_add]
              exact ⟨_, _, _, hr.cell (by omega), hr.cell (by omega), hr.cell (by omega), (hF i hi).mono (by omega) (Below.refl _ _) fun x v hx => hx.mono (by omega) (Below.refl _ _)⟩
            exact (hcc.keeps hk).mono (by omega) (Below.refl _ _)
          · refine ⟨bs, bc, by rw [hSA, hCA], by omega, by have := hk.1; omega, fun i hi => ?_, fun w' hsz' hoff => ?_⟩
            · exact (hk.cell (p := ⟨bs, i, none⟩) (by show w.heap.size + 2 ≤ bs; omega) (by show bs < _; omega)).trans (t5 i hi)
            · have hss : ((wr.setCell ⟨w.heap.size + 1, 0, none⟩ u).setCell ⟨w.heap.size + 1, 1, none⟩ v).heap.size = wr.heap.size := by simp
              have hs1 : wr.heap.size ≤ w'.heap.size := by rw [hss] at hsz'; exact hsz'
              have hof : ∀ k, k < wr.heap.size → k ≠ bs → k ≠ w.heap.size + 1 → w'.heap[k]? = wr.heap[k]? := fun k h0 h1 h2 => by
                rw [hoff k (by rw [hss]; exact h0) h1, BelowS.heap_setCell _ _ _ _ h2, BelowS.heap_setCell _ _ _ _ h2]
              have hr' : w'.rowIs bc 39 (j * 3) F := hr.of_block (hof bc (by omega) (by omega) (by omega))
              have hk' : Keeps (w.heap.size + 5) wr w' := ⟨by omega, fun b h1 h2 => hof b h2 (by omega) (by omega)⟩
              refine Or.inr ⟨bc, 0, rfl, by omega, by omega, fun i hi => ?_⟩
              rw [hCA] at hi
              rw [Nat.zero_add]
              exact ⟨_, _, _, hr'.cell (by omega), hr'.cell (by omega), hr'.cell (by omega), ((hF i hi).keeps hk' fun x v hx => hx.keeps hk').mono (by omega) (Below.refl _ _) fun x v hx => hx.mono (by omega) (Below.refl _ _)⟩
        have HT := hide (set_two t2 t3 (.slice (some ⟨bs, 0, none⟩) SA SA) (.slice (some ⟨bc, 0, none⟩) j j))
        have f0 := t4 0
        have f1 := t4 1
        clear hr hF hkeep t4 t5 HCS HKP
        go_wp2
        exact bodyPost_ret (v := .agg #[.slice (some ⟨bs, 0, none⟩) SA SA, .slice (some ⟨bc, 0, none⟩) j j]) (by simp [results, Try.results59, go_sem, HT.out.1, HT.out.2]) rfl (HFIN.out _ _)
theorem copy_step (n : Nat) (IH : CopyC n) : CopyC (n + 1) := fun r x lo va w h hx => (copy_own n IH r x lo va w h hx).mono fun e w' ⟨⟨v, he, hv, _⟩, hb⟩ => ⟨⟨v, he, hv⟩, hb⟩
theorem copy_any (n : Nat) : CopyC n := by
  induction n with
  | zero => intro r x lo va w _ hx; exact hx.elim
  | succ n ih => exact copy_step n ih
/-- Copy, with what is known of where its answer lies. -/
theorem copy_at (n : Nat) : ∀ r x lo va w, chkA r x = 0 → ArIn (n + 1) lo w x va → Calls Try.prog 59 #[va] w fun e w' => GivesT n x w e w' := copy_own n (copy_any n)
end Go.Proofs.Ytimkcpbgnoekcaa
namespace Go.Proofs.Ytimkcpbgnoekcaa
open Go.ChangeShapes Go.WideShapes Go.ChangeAt Go.RowKit
set_option linter.unusedVariables false
/-- No more than d boxes within one another, whatever array of a box is gone into. -/
def Thin : Nat → Ar → Prop
  | 0, x => ∀ i, i < x.cells.length → ∀ k, k < (cAt x.cells i).2.2.length → False
  | d + 1, x => ∀ i, i < x.cells.length → ∀ k, k < (cAt x.cells i).2.2.length → Thin d (bAt (cAt x.cells i).2.2 k)
/-- The same, of one array of a box. -/
def ThinK (d : Nat) (y : Ar) : Prop := match d with
  | 0 => False
  | d + 1 => Thin d y
theorem thin_iff (d : Nat) (x : Ar) : Thin d x ↔ ∀ i, i < x.cells.length → ∀ k, k < (cAt x.cells i).2.2.length → ThinK d (bAt (cAt x.cells i).2.2 k) := by
  cases d <;> rfl
/-- The arrays of a cell's box, in whatever world is later. -/
theorem boxes_at {n lo : Nat} {w : World} {x : Ar} {a2 : Option Addr} (hc : CellsIn n lo w x.cells a2) (i : Nat) (hi : i < x.cells.length) :
    ∃ b off ab cb, a2 = some ⟨b, off, none⟩ ∧ (cAt x.cells i).2.2.length ≤ 5864062014805 ∧ (∀ wr, Below w.heap.size w wr → wr.cell? ⟨b, off + i * 3 + 2, none⟩ = some (.slice ab (cAt x.cells i).2.2.length cb)) ∧
      ∀ k, k < (cAt x.cells i).2.2.length → ∃ bb ob u0 u1, ab = some ⟨bb, ob, none⟩ ∧ ∀ wr, Below w.heap.size w wr → wr.cell? ⟨bb, ob + k * 2, none⟩ = some u0 ∧ wr.cell? ⟨bb, ob + k * 2 + 1, none⟩ = some u1 ∧ ArIn n lo wr (bAt (cAt x.cells i).2.2 k) (.agg #[u0, u1]) := by
  rcases hc with hc | ⟨b, off, ha, hlo, hb, hc⟩
  · rw [hc] at hi; simp at hi
  obtain ⟨v0, v1, v2, e0, e1, e2, rfl, rfl, ab, cb, rfl, hl, hx⟩ := hc i hi
  refine ⟨b, off, ab, cb, ha, hl, fun wr hw => (hw.cell (p := ⟨b, off + i * 3 + 2, none⟩) hb).trans e2, ?_⟩
  intro k hk
  rcases hx with hx | ⟨bb, ob, rfl, hlo', hbb, hx⟩
  · rw [hx] at hk; simp at hk
  obtain ⟨u0, u1, g0, g1, g2⟩ := hx k hk
  exact ⟨bb, ob, u0, u1, rfl, fun wr hw => ⟨(hw.cell (p := ⟨bb, ob + k * 2, none⟩) hbb).trans g0, (hw.cell (p := ⟨bb, ob + k * 2 + 1, none⟩) hbb).trans g1, g2.next hw⟩⟩
/-- What the weighing of an array no deeper than d promises. -/
def WeighC (d : Nat) : Prop := ∀ n x lo va w (M : Int), ArIn n lo w x va → 0 ≤ M → M ≤ 4000 → Calls Try.prog 45 #[va, .int .i64 M, .int .i64 (d : Int)] w fun e w' => (∃ r : Int, e = .returned (.int .i64 r) ∧ 0 ≤ r ∧ r ≤ 147000000000000 + 5000 * (d : Int) ∧ (r ≤ M → Thin d x)) ∧ Below w.heap.size w w'
set_option maxHeartbeats 4000000 in
theorem weigh_step (d : Nat) (hd : d ≤ 16) (IH : ∀ d', d = d' + 1 → WeighC d') : WeighC d := by
  intro n x lo va w M hx hM0 hM
  cases n with
  | zero => exact hx.elim
  | succ n =>
  obtain ⟨a1, c1, a2, c2, rfl, R, hl, hc⟩ := hx
  have hlR := R.1
  have HT : Hid ((∀ i, i < x.cells.length → ∀ k, k < (cAt x.cells i).2.2.length → ThinK d (bAt (cAt x.cells i).2.2 k)) → Thin d x) := (thin_iff d x).2
  have hb0 := one_alloc w (.cells #[.slice a1 x.shape.length c1, .slice a2 x.cells.length c2] 25)
  have q := cell_new0 w #[.slice a1 x.shape.length c1, .slice a2 x.cells.length c2] 25 1 _ rfl
  have HB := hide (boxes_at hc)
  /- A world later on: the memory that came in, and the array's own cells. -/
  have HQ := hide (And.intro hb0 (And.intro q (show w.heap.size < (w.alloc (.cells #[.slice a1 x.shape.length c1, .slice a2 x.cells.length c2] 25)).heap.size by simp)))
  clear R hc hb0 q
  generalize hNL : (fun i => (cAt x.cells i).2.2.length) = NL at *
  generalize hY : (fun i k => bAt (cAt x.cells i).2.2 k) = Y at *
  have HB' : Hid (∀ i, i < x.cells.length → ∃ b off ab cb, a2 = some ⟨b, off, none⟩ ∧ NL i ≤ 5864062014805 ∧ (∀ wr, Below w.heap.size w wr → wr.cell? ⟨b, off + i * 3 + 2, none⟩ = some (.slice ab (NL i) cb)) ∧
      ∀ k, k < NL i → ∃ bb ob u0 u1, ab = some ⟨bb, ob, none⟩ ∧ ∀ wr, Below w.heap.size w wr → wr.cell? ⟨bb, ob + k * 2, none⟩ = some u0 ∧ wr.cell? ⟨bb, ob + k * 2 + 1, none⟩ = some u1 ∧ ArIn n lo wr (Y i k) (.agg #[u0, u1])) := by
    subst hNL hY
    exact HB.out
  have HT' : Hid ((∀ i, i < x.cells.length → ∀ k, k < NL i → ThinK d (Y i k)) → Thin d x) := by
    subst hNL hY
    exact HT.out
  clear HB HT hNL hY
  generalize x.shape.length = SA at *
  generalize x.cells.length = CA at *
  go_enter Try.func45, Try.ntmps45
  go_wp2
  go_loopg [7, 8] CA (fun g nv i wr => ∃ (j : Nat) (N : Int), g + j = CA ∧ i = .int .i64 (j : Int) ∧ nv = .int .i64 N ∧ 0 ≤ N ∧ N ≤ 147000000000000 + 5000 * (d : Int) ∧ (N ≤ M → ∀ i, i < j → ∀ k, k < NL i → ThinK d (Y i k)) ∧ Below w.heap.size w wr ∧ wr.cell? ⟨w.heap.size, 1, none⟩ = some (.slice a2 CA c2) ∧ w.heap.size < wr.heap.size)
  case atStart => exact ⟨0, (CA : Int) + (SA : Int), rfl, rfl, by go_num, by omega, by omega, by intro _ i hi; omega, HQ.out.1, HQ.out.2.1, HQ.out.2.2⟩
  case round =>
    clear HQ
    obtain ⟨j, N, hj, rfl, rfl, hN0, hN1, hthin, hnx, hcl, hsz⟩ := hrel
    have HTH := hide hthin
    have HSZ := hide hsz
    clear hthin hsz
    by_cases hlt : j < CA
    · by_cases hNM : N ≤ M
      · have HOUT := hide (HTH.out hNM)
        clear HTH
        obtain ⟨b, off, ab, cb, rfl, hnl, hbox, hboxes⟩ := HB'.out j hlt
        have HBOX := hide hbox
        have HBXS := hide hboxes
        have HS1 : Hid (NL j = NL j) := rfl
        clear hbox hboxes HB'
        obtain ⟨L, hL⟩ : ∃ L, NL j = L := ⟨_, rfl⟩
        have HLL := hide hL
        rw [hL] at hnl HBOX HBXS
        clear hL HS1
        go_wp2
        go_loopg [7, 9] L (fun g nv kv wr => ∃ (k : Nat) (N' : Int), g + k = L ∧ kv = .int .i64 (k : Int) ∧ nv = .int .i64 N' ∧ 0 ≤ N' ∧ N' ≤ 147000000000000 + 5000 * (d : Int) ∧ (N' ≤ M → ∀ k', k' < k → ThinK d (Y j k')) ∧ Below w.heap.size w wr ∧ wr.cell? ⟨w.heap.size, 1, none⟩ = some (.slice (some ⟨b, off, none⟩) CA c2) ∧ w.heap.size < wr.heap.size)
        case atStart => exact ⟨0, N, rfl, rfl, rfl, hN0, hN1, by intro _ k' hk'; omega, hnx, hcl, HSZ.out⟩
        case round =>
          clear hnx hcl HSZ hN0 hN1 hNM
          obtain ⟨k, N', hk, rfl, rfl, hN0, hN1, hthin, hnx, hcl, hsz⟩ := hrel
          have HTH := hide hthin
          have HSZ := hide hsz
          have hbx := HBOX.out _ hnx
          clear hthin hsz
          by_cases hkl : k < L
          · by_cases hNM : N' ≤ M
            · by_cases hd0 : d = 0
              · subst hd0
                clear HBXS HBOX
                go_wp2
                go_ret
                exact ⟨⟨M + 1, by go_num, by omega, by omega, fun h => absurd h (by omega)⟩, hnx⟩
              · obtain ⟨d', rfl⟩ : ∃ d', d = d' + 1 := ⟨d - 1, by omega⟩
                obtain ⟨bb, ob, u0, u1, rfl, hcs⟩ := HBXS.out k hkl
                obtain ⟨g0, g1, g2⟩ := hcs _ hnx
                have C : Hid (∀ D : Int, D = (d' : Int) → Calls Try.prog 45 #[.agg #[u0, u1], .int .i64 (M - N'), .int .i64 D] wr fun e w' => (∃ r : Int, e = .returned (.int .i64 r) ∧ 0 ≤ r ∧ r ≤ 147000000000000 + 5000 * (d' : Int) ∧ (r ≤ M - N' → Thin d' (Y j k))) ∧ Below wr.heap.size wr w') := by
                  rintro D rfl
                  exact IH d' rfl n _ lo _ wr (M - N') g2 (by omega) (by omega)
                have hd1 : ((d' + 1 : Nat) : Int) ≠ 0 := by omega
                clear hcs g2 HBXS hd0
                go_wp2_with fail
                refine (C.out _ (by omega)).mono ?_
                rintro e w1 ⟨⟨r, rfl, hr0, hr1, hrt⟩, hb1⟩
                have HRT := hide hrt
                clear hrt C
                go_wp2
                go_roundg (L - (k + 1))
                case rel =>
                  refine ⟨k + 1, N' + 1 + r, by omega, by go_num, by go_num, by omega, by omega, ?_, hnx.trans (hb1.mono hnx.size), (hb1.cell (p := ⟨w.heap.size, 1, none⟩) HSZ.out).trans hcl, Nat.lt_of_lt_of_le HSZ.out hb1.size⟩
                  intro hle k' hk'
                  rcases Nat.lt_succ_iff_lt_or_eq.1 hk' with h | rfl
                  · exact HTH.out hNM k' h
                  · exact HRT.out (by omega)
                case measure => omega
            · clear HBXS HBOX
              go_wp2
              go_roundg (CA - (j + 1))
              case rel => exact ⟨j + 1, N', by omega, by go_num, rfl, hN0, hN1, fun h => absurd h (by omega), hnx, hcl, HSZ.out⟩
              case measure => omega
          · have hke : k = L := by omega
            subst hke
            clear HBXS HBOX
            go_wp2
            go_roundg (CA - (j + 1))
            case rel =>
              refine ⟨j + 1, N', by omega, by go_num, rfl, hN0, hN1, ?_, hnx, hcl, HSZ.out⟩
              intro hle i hi k' hk'
              rcases Nat.lt_succ_iff_lt_or_eq.1 hi with h | rfl
              · exact HOUT.out i h k' hk'
              · exact HTH.out hle k' (by rw [HLL.out] at hk'; exact hk')
            case measure => omega
      · go_wp2
        go_ret
        exact ⟨⟨N, rfl, hN0, hN1, fun h => absurd h (by omega)⟩, hnx⟩
    · have hje : j = CA := by omega
      subst hje
      have HFIN : Hid (N ≤ M → Thin d x) := fun h => HT'.out (HTH.out h)
      clear HB' HTH HT'
      go_wp2
      go_ret
      exact ⟨⟨N, rfl, hN0, hN1, HFIN.out⟩, hnx⟩
theorem weigh_any (d : Nat) (hd : d ≤ 16) : WeighC d := by
  induction d with
  | zero => exact weigh_step 0 hd fun d' h => absurd h (by omega)
  | succ d ih =>
    refine weigh_step (d + 1) hd fun d' h => ?_
    have : d' = d := by omega
    subst this
    exact ih (by omega)
end Go.Proofs.Ytimkcpbgnoekcaa
namespace Go.Proofs.Ytimkcpbgnoekcaa
open Go.ChangeShapes Go.WideShapes Go.ChangeAt Go.RowKit
set_option linter.unusedVariables false
theorem row_nil (lo : Nat) (w : World) (a : Option Addr) : Row lo w a [] := ⟨by simp, Or.inl rfl⟩
theorem row_new (w : World) (zs : List Int) (e : TypeId) (m : Nat × Nat) (hz : zs.length ≤ 140737488355328) : Row w.heap.size (w.alloc (.cells (zs.map (Value.int .i64)).toArray e m)) (some ⟨w.heap.size, 0, none⟩) zs := by
  refine ⟨hz, Or.inr ⟨_, _, rfl, Nat.le_refl _, by simp, ?_⟩⟩
  intro i hi
  refine cell_new w _ e m (0 + i) _ ?_
  simp [List.getElem?_eq_getElem hi]
theorem atom_cells (n : Nat) (z : Int) (w : World) (o : Obj) : ArIn (n + 1) w.heap.size ((w.alloc o).alloc (.cells #[.int .i64 0, .int .i64 z, .slice none 0 0] 39)) (atomA z) (.agg #[.slice none 0 0, .slice (some ⟨w.heap.size + 1, 0, none⟩) 1 1]) := by
  refine arIn_mk (x := atomA z) (row_nil _ _ _) (by simp [atomA, Ar.cells, numCs]) ?_ rfl (by simp [atomA, Ar.cells, numCs])
  refine Or.inr ⟨w.heap.size + 1, 0, rfl, by omega, by simp, ?_⟩
  intro i hi
  have : i = 0 := by simpa [atomA, Ar.cells, numCs] using hi
  subst this
  refine ⟨_, _, _, cell_new2 w #[.int .i64 0, .int .i64 z, .slice none 0 0] 39 (0, 0) o 0 _ rfl, cell_new2 w #[.int .i64 0, .int .i64 z, .slice none 0 0] 39 (0, 0) o 1 _ rfl, cell_new2 w #[.int .i64 0, .int .i64 z, .slice none 0 0] 39 (0, 0) o 2 _ rfl, rfl, rfl, none, 0, rfl, by simp [atomA, Ar.cells, numCs, cAt], Or.inl rfl⟩
end Go.Proofs.Ytimkcpbgnoekcaa
namespace Go.Proofs.Ytimkcpbgnoekcaa
open Go.ChangeShapes Go.WideShapes Go.ChangeAt Go.RowKit
set_option linter.unusedVariables false
theorem own : ownKnob Try.prog.godebug = none := by kernel_rfl
theorem laidOut : laidOutB Try.prog = true := by kernel_rfl
theorem bytes3 : Try.prog.bytesOf 3 = 8 := by kernel_rfl
/-- What Places tells: the places, and the error. -/
def plsL (l : List Int) (n : Int) : List Int := if sizeE l = 0 ∧ 0 ≤ n ∧ n < sizeV l then digits l n else []
def plsE (l : List Int) (n : Int) : Int := if sizeE l = 0 then (if 0 ≤ n ∧ n < sizeV l then 0 else 8) else sizeE l
theorem pls_ok {l : List Int} {n : Int} (h : plsE l n = 0) : sizeE l = 0 ∧ 0 ≤ n ∧ n < sizeV l ∧ plsL l n = digits l n := by
  unfold plsE at h
  by_cases hs : sizeE l = 0
  · by_cases ho : 0 ≤ n ∧ n < sizeV l
    · exact ⟨hs, ho.1, ho.2, by unfold plsL; rw [if_pos ⟨hs, ho⟩]⟩
    · rw [if_pos hs, if_neg ho] at h; omega
  · rw [if_neg hs] at h; exact absurd h hs
theorem plc_ok {l m : List Int} (h : plcE l m = 0) : sizeE l = 0 ∧ inAxes l m ∧ plcV l m = place l m := by
  unfold plcE at h
  by_cases hs : sizeE l = 0
  · by_cases hl : m.length = l.length
    · by_cases hi : inAxes l m
      · exact ⟨hs, hi, by unfold plcV; rw [if_pos ⟨hs, hi⟩]⟩
      · simp [hs, hl, hi] at h
    · simp [hs, hl] at h
  · simp [hs] at h
/-- The places of the cell at places. -/
theorem there {l m : List Int} (h : plcE l m = 0) : plsE l (plcV l m) = 0 ∧ plsL l (plcV l m) = m := by
  obtain ⟨hs, hi, hv⟩ := plc_ok h
  obtain ⟨b1, b2, b3, b4⟩ := place_bound hi
  obtain ⟨s1, s2, s3⟩ := sizeE_ok hs
  have hz : ¬ hasZero l := by
    rintro ⟨z, hz, e⟩
    have := b1 z hz
    omega
  rcases s3 with s3 | ⟨-, s4⟩
  · exact absurd s3 hz
  have sv : sizeV l = prodL l := (size_ok s1 s2 hz (by omega)).1
  have hr : 0 ≤ plcV l m ∧ plcV l m < sizeV l := by rw [hv, sv]; exact ⟨b2, b3⟩
  refine ⟨by unfold plsE; rw [if_pos hs, if_pos hr], ?_⟩
  unfold plsL
  rw [if_pos ⟨hs, hr⟩, hv]
  exact digits_place hi
/-- The cell at the places of a cell. -/
theorem back {l : List Int} {n : Int} (h : plsE l n = 0) : plcE l (plsL l n) = 0 ∧ plcV l (plsL l n) = n := by
  obtain ⟨hs, h0, h1, hL⟩ := pls_ok h
  obtain ⟨s1, s2, s3, s4⟩ := sizeV_in hs h0 h1
  obtain ⟨d1, d2⟩ := digits_in s2 h0 (by omega)
  rw [hL]
  have hl := digits_length l n
  refine ⟨by unfold plcE; simp [hs, hl, d1], ?_⟩
  unfold plcV
  rw [if_pos ⟨hs, d1⟩]
  exact d2
end Go.Proofs.Ytimkcpbgnoekcaa
namespace Go.Proofs.Ytimkcpbgnoekcaa
open Go.ChangeShapes Go.WideShapes Go.ChangeAt Go.RowKit Go.Deep
set_option linter.unusedVariables false
set_option maxRecDepth 100000
theorem cells25 : Try.prog.cellsOf 25 = 2 := by kernel_rfl
theorem cells33 : Try.prog.cellsOf 39 = 3 := by kernel_rfl
theorem cells22 : Try.prog.cellsOf 22 = 1 := by kernel_rfl
theorem cells23 : Try.prog.cellsOf 23 = 1 := by kernel_rfl
theorem cells31 : Try.prog.cellsOf 37 = 1 := by kernel_rfl
theorem cells3 : Try.prog.cellsOf 3 = 1 := by kernel_rfl
theorem cells2 : Try.prog.cellsOf 2 = 1 := by kernel_rfl
theorem bytes33 : Try.prog.bytesOf 39 = 40 := by kernel_rfl
theorem bytes25 : Try.prog.bytesOf 25 = 48 := by kernel_rfl
theorem weightsAll_mem {H : Type} {P : Program} {e : TypeId} {d : DataW H} : ∀ {l : List (DataW H)}, d ∈ l → ∀ n ∈ d.weights P e, n ∈ DataW.weightsAll P e l
  | x :: l, hd, n, hn => by
    simp only [DataW.weightsAll, List.mem_append]
    rcases List.mem_cons.1 hd with rfl | h
    · exact Or.inl hn
    · exact Or.inr (weightsAll_mem h n hn)
  | [], hd, _, _ => by simp at hd
def Fit {H : Type} (t : TypeId) (d : DataW H) : Prop := ∀ n ∈ d.weights Try.prog t, n ≤ reachBytes
theorem fit_slice {H : Type} {t e : TypeId} {elems spare : List (DataW H)} (hu : Try.prog.underlying t = some (.slice e)) (h : Fit t (.slice elems spare)) : (elems.length + spare.length) * Try.prog.bytesOf e ≤ reachBytes ∧ ∀ d ∈ elems, Fit e d := by
  unfold Fit at *
  simp only [DataW.weights, hu] at h
  refine ⟨h _ List.mem_cons_self, fun d hd n hn => h n ?_⟩
  exact List.mem_cons_of_mem _ (List.mem_append_left _ (weightsAll_mem hd n hn))
theorem fit_arr {H : Type} {d0 d1 : DataW H} (h : Fit 25 (.agg [d0, d1])) : Fit 22 d0 ∧ Fit 23 d1 := by
  unfold Fit at *
  simp only [DataW.weights, Try.underlying25, DataW.weightsEach, List.map_cons, List.map_nil, List.append_nil, List.mem_append] at h
  exact ⟨fun n hn => h n (Or.inl hn), fun n hn => h n (Or.inr hn)⟩
theorem fit_cell {H : Type} {d0 d1 d2 : DataW H} (h : Fit 39 (.agg [d0, d1, d2])) : Fit 37 d2 := by
  unfold Fit at *
  simp only [DataW.weights, Try.underlying39, DataW.weightsEach, List.map_cons, List.map_nil, List.append_nil, List.mem_append] at h
  exact fun n hn => h n (Or.inr (Or.inr hn))
theorem add_off (b off i : Nat) : (⟨b, off, none⟩ : Addr).add i = ⟨b, off + i, none⟩ := by
  unfold Addr.add
  split
  · subst_vars; rfl
  · rfl
theorem two_of {W : World} {a : Addr} {cs : List Value} (h : W.cells? 0 a 2 = some cs) : ∃ c0 c1, cs = [c0, c1] ∧ W.cell? a = some c0 ∧ W.cell? (a.add 1) = some c1 := by
  obtain ⟨_, hl, hc⟩ := World.cells?_some h
  match cs, hl with
  | [c0, c1], _ =>
    have h0 := hc 0 (by omega)
    have h1 := hc 1 (by omega)
    exact ⟨c0, c1, rfl, by simpa [Addr.add] using h0, by simpa using h1⟩
theorem three_of {W : World} {a : Addr} {cs : List Value} (h : W.cells? 0 a 3 = some cs) : ∃ c0 c1 c2, cs = [c0, c1, c2] ∧ W.cell? a = some c0 ∧ W.cell? (a.add 1) = some c1 ∧ W.cell? (a.add 2) = some c2 := by
  obtain ⟨_, hl, hc⟩ := World.cells?_some h
  match cs, hl with
  | [c0, c1, c2], _ =>
    have h0 := hc 0 (by omega)
    have h1 := hc 1 (by omega)
    have h2 := hc 2 (by omega)
    exact ⟨c0, c1, c2, rfl, by simpa [Addr.add] using h0, by simpa using h1, by simpa using h2⟩
section
variable {H : Type} {enc : TypeId × Value → H} {W : World} {sp : Nat → Bool} {held : Bool}
/-- What the opening of an array promises. -/
def Opens (enc : TypeId × Value → H) (W : World) (sp : Nat → Bool) (held : Bool) (k : Nat) : Prop := ∀ (x : DataW H × List MemPlace) (cs : List Value) (fuel : Nat), SizeOf.sizeOf x.1 < k → DataW.trod enc Try.prog W 0 sp held fuel 25 cs = some x → Fit 25 x.1 → ∃ n y c0 c1, cs = [c0, c1] ∧ ArIn n 0 W y (.agg #[c0, c1]) ∧ Snd y
theorem open_cell {k : Nat} (IH : Opens enc W sp held k) (x : DataW H × List MemPlace) (cs : List Value) (fuel : Nat) (hk : SizeOf.sizeOf x.1 ≤ k) (h : DataW.trod enc Try.prog W 0 sp held fuel 39 cs = some x) (hf : Fit 39 x.1) :
    ∃ n c v0 v1 v2, cs = [v0, v1, v2] ∧ CeIn (ArIn n 0 W) 0 W c v0 v1 v2 ∧ SndC c := by
  obtain ⟨y0, y1, y2, m, rfl, hl, h0, h1, h2⟩ := trod_struct3 Try.underlying39 h
  rw [cells33] at hl
  match cs, hl with
  | [v0, v1, v2], _ =>
    simp only [cells3, cells2, cells31, List.drop_zero, List.take_succ_cons, List.take_zero, List.drop_succ_cons] at h0 h1 h2
    obtain ⟨z0, e0, -, i0⟩ := DataW.trod_int Try.underlying3 h0
    obtain ⟨z1, e1, -, i1⟩ := DataW.trod_int Try.underlying2 h1
    simp only [List.cons.injEq, and_true] at e0 e1
    subst e0 e1
    replace i0 : I64 z0 := bounds_i64 i0
    replace i1 : I64 z1 := bounds_i64 i1
    have hf2 := fit_cell hf
    rcases open_slice Try.underlying37 h2 with ⟨hcs, hx⟩ | ⟨a, len, cap, mm, n, D, Pl, hcs, _, hlc, hm, hmm, hx, hel⟩
    · simp only [List.cons.injEq, and_true] at hcs
      subst hcs
      exact ⟨1, (z0, z1, []), _, _, _, rfl, ⟨rfl, rfl, none, 0, rfl, by simp, Or.inl rfl⟩, i0, i1, by simp⟩
    · simp only [List.cons.injEq, and_true] at hcs
      subst hcs
      rw [hx] at hf2
      obtain ⟨hb, hfe⟩ := fit_slice Try.underlying37 hf2
      have hlen : len * 48 ≤ reachBytes := by
        rw [bytes25] at hb
        simp only [List.length_map, List.length_range] at hb
        omega
      have hlm : len ≤ mm := by rw [hmm]; split <;> omega
      have hE : ∀ i, i < len → ∃ p : Ar × Value × Value, ∃ n, W.cell? (a.add (i * 2)) = some p.2.1 ∧ W.cell? (a.add (i * 2 + 1)) = some p.2.2 ∧ ArIn n 0 W p.1 (.agg #[p.2.1, p.2.2]) ∧ Snd p.1 := by
        intro i hi
        obtain ⟨cs', hc', ht'⟩ := hel i (by omega)
        rw [cells25] at hc'
        obtain ⟨c0, c1, rfl, g0, g1⟩ := two_of hc'
        rw [add_add] at g1
        have hmem : D i ∈ (List.range len).map D := List.mem_map_of_mem (List.mem_range.2 hi)
        have hs : SizeOf.sizeOf (D i) < k := by
          have s1 := List.sizeOf_lt_of_mem hmem
          rw [hx] at hk
          simp only [DataW.agg.sizeOf_spec, DataW.slice.sizeOf_spec, List.cons.sizeOf_spec, List.nil.sizeOf_spec] at hk
          omega
        obtain ⟨n', y, c0', c1', hcc, hin, hsn⟩ := IH (D i, Pl i) [c0, c1] n hs ht' (hfe _ hmem)
        simp only [List.cons.injEq, and_true] at hcc
        obtain ⟨rfl, rfl⟩ := hcc
        exact ⟨(y, c0, c1), n', g0, g1, hin, hsn⟩
      obtain ⟨F, hF⟩ := choose_lt hE
      obtain ⟨N, hN⟩ := fuel_lt (n := len) (q := fun i n => ArIn n 0 W (F i).1 (.agg #[(F i).2.1, (F i).2.2])) (fun i a b hab h => h.deep hab) (fun i hi => by obtain ⟨n, _, _, h, _⟩ := hF i hi; exact ⟨n, h⟩)
      have hbl : ((List.range len).map fun i => (F i).1).length = len := by simp
      refine ⟨N, (z0, z1, (List.range len).map fun i => (F i).1), _, _, _, rfl, ⟨rfl, rfl, some a, cap, by simp, ?_, ?_⟩, i0, i1, fun y hy => by
        obtain ⟨i, hi, rfl⟩ := List.mem_map.1 hy
        obtain ⟨_, _, _, _, hs⟩ := hF i (List.mem_range.1 hi)
        exact hs⟩
      · simp only [hbl]; unfold reachBytes at hlen; omega
      · by_cases hl0 : len = 0
        · left; subst hl0; rfl
        · right
          obtain ⟨b, off, spot⟩ := a
          obtain ⟨_, g0, _, _⟩ := hF 0 (by omega)
          have hspot : spot = none := by simpa [Addr.add] using World.cell?_spot g0
          subst hspot
          refine ⟨b, off, rfl, Nat.zero_le _, ?_, ?_⟩
          · refine Decidable.byContradiction fun hbn => ?_
            have : W.heap[b]? = none := by simp; omega
            rw [add_off] at g0
            simp [World.cell?, this] at g0
          · intro j hj
            have hj' : j < len := by simpa using hj
            obtain ⟨_, g0, g1, _⟩ := hF j hj'
            rw [add_off] at g0 g1
            refine ⟨_, _, g0, by rw [Nat.add_assoc]; exact g1, ?_⟩
            have := hN j hj'
            simpa [bAt, hj'] using this
theorem open_arr (k : Nat) : Opens enc W sp held k := by
  induction k with
  | zero => intro x cs fuel hk; omega
  | succ k ih =>
    intro x cs fuel hk h hf
    obtain ⟨y0, y1, m, rfl, hl, h0, h1⟩ := trod_struct2 Try.underlying25 h
    rw [cells25] at hl
    match cs, hl with
    | [c0, c1], _ =>
      simp only [cells22, cells23, List.drop_zero, List.take_succ_cons, List.take_zero, List.drop_succ_cons] at h0 h1
      obtain ⟨f0, f1⟩ := fit_arr hf
      obtain ⟨sh, a1, n1, cp1, rfl, hsl, hR, hsI⟩ : ∃ sh a1 n1 cp1, c0 = .slice a1 n1 cp1 ∧ List.length sh = n1 ∧ Row 0 W a1 sh ∧ ∀ z ∈ sh, I64 z := by
        rcases open_ints Try.underlying22 Try.underlying3 cells3 h0 with ⟨hcs, hx⟩ | ⟨a, l, c, zs, hcs, _, hlc, hm, hz, hx, hcell, hwz⟩
        · simp only [List.cons.injEq, and_true] at hcs
          exact ⟨[], none, 0, 0, hcs, rfl, row_nil _ _ _, by simp⟩
        · simp only [List.cons.injEq, and_true] at hcs
          rw [hx] at f0
          obtain ⟨hb, -⟩ := fit_slice Try.underlying22 f0
          rw [bytes3] at hb
          have hzl : l ≤ zs.length := by rw [hz]; split <;> omega
          simp only [lits, List.length_map, List.length_take, List.length_drop, reachBytes] at hb
          refine ⟨zs.take l, some a, l, c, hcs, by rw [List.length_take]; omega, ?_, fun z hz => bounds_i64 (hwz z (List.mem_of_mem_take hz))⟩
          refine ⟨by rw [List.length_take]; omega, ?_⟩
          by_cases hl0 : l = 0
          · left; subst hl0; rfl
          · right
            obtain ⟨b, off, spot⟩ := a
            have hc0 := hcell 0 (by omega)
            have hspot : spot = none := by simpa [Addr.add] using World.cell?_spot hc0
            subst hspot
            refine ⟨b, off, rfl, Nat.zero_le _, ?_, ?_⟩
            · refine Decidable.byContradiction fun hbn => ?_
              have : W.heap[b]? = none := by simp; omega
              simp [Addr.add, World.cell?, this] at hc0
            · intro i hi
              have hi' : i < l := by rw [List.length_take] at hi; omega
              have := hcell i (by omega)
              rw [add_off] at this
              rw [this]
              simp [hi']
      rcases open_slice Try.underlying23 h1 with ⟨hcs, hx⟩ | ⟨a, len, cap, mm, n, D, Pl, hcs, _, hlc, hm, hmm, hx, hel⟩
      · simp only [List.cons.injEq, and_true] at hcs
        subst hcs
        exact ⟨1, .mk sh [], _, _, rfl, arIn_mk (n := 0) (x := .mk sh []) hR (by simp [Ar.cells]) (Or.inl rfl) hsl rfl, Snd.of hsI (by simp)⟩
      · simp only [List.cons.injEq, and_true] at hcs
        subst hcs
        rw [hx] at f1
        obtain ⟨hb, hfe⟩ := fit_slice Try.underlying23 f1
        have hlen : len * 40 ≤ reachBytes := by
          rw [bytes33] at hb
          simp only [List.length_map, List.length_range] at hb
          omega
        have hlm : len ≤ mm := by rw [hmm]; split <;> omega
        have hE : ∀ i, i < len → ∃ p : Ce × Value × Value × Value, ∃ n, W.cell? (a.add (i * 3)) = some p.2.1 ∧ W.cell? (a.add (i * 3 + 1)) = some p.2.2.1 ∧ W.cell? (a.add (i * 3 + 2)) = some p.2.2.2 ∧ CeIn (ArIn n 0 W) 0 W p.1 p.2.1 p.2.2.1 p.2.2.2 ∧ SndC p.1 := by
          intro i hi
          obtain ⟨cs', hc', ht'⟩ := hel i (by omega)
          rw [cells33] at hc'
          obtain ⟨w0, w1, w2, rfl, g0, g1, g2⟩ := three_of hc'
          rw [add_add] at g1 g2
          have hmem : D i ∈ (List.range len).map D := List.mem_map_of_mem (List.mem_range.2 hi)
          have hs : SizeOf.sizeOf (D i) ≤ k := by
            have s1 := List.sizeOf_lt_of_mem hmem
            rw [hx] at hk
            simp only [DataW.agg.sizeOf_spec, DataW.slice.sizeOf_spec, List.cons.sizeOf_spec, List.nil.sizeOf_spec] at hk
            omega
          obtain ⟨n', c, u0, u1, u2, hcc, hin, hsn⟩ := open_cell ih (D i, Pl i) [w0, w1, w2] n hs ht' (hfe _ hmem)
          simp only [List.cons.injEq, and_true] at hcc
          obtain ⟨rfl, rfl, rfl⟩ := hcc
          exact ⟨(c, w0, w1, w2), n', g0, g1, g2, hin, hsn⟩
        obtain ⟨F, hF⟩ := choose_lt hE
        obtain ⟨N, hN⟩ := fuel_lt (n := len) (q := fun i n => CeIn (ArIn n 0 W) 0 W (F i).1 (F i).2.1 (F i).2.2.1 (F i).2.2.2) (fun i a b hab h => h.deeper fun x v hx => hx.deep hab) (fun i hi => by obtain ⟨n, _, _, _, h, _⟩ := hF i hi; exact ⟨n, h⟩)
        have hbl : ((List.range len).map fun i => (F i).1).length = len := by simp
        refine ⟨N + 1, .mk sh ((List.range len).map fun i => (F i).1), _, _, rfl, arIn_mk (n := N) (x := .mk sh ((List.range len).map fun i => (F i).1)) hR ?_ ?_ hsl hbl, Snd.of hsI fun c hc => by
          obtain ⟨i, hi, rfl⟩ := List.mem_map.1 hc
          obtain ⟨_, _, _, _, _, hs⟩ := hF i (List.mem_range.1 hi)
          exact hs⟩
        · show ((List.range len).map fun i => (F i).1).length ≤ _
          rw [hbl]; unfold reachBytes at hlen; omega
        · show CellsIn N 0 W ((List.range len).map fun i => (F i).1) (some a)
          by_cases hl0 : len = 0
          · left; subst hl0; rfl
          · right
            obtain ⟨b, off, spot⟩ := a
            obtain ⟨_, g0, _, _⟩ := hF 0 (by omega)
            have hspot : spot = none := by simpa [Addr.add] using World.cell?_spot g0
            subst hspot
            refine ⟨b, off, rfl, Nat.zero_le _, ?_, ?_⟩
            · refine Decidable.byContradiction fun hbn => ?_
              have : W.heap[b]? = none := by simp; omega
              rw [add_off] at g0
              simp [World.cell?, this] at g0
            · intro j hj
              have hj' : j < len := by simpa using hj
              obtain ⟨_, g0, g1, g2, _⟩ := hF j hj'
              rw [add_off] at g0 g1 g2
              refine ⟨_, _, _, g0, by rw [Nat.add_assoc]; exact g1, by rw [Nat.add_assoc]; exact g2, ?_⟩
              have := hN j hj'
              simpa [cAt, hj'] using this
/-- An array that came in. -/
theorem arr_of {ts : List TypeId} {ds : List (DataW H)} {j : Nat} {d : DataW H} {v : Value} {p : List MemPlace}
    (hsz : (DataW.weightsEach Try.prog ts ds).all (· ≤ reachBytes) = true) (ht : ts[j]? = some 25) (hd : ds[j]? = some d)
    (h : DataW.Trod enc Try.prog W 0 sp held 25 v d p) : ∃ n y c0 c1, v.cells.toList = [c0, c1] ∧ ArIn n 0 W y (.agg #[c0, c1]) ∧ Snd y := by
  obtain ⟨fuel, hf⟩ := h
  exact open_arr (SizeOf.sizeOf d + 1) (d, p) _ fuel (by simp) hf (fun n hn => by
    have := List.all_eq_true.1 hsz n (DataW.weights_mem_each ht hd n hn)
    simpa using this)
end
end Go.Proofs.Ytimkcpbgnoekcaa
namespace Go.Proofs.Ytimkcpbgnoekcaa
open Go.ChangeShapes Go.WideShapes Go.ChangeAt Go.RowKit
set_option linter.unusedVariables false
set_option maxRecDepth 100000
theorem firstUp_all {f : Nat → Int} {m : Nat} (h : ∀ i, i < m → f i = 0) : firstUp f m = 0 := by
  induction m with
  | zero => rfl
  | succ m ih => simp only [firstUp]; rw [ih fun i hi => h i (by omega), if_pos rfl]; exact h m (by omega)
theorem cmpC_self {f : Ar → Ar → Int} (hf : ∀ x, f x x = 0) (c : Ce) : cmpC f c c = 0 := by
  unfold cmpC
  simp [cmp3_self, hf]
theorem cmpA_self (n : Nat) (x : Ar) : cmpA n x x = 0 := by
  induction n generalizing x with
  | zero => rfl
  | succ n ih =>
    simp only [cmpA]
    rw [if_neg (by simp [cmp3_self]), if_neg (by
      have : firstUp (axF x x) x.shape.length = 0 := firstUp_all fun i _ => cmp3_self _
      simp [this]), if_neg (by
      have : firstUp (ceF (cmpA n) x x) (min x.cells.length x.cells.length) = 0 := firstUp_all fun i _ => cmpC_self ih _
      exact fun h => h this)]
    exact cmp3_self _
theorem chk_atom (z : Int) : chkA 8 (atomA z) = 0 := by
  have h1 : sizeE [] = 0 := by decide
  have h2 : sizeV [] = 1 := by decide
  have h3 : ¬ hasLong [] := by decide
  simp [chkA, chkB, atomA, Ar.shape, Ar.cells, numCs, h1, h2, h3, firstUp, chkF, chkC, cAt]
theorem chk_nums (l : List Int) (hl : l.length ≤ 16384) : chkA 8 (numsA l) = 0 := by
  have hn : ¬ hasNeg [(l.length : Int)] := by
    rintro ⟨z, hz, h⟩
    simp at hz
    omega
  have h3 : ¬ hasLong [(l.length : Int)] := by
    rintro ⟨z, hz, h⟩
    simp at hz
    omega
  have h12 : sizeE [(l.length : Int)] = 0 ∧ sizeV [(l.length : Int)] = (l.length : Int) := by
    by_cases h0 : hasZero [(l.length : Int)]
    · have hz := h0
      obtain ⟨z, hz, h⟩ := hz
      simp at hz
      have := size_zero (l := [(l.length : Int)]) (by simp) hn h0
      exact ⟨this.2, by rw [this.1]; omega⟩
    · have hp : prodL [(l.length : Int)] = (l.length : Int) := by simp [prodL]
      have := size_ok (l := [(l.length : Int)]) (by simp) hn h0 (by rw [hp]; omega)
      exact ⟨this.2, by rw [this.1, hp]⟩
  show chkB (chkA 7) (numsA l) = 0
  unfold chkB
  have e1 : (numsA l).shape = [(l.length : Int)] := rfl
  have e2 : (numsA l).cells = numCs 0 l := rfl
  rw [e1, e2, numCs_len, if_neg (by simp [h12.1]), if_neg (by simp [h12.2]), if_neg h3]
  refine firstUp_all fun i hi => ?_
  unfold chkF
  rw [e2, numCs_at 0 l i hi]
  simp [chkC]
end Go.Proofs.Ytimkcpbgnoekcaa
namespace Go.Proofs.Ytimkcpbgnoekcaa
open Go.ChangeShapes Go.WideShapes Go.ChangeAt Go.RowKit
set_option linter.unusedVariables false
set_option maxRecDepth 100000
def gI (l : List Int) (i : Nat) : Int := l[i]?.getD 0
theorem gI_set (l : List Int) (k i : Nat) (v : Int) (hk : k < l.length) : gI (l.set k v) i = if i = k then v else gI l i := by
  unfold gI
  rw [List.getElem?_set]
  by_cases h : k = i
  · subst h; simp [hk]
  · have h' : ¬ i = k := fun h' => h h'.symm
    rw [if_neg h, if_neg h']
theorem gI_ext {l m : List Int} (h : l.length = m.length) (h2 : ∀ i, i < l.length → gI l i = gI m i) : l = m := by
  refine List.ext_getElem? fun i => ?_
  by_cases hi : i < l.length
  · have := h2 i hi
    unfold gI at this
    rw [List.getElem?_eq_getElem hi, List.getElem?_eq_getElem (by omega)] at this ⊢
    simpa using this
  · rw [List.getElem?_eq_none (by omega), List.getElem?_eq_none (by omega)]
/-- Shapes that may be. -/
theorem fine_cases {l : List Int} (h : sizeE l = 0) : l.length ≤ 8 ∧ (∀ z ∈ l, 0 ≤ z) ∧ ((hasZero l ∧ sizeV l = 0) ∨ ((∀ z ∈ l, 0 < z) ∧ prodL l ≤ 16384 ∧ sizeV l = prodL l)) := by
  obtain ⟨s1, s2, s3⟩ := sizeE_ok h
  refine ⟨by omega, fun z hz => ?_, ?_⟩
  · rcases Int.lt_or_le z 0 with hlt | hle
    · exact absurd ⟨z, hz, hlt⟩ s2
    · exact hle
  · rcases s3 with s3 | ⟨s3, s4⟩
    · exact Or.inl ⟨s3, (size_zero s1 s2 s3).1⟩
    · exact Or.inr ⟨all_pos s2 s3, by omega, (size_ok s1 s2 s3 (by omega)).1⟩
theorem prodL_zero {l : List Int} (h : hasZero l) : prodL l = 0 := by
  obtain ⟨z, hz, rfl⟩ := h
  induction l with
  | nil => simp at hz
  | cons s ss ih =>
    simp only [prodL]
    rcases List.mem_cons.1 hz with h | h
    · rw [← h]; simp
    · rw [ih h]; simp
theorem fine_mk {l : List Int} (h1 : l.length ≤ 8) (h2 : ∀ z ∈ l, 0 ≤ z) (h3 : hasZero l ∨ prodL l ≤ 16384) : sizeE l = 0 ∧ sizeV l = prodL l := by
  have hn : ¬ hasNeg l := by rintro ⟨z, hz, h⟩; have := h2 z hz; omega
  by_cases h0 : hasZero l
  · have := size_zero (by omega) hn h0
    refine ⟨this.2, ?_⟩
    rw [this.1]
    exact (prodL_zero h0).symm
  · rcases h3 with h3 | h3
    · exact absurd h3 h0
    · have := size_ok (by omega) hn h0 (by omega)
      exact ⟨this.2, this.1⟩
theorem sizeV_prod {l : List Int} (h : sizeE l = 0) : sizeV l = prodL l := by
  obtain ⟨h1, h2, h3⟩ := fine_cases h
  exact (fine_mk h1 h2 (h3.elim (fun h => Or.inl h.1) fun h => Or.inr h.2.1)).2
theorem sizeV_le {l : List Int} (h : sizeE l = 0) : 0 ≤ sizeV l ∧ sizeV l ≤ 16384 := by
  obtain ⟨h1, h2, h3⟩ := fine_cases h
  rcases h3 with ⟨-, h3⟩ | ⟨h3, h4, h5⟩
  · omega
  · have := prodL_pos h3; omega
theorem chkB_iff (f : Ar → Int) (x : Ar) : chkB f x = 0 ↔ sizeE x.shape = 0 ∧ sizeV x.shape = x.cells.length ∧ ¬ hasLong x.shape ∧ ∀ i, i < x.cells.length → chkC f (cAt x.cells i) = 0 := by
  unfold chkB
  constructor
  · intro h
    by_cases h1 : sizeE x.shape = 0
    · rw [if_neg (fun k => k h1)] at h
      by_cases h2 : sizeV x.shape = x.cells.length
      · rw [if_neg (fun k => k h2)] at h
        by_cases h3 : hasLong x.shape
        · rw [if_pos h3] at h; omega
        · rw [if_neg h3] at h; exact ⟨h1, h2, h3, firstUp_none h⟩
      · rw [if_pos h2] at h; omega
    · rw [if_pos h1] at h; exact absurd h h1
  · rintro ⟨h1, h2, h3, h4⟩
    rw [if_neg (fun k => k h1), if_neg (fun k => k h2), if_neg h3]
    exact firstUp_all h4
def inF : Nat → Ar → Int
  | 0, _ => 15
  | r + 1, y => chkA r y
theorem chkA_iff (r : Nat) (x : Ar) : chkA r x = 0 ↔ sizeE x.shape = 0 ∧ sizeV x.shape = x.cells.length ∧ ¬ hasLong x.shape ∧ ∀ i, i < x.cells.length → chkC (inF r) (cAt x.cells i) = 0 := by
  cases r with
  | zero => exact chkB_iff _ x
  | succ r => exact chkB_iff _ x
/-- An array of another's cells may be, if its shape may. -/
theorem chk_of {r : Nat} {x : Ar} {s : List Int} {cs : List Ce} (h : chkA r x = 0) (h1 : sizeE s = 0) (h2 : sizeV s = cs.length) (h3 : ¬ hasLong s) (h4 : ∀ i, i < cs.length → ∃ j, j < x.cells.length ∧ cAt cs i = cAt x.cells j) : chkA r (.mk s cs) = 0 := by
  rw [chkA_iff] at h ⊢
  refine ⟨h1, h2, h3, fun i hi => ?_⟩
  obtain ⟨j, hj, e⟩ := h4 i hi
  show chkC (inF r) (cAt cs i) = 0
  rw [e]
  exact h.2.2.2 j hj
/-- Cells by their number. -/
def mkCs (m : Nat) (g : Nat → Ce) : List Ce := (List.range m).map g
theorem mkCs_len (m : Nat) (g : Nat → Ce) : (mkCs m g).length = m := by simp [mkCs]
theorem mkCs_at (m : Nat) (g : Nat → Ce) (i : Nat) (hi : i < m) : cAt (mkCs m g) i = g i := by simp [cAt, mkCs, hi]
end Go.Proofs.Ytimkcpbgnoekcaa
namespace Go.Proofs.Ytimkcpbgnoekcaa
open Go.ChangeShapes Go.WideShapes Go.ChangeAt Go.RowKit
set_option linter.unusedVariables false
set_option maxRecDepth 100000
/-- A row of numbers in a block that may be written. -/
def Soft (w : World) (b : Nat) (l : List Int) : Prop := w.rowIs b 3 l.length (fun i => .int .i64 (gI l i))
theorem Soft.row {w : World} {b lo : Nat} {l : List Int} (h : Soft w b l) (hlo : lo ≤ b) (hl : l.length ≤ 140737488355328) : Row lo w (some ⟨b, 0, none⟩) l := by
  refine ⟨hl, ?_⟩
  by_cases h0 : l = []
  · exact Or.inl h0
  · have hp : 0 < l.length := List.length_pos_iff.2 h0
    have h' := h
    obtain ⟨c, h1, -⟩ := h'
    exact Or.inr ⟨b, 0, rfl, hlo, lt_of_block h1, fun i hi => by rw [Nat.zero_add]; exact World.rowIs.cell (i := i) h hi⟩
theorem Soft.set {w : World} {b : Nat} {l : List Int} (h : Soft w b l) (k : Nat) (v : Int) : Soft (w.setCell ⟨b, k, none⟩ (.int .i64 v)) b (l.set k v) := by
  have := World.rowIs.set h k (.int .i64 v)
  unfold Soft
  rw [List.length_set]
  refine this.congr fun i hi => ?_
  by_cases hk : k < l.length
  · rw [gI_set _ _ _ _ hk]; split <;> rfl
  · have e : l.set k v = l := List.set_eq_of_length_le (by omega)
    rw [e, if_neg (by omega)]
theorem Soft.below {w w1 : World} {b : Nat} {l : List Int} (h : Soft w b l) (hb : Below w.heap.size w w1) : Soft w1 b l := by
  obtain ⟨c, h1, h2⟩ := h
  exact ⟨c, (hb.block b (lt_of_block h1)).trans h1, h2⟩
theorem Soft.lt {w : World} {b : Nat} {l : List Int} (h : Soft w b l) : b < w.heap.size := by
  obtain ⟨c, h1, h2⟩ := h
  exact lt_of_block h1
/-- The worlds in a loop that writes into two rows: nothing else has turned. -/
structure Two (W : World) (b1 b2 : Nat) (wr : World) : Prop where
  io : Below 0 W wr
  size : wr.heap.size = W.heap.size
  keep : ∀ k, k ≠ b1 → k ≠ b2 → wr.heap[k]? = W.heap[k]?
theorem Two.refl (W : World) (b1 b2 : Nat) : Two W b1 b2 W := ⟨Below.refl _ _, rfl, fun _ _ _ => rfl⟩
theorem Two.drew {W wr : World} {b1 b2 : Nat} (h : Two W b1 b2 wr) : Two W b1 b2 wr.drew := ⟨h.io.drew, h.size, h.keep⟩
theorem Two.cell {W wr : World} {b1 b2 : Nat} (h : Two W b1 b2 wr) {b i : Nat} {v : Value} (h1 : b ≠ b1) (h2 : b ≠ b2) (hc : W.cell? ⟨b, i, none⟩ = some v) : wr.cell? ⟨b, i, none⟩ = some v := by
  rw [World.cell?_of_block (w := W) (h.keep b h1 h2)]; exact hc
theorem Two.frozen {W wr : World} {b1 b2 : Nat} (h : Two W b1 b2 wr) {b i : Nat} (h1 : b ≠ b1) (h2 : b ≠ b2) (hc : W.frozen? ⟨b, i, none⟩ = false) : wr.frozen? ⟨b, i, none⟩ = false := by
  rw [World.frozen?_of_block (w := W) (h.keep b h1 h2)]; exact hc
theorem Two.belowB {W wr : World} {b1 b2 B : Nat} (h : Two W b1 b2 wr) (h1 : B ≤ b1) (h2 : B ≤ b2) : Below B W wr := ⟨h.io.os, h.io.tape, h.io.output, h.io.size, fun k hk => h.keep k (by omega) (by omega)⟩
theorem Two.below {W wr w : World} {b1 b2 : Nat} (h : Two W b1 b2 wr) (hb : Below w.heap.size w W) (h1 : w.heap.size ≤ b1) (h2 : w.heap.size ≤ b2) : Below w.heap.size w wr := hb.trans (h.belowB h1 h2)
/-- A row of numbers that may be written, by its cells. -/
def SoftC (w : World) (b : Nat) (l : List Int) : Prop := ∀ i, i < l.length → w.cell? ⟨b, i, none⟩ = some (.int .i64 (gI l i)) ∧ w.frozen? ⟨b, i, none⟩ = false
theorem Soft.cells {w : World} {b : Nat} {l : List Int} (h : Soft w b l) : SoftC w b l := fun i hi => ⟨World.rowIs.cell (i := i) h hi, World.rowIs.frozen h i⟩
theorem SoftC.set {w : World} {b : Nat} {l : List Int} (h : SoftC w b l) (k : Nat) (hk : k < l.length) (v : Int) : SoftC (w.setCell ⟨b, k, none⟩ (.int .i64 v)) b (l.set k v) := by
  intro i hi
  rw [List.length_set] at hi
  obtain ⟨h1, h2⟩ := h i hi
  refine ⟨?_, by simpa using h2⟩
  rw [gI_set _ _ _ _ hk]
  by_cases hik : i = k
  · subst hik
    rw [if_pos rfl]
    exact World.cell?_setCell_same' _ _ _ (by rw [h1]; rfl)
  · rw [if_neg hik, World.cell?_setCell_other _ _ _ _ (by simp)]
    exact h1
theorem SoftC.row {w : World} {b lo : Nat} {l : List Int} (h : SoftC w b l) (hb : b < w.heap.size) (hlo : lo ≤ b) (hl : l.length ≤ 140737488355328) : Row lo w (some ⟨b, 0, none⟩) l :=
  ⟨hl, Or.inr ⟨b, 0, rfl, hlo, hb, fun i hi => by rw [Nat.zero_add]; exact (h i hi).1⟩⟩
end Go.Proofs.Ytimkcpbgnoekcaa
namespace Go.Proofs.Ytimkcpbgnoekcaa
open Go.ChangeShapes Go.WideShapes Go.ChangeAt Go.RowKit
set_option linter.unusedVariables false
set_option maxRecDepth 100000
def upd (f : Nat → Int) (i : Nat) (v : Int) : Nat → Int := fun x => if x = i then v else f x
def swp (f : Nat → Int) (i j : Nat) : Nat → Int := fun x => if x = i then f j else if x = j then f i else f x
theorem upd_swp (f : Nat → Int) (i j : Nat) : upd (upd f i (f j)) j (f i) = swp f i j := by
  funext x
  unfold upd swp
  (repeat' split) <;> first | rfl | (exfalso; omega) | (congr 1; omega)
theorem upd_swp' (f : Nat → Int) (i j : Nat) : upd (upd f j (f i)) i (f j) = swp f i j := by
  funext x
  unfold upd swp
  (repeat' split) <;> first | rfl | (exfalso; omega) | (congr 1; omega)
def swpR (f : Nat → Int) (p q k : Nat) : Nat → Int := fun x => if p ≤ x ∧ x < p + k then f (x - p + q) else if q ≤ x ∧ x < q + k then f (x - q + p) else f x
theorem swpR_zero (f : Nat → Int) (p q : Nat) : swpR f p q 0 = f := by
  funext x; unfold swpR; rw [if_neg (by omega), if_neg (by omega)]
theorem swpR_step (f : Nat → Int) (p q k i : Nat) (h : p + k ≤ q) (hi : i < k) : swp (swpR f p q i) (p + i) (q + i) = swpR f p q (i + 1) := by
  funext x
  have e1 : swpR f p q i (q + i) = f (q + i) := by unfold swpR; rw [if_neg (by omega), if_neg (by omega)]
  have e2 : swpR f p q i (p + i) = f (p + i) := by unfold swpR; rw [if_neg (by omega), if_neg (by omega)]
  unfold swp
  rw [e1, e2]
  unfold swpR
  (repeat' split) <;> first | rfl | (exfalso; omega) | (congr 1; omega)
def rotF (f : Nat → Int) (a m b : Nat) : Nat → Int := fun x => if a ≤ x ∧ x < a + (b - m) then f (x + (m - a)) else if a + (b - m) ≤ x ∧ x < b then f (x - (b - m)) else f x
/-- The left one is longer: the first part is put right. -/
theorem rot_left (f : Nat → Int) (m i j : Nat) (hi : i ≤ m) (h : j < i) : rotF (swpR f (m - i) m j) (m - (i - j)) m (m + j) = rotF f (m - i) m (m + j) := by
  funext x
  unfold rotF swpR
  (repeat' split) <;> first | rfl | (exfalso; omega) | (congr 1; omega)
theorem rot_right (f : Nat → Int) (m i j : Nat) (hi : i ≤ m) (h : i < j) : rotF (swpR f (m - i) (m + j - i) i) (m - i) m (m + (j - i)) = rotF f (m - i) m (m + j) := by
  funext x
  unfold rotF swpR
  (repeat' split) <;> first | rfl | (exfalso; omega) | (congr 1; omega)
theorem rot_same (f : Nat → Int) (m i : Nat) (hi : i ≤ m) : swpR f (m - i) m i = rotF f (m - i) m (m + i) := by
  funext x
  unfold rotF swpR
  (repeat' split) <;> first | rfl | (exfalso; omega) | (congr 1; omega)
/-- The thing at i is put in at j, those from there on go one further. -/
def ins (g : Nat → Int) (i j : Nat) : Nat → Int := fun x => if x < j then g x else if x = j then g i else if x ≤ i then g (x - 1) else g x
theorem ins_self (g : Nat → Int) (i : Nat) : ins g i i = g := by
  funext x; unfold ins
  by_cases h1 : x < i
  · rw [if_pos h1]
  · rw [if_neg h1]
    by_cases h2 : x = i
    · rw [if_pos h2, h2]
    · rw [if_neg h2, if_neg (by omega)]
theorem ins_step (g : Nat → Int) (i j : Nat) (hj : 0 < j) (hji : j ≤ i) : swp (ins g i j) j (j - 1) = ins g i (j - 1) := by
  funext x
  have e1 : ins g i j (j - 1) = g (j - 1) := by unfold ins; rw [if_pos (by omega)]
  have e2 : ins g i j j = g i := by unfold ins; rw [if_neg (by omega), if_pos rfl]
  unfold swp
  rw [e1, e2]
  unfold ins
  (repeat' split) <;> first | rfl | (exfalso; omega) | (congr 1; omega)
/-- The thing at a goes behind those up to i. -/
def mvR (g : Nat → Int) (a i : Nat) : Nat → Int := fun x => if a ≤ x ∧ x + 1 < i then g (x + 1) else if x + 1 = i then g a else g x
theorem mvR_self (g : Nat → Int) (a : Nat) : mvR g a (a + 1) = g := by
  funext x; unfold mvR
  rw [if_neg (by omega)]
  by_cases h : x + 1 = a + 1
  · rw [if_pos h]; congr 1; omega
  · rw [if_neg h]
theorem mvR_step (g : Nat → Int) (a k : Nat) (hk : a ≤ k) : swp (mvR g a (k + 1)) k (k + 1) = mvR g a (k + 2) := by
  funext x
  have e1 : mvR g a (k + 1) (k + 1) = g (k + 1) := by unfold mvR; rw [if_neg (by omega), if_neg (by omega)]
  have e2 : mvR g a (k + 1) k = g a := by unfold mvR; rw [if_neg (by omega), if_pos rfl]
  unfold swp
  rw [e1, e2]
  unfold mvR
  (repeat' split) <;> first | rfl | (exfalso; omega) | (congr 1; omega)
/-- The order: by the comparison, the same ones by their numbers. -/
def ltc (c : Int → Int → Int) (x y : Int) : Prop := c x y < 0 ∨ (c x y = 0 ∧ x < y)
structure OrdN (n : Nat) (c : Int → Int → Int) : Prop where
  tr : ∀ x y z : Int, 0 ≤ x → x < n → 0 ≤ y → y < n → 0 ≤ z → z < n → ltc c x y → ltc c y z → ltc c x z
  tot : ∀ x y : Int, 0 ≤ x → x < n → 0 ≤ y → y < n → x ≠ y → ¬ ltc c x y → ltc c y x
theorem ltc_of {c : Int → Int → Int} {x y : Int} (h : y < x) : c x y < 0 ↔ ltc c x y := by
  unfold ltc; constructor
  · exact Or.inl
  · rintro (h1 | ⟨-, h2⟩)
    · exact h1
    · omega
def Rng (n : Nat) (f : Nat → Int) : Prop := ∀ i, i < n → 0 ≤ f i ∧ f i < n
def Srt (c : Int → Int → Int) (f : Nat → Int) (A E : Nat) : Prop := ∀ i j, A ≤ i → i < j → j < E → ltc c (f i) (f j)
/-- Outside A to E nothing has turned, and inside there is nothing new. -/
structure Mv (f g : Nat → Int) (A E : Nat) : Prop where
  out : ∀ i, ¬ (A ≤ i ∧ i < E) → g i = f i
  img : ∀ i, A ≤ i → i < E → ∃ j, A ≤ j ∧ j < E ∧ g i = f j
theorem Mv.refl (f : Nat → Int) (A E : Nat) : Mv f f A E := ⟨fun _ _ => rfl, fun i h1 h2 => ⟨i, h1, h2, rfl⟩⟩
theorem Mv.trans {f g h : Nat → Int} {A E : Nat} (h1 : Mv f g A E) (h2 : Mv g h A E) : Mv f h A E := by
  refine ⟨fun i hi => (h2.out i hi).trans (h1.out i hi), fun i a b => ?_⟩
  obtain ⟨j, c, d, e⟩ := h2.img i a b
  obtain ⟨k, c', d', e'⟩ := h1.img j c d
  exact ⟨k, c', d', e.trans e'⟩
theorem Mv.wide {f g : Nat → Int} {A E A' E' : Nat} (h : Mv f g A E) (h1 : A' ≤ A) (h2 : E ≤ E') : Mv f g A' E' := by
  refine ⟨fun i hi => h.out i (by omega), fun i a b => ?_⟩
  by_cases hi : A ≤ i ∧ i < E
  · obtain ⟨j, c, d, e⟩ := h.img i hi.1 hi.2
    exact ⟨j, by omega, by omega, e⟩
  · exact ⟨i, a, b, h.out i hi⟩
theorem Mv.rng {f g : Nat → Int} {A E n : Nat} (h : Mv f g A E) (hE : E ≤ n) (hf : Rng n f) : Rng n g := by
  intro i hi
  by_cases hh : A ≤ i ∧ i < E
  · obtain ⟨j, c, d, e⟩ := h.img i hh.1 hh.2
    rw [e]; exact hf j (by omega)
  · rw [h.out i hh]; exact hf i hi
theorem ins_lo (g : Nat → Int) {i j x : Nat} (h : x < j) : ins g i j x = g x := by unfold ins; rw [if_pos h]
theorem ins_at (g : Nat → Int) (i j : Nat) : ins g i j j = g i := by unfold ins; rw [if_neg (by omega), if_pos rfl]
theorem ins_hi (g : Nat → Int) {i j x : Nat} (h : j < x) (h2 : x ≤ i) : ins g i j x = g (x - 1) := by unfold ins; rw [if_neg (by omega), if_neg (by omega), if_pos h2]
/-- What is put in in order is in order. -/
theorem ins_srt {n : Nat} {c : Int → Int → Int} (O : OrdN n c) {g : Nat → Int} (R : Rng n g) {A i j : Nat} (hi : i < n) (hA : A ≤ j) (hj : j ≤ i) (hs : Srt c g A i) (h1 : ∀ x, j ≤ x → x < i → ltc c (g i) (g x)) (h2 : A < j → ltc c (g (j - 1)) (g i)) : Srt c (ins g i j) A (i + 1) := by
  intro x y hx hxy hy
  have r := fun z (hz : z ≤ i) => R z (by omega)
  by_cases a1 : y < j
  · rw [ins_lo g a1, ins_lo g (show x < j by omega)]; exact hs x y hx hxy (by omega)
  · by_cases a2 : y = j
    · rw [a2, ins_at, ins_lo g (show x < j by omega)]
      have hl := h2 (by omega)
      by_cases a3 : x = j - 1
      · rw [a3]; exact hl
      · exact O.tr _ _ _ (r x (by omega)).1 (r x (by omega)).2 (r (j - 1) (by omega)).1 (r (j - 1) (by omega)).2 (r i (by omega)).1 (r i (by omega)).2 (hs x (j - 1) hx (by omega) (by omega)) hl
    · rw [ins_hi g (show j < y by omega) (by omega)]
      by_cases b1 : x < j
      · rw [ins_lo g b1]; exact hs x (y - 1) hx (by omega) (by omega)
      · by_cases b2 : x = j
        · rw [b2, ins_at]; exact h1 (y - 1) (by omega) (by omega)
        · rw [ins_hi g (show j < x by omega) (by omega)]; exact hs (x - 1) (y - 1) (by omega) (by omega) (by omega)
theorem ins_mv (g : Nat → Int) {A i j : Nat} (hA : A ≤ j) (hj : j ≤ i) : Mv g (ins g i j) A (i + 1) := by
  refine ⟨fun x hx => ?_, fun x h1 h2 => ?_⟩
  · unfold ins
    by_cases h : x < j
    · rw [if_pos h]
    · rw [if_neg h, if_neg (by omega), if_neg (by omega)]
  · unfold ins
    by_cases a1 : x < j
    · exact ⟨x, h1, by omega, by rw [if_pos a1]⟩
    · by_cases a2 : x = j
      · exact ⟨i, by omega, by omega, by rw [if_neg a1, if_pos a2]⟩
      · exact ⟨x - 1, by omega, by omega, by rw [if_neg a1, if_neg a2, if_pos (by omega)]⟩
theorem mvR_mv (g : Nat → Int) {a i b : Nat} (hi : a < i) (hb : i ≤ b) : Mv g (mvR g a i) a b := by
  refine ⟨fun x hx => ?_, fun x h1 h2 => ?_⟩
  · unfold mvR; rw [if_neg (by omega), if_neg (by omega)]
  · unfold mvR
    by_cases a1 : a ≤ x ∧ x + 1 < i
    · exact ⟨x + 1, by omega, by omega, by rw [if_pos a1]⟩
    · by_cases a2 : x + 1 = i
      · exact ⟨a, by omega, by omega, by rw [if_neg a1, if_pos a2]⟩
      · exact ⟨x, h1, h2, by rw [if_neg a1, if_neg a2]⟩
theorem mvR_srt {n : Nat} {c : Int → Int → Int} (O : OrdN n c) {g : Nat → Int} (R : Rng n g) {a i b : Nat} (hi : a < i) (hb : i ≤ b) (hn : b ≤ n) (hs : Srt c g (a + 1) b) (h1 : ∀ x, a < x → x < i → ltc c (g x) (g a)) (h2 : ∀ x, i ≤ x → x < b → ltc c (g a) (g x)) : Srt c (mvR g a i) a b := by
  intro x y hx hxy hy
  unfold mvR
  by_cases a1 : a ≤ x ∧ x + 1 < i
  · rw [if_pos a1]
    by_cases b1 : a ≤ y ∧ y + 1 < i
    · rw [if_pos b1]; exact hs (x + 1) (y + 1) (by omega) (by omega) (by omega)
    · rw [if_neg b1]
      by_cases b2 : y + 1 = i
      · rw [if_pos b2]; exact h1 (x + 1) (by omega) (by omega)
      · rw [if_neg b2]; exact hs (x + 1) y (by omega) (by omega) (by omega)
  · rw [if_neg a1]
    by_cases a2 : x + 1 = i
    · rw [if_pos a2, if_neg (by omega), if_neg (by omega)]; exact h2 y (by omega) (by omega)
    · rw [if_neg a2, if_neg (by omega), if_neg (by omega)]; exact hs x y (by omega) hxy hy
theorem rot_mv (f : Nat → Int) {a m b : Nat} (h1 : a ≤ m) (h2 : m ≤ b) : Mv f (rotF f a m b) a b := by
  refine ⟨fun x hx => ?_, fun x a1 a2 => ?_⟩
  · unfold rotF; rw [if_neg (by omega), if_neg (by omega)]
  · unfold rotF
    by_cases b1 : a ≤ x ∧ x < a + (b - m)
    · exact ⟨x + (m - a), by omega, by omega, by rw [if_pos b1]⟩
    · exact ⟨x - (b - m), by omega, by omega, by rw [if_neg b1, if_pos (by omega)]⟩
/-- Two parts in order, all of the first one ahead of all of the second. -/
theorem srt_join {n : Nat} {c : Int → Int → Int} {f g : Nat → Int} {a m b : Nat} (h1 : Srt c g a m) (h2 : Srt c g m b) (h3 : ∀ i j, a ≤ i → i < m → m ≤ j → j < b → ltc c (g i) (g j)) : Srt c g a b := by
  intro i j hi hij hj
  by_cases c1 : j < m
  · exact h1 i j hi hij c1
  · by_cases c2 : i < m
    · exact h3 i j hi c2 (by omega) hj
    · exact h2 i j (by omega) hij hj
end Go.Proofs.Ytimkcpbgnoekcaa
namespace Go.Proofs.Ytimkcpbgnoekcaa
open Go.ChangeShapes Go.WideShapes Go.ChangeAt Go.RowKit
set_option linter.unusedVariables false
set_option maxRecDepth 100000
/-- Where a cell's box lies. -/
theorem cells_fn {n lo : Nat} {w : World} {cs : List Ce} {a2 : Option Addr} (hc : CellsIn n lo w cs a2) : ∃ (ab : Nat → Option Addr) (cb : Nat → Nat), 0 < cs.length → ∃ b off, a2 = some ⟨b, off, none⟩ ∧ lo ≤ b ∧ b < w.heap.size ∧ ∀ i, i < cs.length → w.cell? ⟨b, off + i * 3, none⟩ = some (.int .i64 (cAt cs i).1) ∧ w.cell? ⟨b, off + i * 3 + 1, none⟩ = some (.int .i64 (cAt cs i).2.1) ∧ w.cell? ⟨b, off + i * 3 + 2, none⟩ = some (.slice (ab i) (cAt cs i).2.2.length (cb i)) ∧
    CeIn (ArIn n lo w) lo w (cAt cs i) (.int .i64 (cAt cs i).1) (.int .i64 (cAt cs i).2.1) (.slice (ab i) (cAt cs i).2.2.length (cb i)) := by
  rcases hc with rfl | ⟨b, off, ha, hlo, hb, hc⟩
  · exact ⟨fun _ => none, fun _ => 0, fun h => absurd h (by simp)⟩
  · have : ∀ i, ∃ (p : Option Addr × Nat), i < cs.length → w.cell? ⟨b, off + i * 3, none⟩ = some (.int .i64 (cAt cs i).1) ∧ w.cell? ⟨b, off + i * 3 + 1, none⟩ = some (.int .i64 (cAt cs i).2.1) ∧ w.cell? ⟨b, off + i * 3 + 2, none⟩ = some (.slice p.1 (cAt cs i).2.2.length p.2) ∧
        CeIn (ArIn n lo w) lo w (cAt cs i) (.int .i64 (cAt cs i).1) (.int .i64 (cAt cs i).2.1) (.slice p.1 (cAt cs i).2.2.length p.2) := by
      intro i
      by_cases hi : i < cs.length
      · obtain ⟨v0, v1, v2, e0, e1, e2, e3⟩ := hc i hi
        have e4 := e3
        obtain ⟨rfl, rfl, a, cap, rfl, -⟩ := e4
        exact ⟨(a, cap), fun _ => ⟨e0, e1, e2, e3⟩⟩
      · exact ⟨(none, 0), fun h => absurd h hi⟩
    obtain ⟨f, hf⟩ := Classical.axiomOfChoice this
    exact ⟨fun i => (f i).1, fun i => (f i).2, fun _ => ⟨b, off, ha, hlo, hb, fun i hi => hf i hi⟩⟩
end Go.Proofs.Ytimkcpbgnoekcaa
namespace Go.Proofs.Ytimkcpbgnoekcaa
open Go.ChangeShapes Go.WideShapes Go.ChangeAt Go.RowKit
set_option linter.unusedVariables false
set_option maxRecDepth 100000
def zeroA : Ar := .mk [] []
def isC (c : Ce) : Bool := decide (c.1 = 0) && decide (0 ≤ c.2.1)
theorem zeroA_in (n lo : Nat) (w : World) : ArIn (n + 1) lo w zeroA (.agg #[.slice none 0 0, .slice none 0 0]) := arIn_mk (x := zeroA) (row_nil _ _ _) (by simp [zeroA, Ar.cells]) (Or.inl rfl) rfl rfl
def Gives2 (n lo : Nat) (x : Ar) (E : Int) (w : World) (e : Ending) (w' : World) : Prop := (∃ v, e = .returned (.tuple #[v, .int .i64 E]) ∧ ArIn n lo w' x v) ∧ Below w.heap.size w w'
/-- A world in which the boxed argument (block s) and the answer's place (block s + 1) still lie as they were made. -/
structure In2 (w : World) (v0 v1 : Value) (W : World) : Prop where
  bel : Below w.heap.size w W
  size : w.heap.size + 2 ≤ W.heap.size
  q0 : W.cell? ⟨w.heap.size, 0, none⟩ = some v0
  q1 : W.cell? ⟨w.heap.size, 1, none⟩ = some v1
  p0 : W.cell? ⟨w.heap.size + 1, 0, none⟩ = some (.slice none 0 0)
  p1 : W.cell? ⟨w.heap.size + 1, 1, none⟩ = some (.slice none 0 0)
  f0 : W.frozen? ⟨w.heap.size + 1, 0, none⟩ = false
  f1 : W.frozen? ⟨w.heap.size + 1, 1, none⟩ = false
theorem frozen_new1 (w : World) (c : Array Value) (t : TypeId) (o : Obj) (i : Nat) : ((w.alloc o).alloc (.cells c t)).frozen? ⟨w.heap.size + 1, i, none⟩ = false := by
  have := frozen_new (w.alloc o) c t i
  have s1 : (w.alloc o).heap.size = w.heap.size + 1 := by simp
  rw [s1] at this
  exact this
theorem in2_new (w : World) (v0 v1 : Value) : In2 w v0 v1 ((w.alloc (.cells #[v0, v1] 25)).alloc (.cells #[.slice none 0 0, .slice none 0 0] 25)) :=
  ⟨two_allocs _ _ _, by simp, cell_new1 w _ 25 (0, 0) _ 0 _ rfl, cell_new1 w _ 25 (0, 0) _ 1 _ rfl, cell_new2 w _ 25 (0, 0) _ 0 _ rfl, cell_new2 w _ 25 (0, 0) _ 1 _ rfl, frozen_new1 _ _ _ _ _, frozen_new1 _ _ _ _ _⟩
theorem In2.next {w W W' : World} {v0 v1 : Value} (h : In2 w v0 v1 W) (hb : Below W.heap.size W W') : In2 w v0 v1 W' := by
  have s := h.size
  refine ⟨h.bel.trans (hb.mono h.bel.size), Nat.le_trans s hb.size, ?_, ?_, ?_, ?_, ?_, ?_⟩
  · exact (hb.cell (p := ⟨w.heap.size, 0, none⟩) (by show w.heap.size < _; omega)).trans h.q0
  · exact (hb.cell (p := ⟨w.heap.size, 1, none⟩) (by show w.heap.size < _; omega)).trans h.q1
  · exact (hb.cell (p := ⟨w.heap.size + 1, 0, none⟩) (by show w.heap.size + 1 < _; omega)).trans h.p0
  · exact (hb.cell (p := ⟨w.heap.size + 1, 1, none⟩) (by show w.heap.size + 1 < _; omega)).trans h.p1
  · exact (hb.frozen (p := ⟨w.heap.size + 1, 0, none⟩) (by show w.heap.size + 1 < _; omega)).trans h.f0
  · exact (hb.frozen (p := ⟨w.heap.size + 1, 1, none⟩) (by show w.heap.size + 1 < _; omega)).trans h.f1
theorem In2.drew {w W : World} {v0 v1 : Value} (h : In2 w v0 v1 W) : In2 w v0 v1 W.drew := h.next (Below.refl _ _).drew
theorem In2.alloc {w W : World} {v0 v1 : Value} (h : In2 w v0 v1 W) (o : Obj) : In2 w v0 v1 (W.alloc o) := h.next (one_alloc _ _)
/-- A store behind the answer's place. -/
theorem In2.set {w W : World} {v0 v1 : Value} (h : In2 w v0 v1 W) {b i : Nat} (hb : w.heap.size + 2 ≤ b) (v : Value) : In2 w v0 v1 (W.setCell ⟨b, i, none⟩ v) := by
  have s := h.size
  have hk : Below (w.heap.size + 2) W (W.setCell ⟨b, i, none⟩ v) := (Below.refl _ _).setCell (p := ⟨b, i, none⟩) hb v
  refine ⟨h.bel.setCell (p := ⟨b, i, none⟩) (by show w.heap.size ≤ b; omega) v, Nat.le_trans s hk.size, ?_, ?_, ?_, ?_, ?_, ?_⟩
  · exact (hk.cell (p := ⟨w.heap.size, 0, none⟩) (by show w.heap.size < _; omega)).trans h.q0
  · exact (hk.cell (p := ⟨w.heap.size, 1, none⟩) (by show w.heap.size < _; omega)).trans h.q1
  · exact (hk.cell (p := ⟨w.heap.size + 1, 0, none⟩) (by show w.heap.size + 1 < _; omega)).trans h.p0
  · exact (hk.cell (p := ⟨w.heap.size + 1, 1, none⟩) (by show w.heap.size + 1 < _; omega)).trans h.p1
  · exact (hk.frozen (p := ⟨w.heap.size + 1, 0, none⟩) (by show w.heap.size + 1 < _; omega)).trans h.f0
  · exact (hk.frozen (p := ⟨w.heap.size + 1, 1, none⟩) (by show w.heap.size + 1 < _; omega)).trans h.f1
theorem In2.belowS {w W W' : World} {v0 v1 : Value} {B : Nat} (h : In2 w v0 v1 W) (hb : Below B W W') (hB : w.heap.size + 2 ≤ B) : In2 w v0 v1 W' := by
  have s := h.size
  have hk := hb.mono hB
  refine ⟨h.bel.trans (hb.mono (by omega)), Nat.le_trans s hk.size, ?_, ?_, ?_, ?_, ?_, ?_⟩
  · exact (hk.cell (p := ⟨w.heap.size, 0, none⟩) (by show w.heap.size < _; omega)).trans h.q0
  · exact (hk.cell (p := ⟨w.heap.size, 1, none⟩) (by show w.heap.size < _; omega)).trans h.q1
  · exact (hk.cell (p := ⟨w.heap.size + 1, 0, none⟩) (by show w.heap.size + 1 < _; omega)).trans h.p0
  · exact (hk.cell (p := ⟨w.heap.size + 1, 1, none⟩) (by show w.heap.size + 1 < _; omega)).trans h.p1
  · exact (hk.frozen (p := ⟨w.heap.size + 1, 0, none⟩) (by show w.heap.size + 1 < _; omega)).trans h.f0
  · exact (hk.frozen (p := ⟨w.heap.size + 1, 1, none⟩) (by show w.heap.size + 1 < _; omega)).trans h.f1
/-- The answer laid into its place: what is read there, and what was told stays. -/
theorem In2.put {w W : World} {v0 v1 : Value} (h : In2 w v0 v1 W) (u v : Value) : ((W.setCell ⟨w.heap.size + 1, 0, none⟩ u).cell? ⟨w.heap.size + 1, 0, none⟩ = some u ∧ ((W.setCell ⟨w.heap.size + 1, 0, none⟩ u).setCell ⟨w.heap.size + 1, 1, none⟩ v).cell? ⟨w.heap.size + 1, 1, none⟩ = some v) := set_two h.p0 h.p1 u v
theorem In2.fin {w W : World} {v0 v1 : Value} (h : In2 w v0 v1 W) (u v : Value) : Below w.heap.size w ((W.setCell ⟨w.heap.size + 1, 0, none⟩ u).setCell ⟨w.heap.size + 1, 1, none⟩ v) :=
  (h.bel.setCell (p := ⟨w.heap.size + 1, 0, none⟩) (by show w.heap.size ≤ w.heap.size + 1; omega) u).setCell (p := ⟨w.heap.size + 1, 1, none⟩) (by show w.heap.size ≤ w.heap.size + 1; omega) v
theorem In2.give {w W : World} {v0 v1 : Value} (h : In2 w v0 v1 W) {n lo : Nat} {x : Ar} {va : Value} (hx : ArIn n lo W x va) (hlo : w.heap.size + 2 ≤ lo) (u v : Value) : ArIn n w.heap.size ((W.setCell ⟨w.heap.size + 1, 0, none⟩ u).setCell ⟨w.heap.size + 1, 1, none⟩ v) x va := by
  have hk : Keeps (w.heap.size + 2) W ((W.setCell ⟨w.heap.size + 1, 0, none⟩ u).setCell ⟨w.heap.size + 1, 1, none⟩ v) := ((Keeps.refl _ _).setCell (p := ⟨w.heap.size + 1, 0, none⟩) (by show w.heap.size + 1 < _; omega) u).setCell (p := ⟨w.heap.size + 1, 1, none⟩) (by show w.heap.size + 1 < _; omega) v
  exact ((hx.mono hlo (Below.refl _ _)).keeps hk).mono (by omega) (Below.refl _ _)
/-- An array's value, opened. -/
theorem ArIn.form {n lo : Nat} {w : World} {x : Ar} {v : Value} (h : ArIn (n + 1) lo w x v) : ∃ a1 c1 a2 c2, v = .agg #[.slice a1 x.shape.length c1, .slice a2 x.cells.length c2] ∧ Row lo w a1 x.shape ∧ CellsIn n lo w x.cells a2 := by
  obtain ⟨a1, c1, a2, c2, h1, h2, -, h3⟩ := h
  exact ⟨a1, c1, a2, c2, h1, h2, h3⟩
/-- What is known of an array that may be. -/
theorem chk_len {r : Nat} {x : Ar} (h : chkA r x = 0) : x.shape.length ≤ 8 ∧ x.cells.length ≤ 16384 := by
  obtain ⟨f, -, h1, h2, -⟩ := chk_ok h
  exact ⟨h1, h2⟩
/-- The steps of an array that may be. -/
theorem chk_axes {r : Nat} {x : Ar} (h : chkA r x = 0) : (∀ z ∈ x.shape, 0 ≤ z ∧ z ≤ 16384) ∧ (0 < x.cells.length → (∀ z ∈ x.shape, 0 < z) ∧ prodL x.shape = x.cells.length) ∧ (x.cells.length = 0 → hasZero x.shape) := by
  obtain ⟨h1, h2, h3, h4⟩ := (chkA_iff r x).1 h
  obtain ⟨g1, g2, g3⟩ := fine_cases h1
  refine ⟨fun z hz => ⟨g2 z hz, ?_⟩, fun h0 => ?_, fun h0 => ?_⟩
  · rcases Int.lt_or_le 16384 z with hlt | hle
    · exact absurd ⟨z, hz, hlt⟩ h3
    · exact hle
  · rcases g3 with ⟨-, g3⟩ | ⟨g3, g4, g5⟩
    · omega
    · exact ⟨g3, by omega⟩
  · rcases g3 with ⟨g3, -⟩ | ⟨g3, g4, g5⟩
    · exact g3
    · have := prodL_pos g3; omega
end Go.Proofs.Ytimkcpbgnoekcaa
namespace Go.Proofs.Ytimkcpbgnoekcaa
open Go.ChangeShapes Go.WideShapes Go.ChangeAt Go.RowKit
set_option linter.unusedVariables false
set_option maxRecDepth 100000
theorem infoI3 : ∃ i, Try.prog.info? 3 = some i ∧ i.zero = some (.int .i64 0) ∧ i.size = 1 ∧ i.bytes = 8 := by
  obtain ⟨i, hi, hzz⟩ := Option.map_eq_some_iff.1 int3
  simp only [Prod.mk.injEq] at hzz
  exact ⟨i, hi, hzz.1, hzz.2.1, hzz.2.2⟩
theorem wpList_append_run {P : Program} {w : World} {ops : Array Oper} {rest : List Oper} {o : Oper} {a : Act} {Q : Exit → Act → World → Prop} (hw : Region.wanted o (yielded ops a.tmps) = true) (s x : Operand) (t u : TypeId)
    (ho : o.op = .call { callee := .builtin .append, args := #[s, x], argTypes := #[t, u] }) (v1 v2 : Value) (hs : a.eval s = v1) (hx : a.eval x = v2) (v' : Value) (w' : World)
    (hrun : (Builtin.append_ #[t, u] o.type #[v1, v2]).run P w = .ok v' w') (h : wpList P ops Q rest (a.put o.dst v') w') : wpList P ops Q (o :: rest) a w := by
  refine BigFrame.wpList_want hw fun K hK => ?_
  unfold Oper.wp
  simp only [execOp, ho, resolve, invoke, builtin, Sem.run_bind, Sem.run_pure, Result.andThen_ok, List.map_toArray, List.map_cons, List.map_nil, hs, hx, hrun]
  exact hK _ _ h
end Go.Proofs.Ytimkcpbgnoekcaa
