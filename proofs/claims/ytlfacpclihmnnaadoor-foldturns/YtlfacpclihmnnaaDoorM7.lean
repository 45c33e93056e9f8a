/-
  Layer 8: two rows of numbers one behind the other (Grow, Concat).
  Layer 8: the program's Outer.
  The closed example of layer 4's statements (works) is true, the table of layer 4 in its place.
  Layer 8: what the statements ask first (light, narrow), and their closed example (works).
  Layer 8: the statements' closed example (works) is true.
  What a call of layer 4's statements is told of the table of layer 4: it lies as its text lays it; a world for the witness.
  Layer 8: where a line's cells lie, as the document reckons it: as mathematics.
  Layer 8: the document's Red.
  Layer 8: the document's Outer.
  Small things that layer 3's statements over arrays share: a value of two or three cells, what a call finds of its own boxed arguments later on.
-/
import Derived.Test.YtlfacpclihmnnaaDoorM6
import Derived.WalkKit
import Derived.Test.YtlfacpclihmnnaaDoorChecked
import GoSem.Claim
import GoSem.ClaimJoined
import GoSem.ClaimMapViews
import Derived.JoinedTies
import Derived.KernelRfl
import Derived.ProofKit
import Derived.Below
import Derived.Deep.OwnRows
import Derived.Deep.QuietTactic
import Derived.BigQuiet
import Derived.Deep.RegionWith
import Derived.Laws.MakeOwn
import Derived.Deep.RegionHeld3
import Derived.OpenShut
import Derived.Lib.Mul64
import Derived.Laws.Bits64b
import Derived.ChangeOld
import Derived.SizedLaws
import Derived.Deep.Slices
import Derived.Deep.Strs
import Derived.Deep.LoopGhost
import Derived.Laws.IdiomCopy
import Derived.Deep.Cut
import Derived.Deep.RegionLaw
import Derived.Laws.AppendOwnNone
import Derived.BigFrame
import Derived.Laws.OwnMore
import Derived.OwnWalk
import Derived.Lib.SliceRun
import Derived.Deep.CutRange
import Derived.Laws.EntriesVeiled
import GoSem.ClaimSeven
import Derived.LaidByTextLater
import Derived.SevenTiedAt
import Derived.LaidSub
import Derived.LaidOnce
import Derived.Deep.DeepHandedRow
import Derived.Lib.LaidTab
namespace Go.Proofs.YtlfacpclihmnnaaDoor
open Go.ChangeShapes Go.WideShapes Go.ChangeAt Go.RowKit
open Num (resV resE In64 sgnI absI)
set_option linter.unusedVariables false
set_option linter.unusedSimpArgs false
set_option maxRecDepth 100000
theorem under3W : Tryd.prog.underlying 3 = some (.int .i64) := by kernel_rfl
/-- Noughts behind nothing: a new row. -/
theorem run_append_zeros0 (w : World) (L : Nat) (hL : L ≤ 32) (h0 : 0 < L) : ∃ gc cs, (∀ ty, (Builtin.append_ #[22, 3] ty #[.slice none 0 0, .int .i64 (L : Int)]).run Tryd.prog w = .ok (.slice (some ⟨w.heap.size, 0, none⟩) L gc) (w.drew.alloc (.cells cs 3))) ∧ L ≤ gc ∧ cs.size = gc ∧ gc ≤ maxLen := by
  obtain ⟨i, hi, hz, hs, hb⟩ := infoI3
  have hg := grownCap_ge w L 0 3
  refine ⟨grownCap w L 0 3, Builtin.zeroCells #[.int .i64 0] L ++ Builtin.zeroCells #[.int .i64 0] (grownCap w L 0 3 - L), ?_, hg, ?_, ?_⟩
  · intro ty
    have hn : ¬ ((L : Int) ≤ 0) := by omega
    have hn2 : ¬ (L = 0) := by omega
    have hw : IntKind.i64.wrap (L : Int) = (L : Int) := IntWalk.i64_in _ ⟨by omega, by omega⟩
    have h1 : ¬ ((L : Int) < 0) := by omega
    have h2 : ¬ (281474976710656 < (L : Int) * 8) := by omega
    have h3 : (L : Int).toNat = L := by omega
    have h4 : ¬ (9223372036854775807 < max (L : Int) 0) := by omega
    have h6 : ¬ (9223372036854775807 < (L : Int)) := by omega
    have h5 := growslice_fits (need := L) (old := 0) (bytes := 8) (by omega) (by omega)
    have h48 : ¬ (281474976710656 < Builtin.nextslicecap L 0 * 8) := by omega
    simp [Builtin.append_, run_underlying Tryd.underlying22, run_underlying under3W, sizeOf, typeInfo, zeroValue, hi, hz, hs, hb, Builtin.lenOf, hn, hn2, hw, h1, h2, h3, h4, h6, h48, Question.forced, newRow, grownCap, asInt, asIntOf, Builtin.firstCells, loadCells, loadCellsFrom]
    try rfl
  · rw [Array.size_append, size_zeroCells, size_zeroCells]
    simp
    omega
  · exact grownCap_le_maxLen w L 0 3 (by unfold maxLen; omega)
set_option maxHeartbeats 4000000 in
theorem grow72 (L : Nat) (hL : L ≤ 32) (w : World) :
    Calls Tryd.prog 72 #[.slice none 0 0, .int .i64 (L : Int)] w fun e w' => ∃ v, e = .returned v ∧ w'.ownsRow w.heap.size 3 1 v 0 [] ∧ Below w.heap.size w w' := by
  have hL0 : ¬ ((L : Int) < 0) := by omega
  by_cases h0 : L = 0
  · subst h0
    go_enter Tryd.func72, Tryd.ntmps72
    go_wp2
    go_ret
    exact ⟨_, rfl, World.ownsRow_nil _ _ _ _, Below.refl _ _⟩
  · obtain ⟨gc, cs, hrun, h1, h2, h3⟩ := run_append_zeros0 w L hL (by omega)
    have HRUN := hide hrun
    have P1 := fun W => part_h (P := Tryd.prog) Tryd.underlying22 size3 none 0 0 0 0 rfl (Nat.le_refl _) W
    have P2 := fun W => part_h (P := Tryd.prog) Tryd.underlying22 size3 (some ⟨w.heap.size, 0, none⟩) L gc 0 0 rfl (Nat.zero_le _) W
    have hLz : (0 : Int) < (L : Int) := by omega
    have HOW : Hid ((w.drew.alloc (.cells cs 3)).ownsRow w.heap.size 3 1 (.slice (some ⟨w.heap.size, 0, none⟩) 0 gc) 0 [] ∧ Below w.heap.size w (w.drew.alloc (.cells cs 3))) := by
      refine ⟨⟨rfl, Or.inr ⟨w.heap.size, gc, cs, rfl, Nat.le_refl _, ?_, Nat.zero_le _, h3, by omega, by simp⟩⟩, (Below.refl _ _).drew.alloc (Nat.le_refl _) _⟩
      show (w.alloc (.cells cs 3)).heap[w.heap.size]? = _
      simp [World.alloc, -World.alloc_eq]
    clear hrun h1 h2 h3
    go_enter Tryd.func72, Tryd.ntmps72
    go_wp2_with (at_builtin; refine wpList_append_run (by rfl) (.tmp 20) (.tmp 21) 22 3 rfl _ _ rfl rfl _ _ (HRUN.out _) ?_)
    go_wp2
    go_ret
    exact ⟨_, rfl, HOW.out⟩
set_option maxHeartbeats 8000000 in
theorem concat44 {lo1 lo2 bC L M c1 c2 : Nat} {l m : List Int} {a1 a2 : Option Addr} {w : World} (R1 : Row lo1 w a1 l) (R2 : Row lo2 w a2 m) (hl : l.length = L) (hm : m.length = M) (hL : L ≤ 8) (hM : M ≤ 8) (hb : bC < w.heap.size)
    (e0 : w.cell? ⟨bC, 0, none⟩ = some (.slice a1 L c1)) (e1 : w.cell? ⟨bC, 1, none⟩ = some (.slice a2 M c2)) :
    Calls Tryd.prog 44 #[.slice (some ⟨bC, 0, none⟩) 2 2] w fun e w' => (∃ a' c', e = .returned (.slice a' (L + M) c') ∧ Row w.heap.size w' a' (l ++ m)) ∧ Below w.heap.size w w' := by
  obtain ⟨i3, hi3, hz30, hz31, hz32⟩ := infoI3
  have HR1 := hide (And.intro R1 hl)
  have HR2 := hide (And.intro R2 hm)
  have HE := hide (And.intro e0 e1)
  clear R1 R2 hl hm
  go_enter Tryd.func44, Tryd.ntmps44
  go_wp2
  go_loopg [3, 11] 2 (fun g s i wq => ∃ k : Nat, g + k = 2 ∧ i = .int .i64 (k : Int) ∧ wq = w ∧ s = .int .i64 (if k = 0 then 0 else if k = 1 then (L : Int) else (L : Int) + (M : Int)))
  case atStart => exact ⟨0, rfl, rfl, rfl, rfl⟩
  case round =>
  obtain ⟨k, hg, rfl, rfl, rfl⟩ := hrel
  have hk : k = 0 ∨ k = 1 ∨ k = 2 := by omega
  rcases hk with rfl | rfl | rfl
  · rw [if_pos rfl]
    go_wp2
    go_roundg 1
    case rel => exact ⟨1, rfl, rfl, rfl, by simp⟩
    case measure => omega
  · rw [if_neg (by omega), if_pos rfl]
    have hs : ¬ ((L : Int) + (M : Int) < 0) := by omega
    go_wp2
    go_roundg 0
    case rel => exact ⟨2, rfl, rfl, rfl, by simp⟩
    case measure => omega
  rw [if_neg (by omega), if_neg (by omega)]
  obtain ⟨wo, hwo⟩ : ∃ wo, wo = wr := ⟨_, rfl⟩
  subst hwo
  have CG := grow72 (L + M) (by omega) wo
  rw [show ((L + M : Nat) : Int) = (L : Int) + (M : Int) by omega] at CG
  clear e0 e1
  go_wp2_with fail
  refine CG.mono ?_
  rintro e w1 ⟨v, rfl, hown, hb1⟩
  clear CG
  have HB1 := hide hb1
  have HO1 := hide hown
  clear hb1 hown
  go_wp2
  go_loopg [6, 27] 2 (fun g v i wq => ∃ k : Nat, g + k = 2 ∧ i = .int .i64 (k : Int) ∧ Below wo.heap.size wo wq ∧ wq.ownsRow wo.heap.size 3 1 v (if k = 0 then 0 else if k = 1 then L else L + M) ((if k = 0 then [] else if k = 1 then l else l ++ m).map (Value.int .i64)))
  case atStart => exact ⟨0, rfl, rfl, HB1.out, HO1.out⟩
  case round =>
  clear HB1 HO1
  obtain ⟨k, hg, rfl, hbt, hown⟩ := hrel
  have E0 := (hbt.cell (p := ⟨bC, 0, none⟩) hb).trans HE.out.1
  have E1 := (hbt.cell (p := ⟨bC, 1, none⟩) hb).trans HE.out.2
  have HBT := hide hbt
  have hk : k = 0 ∨ k = 1 ∨ k = 2 := by omega
  rcases hk with rfl | rfl | rfl
  · simp only [if_true, List.map_nil] at hown
    have HLS : Hid (Lies wr a1 (l.map (Value.int .i64))) := (HR1.out.1.next hbt).lies
    have hsl : (l.map (Value.int .i64)).length = L * 1 := by rw [List.length_map, HR1.out.2]; omega
    clear hbt
    go_wp2_with (at_builtin; refine wpList_append_any rfl _ _ 22 rfl wo.heap.size 3 i3 (.int .i64 0) 1 8 Tryd.underlying22 hi3 hz30 hz31 hz32 rfl (by decide) _ _ _ rfl hown a1 L c1 (l.map (Value.int .i64)) rfl hsl HLS.out ?c3 ?c4 HBT.out.size ?_)
    case c3 => unfold maxLen; omega
    case c4 => omega
    intro v' w2 hown2 hb2
    have HF : Hid (Below wo.heap.size wo w2 ∧ w2.ownsRow wo.heap.size 3 1 v' L (l.map (Value.int .i64))) := ⟨HBT.out.trans hb2, by simpa using hown2⟩
    clear hown hown2 hb2 HLS hsl E0 E1
    go_wp2
    go_roundg 1
    case rel => exact ⟨1, rfl, rfl, HF.out⟩
    case measure => omega
  · simp only [Nat.one_ne_zero, if_false, if_true] at hown
    have HLS : Hid (Lies wr a2 (m.map (Value.int .i64))) := (HR2.out.1.next hbt).lies
    have hsl : (m.map (Value.int .i64)).length = M * 1 := by rw [List.length_map, HR2.out.2]; omega
    clear hbt
    go_wp2_with (at_builtin; refine wpList_append_any rfl _ _ 22 rfl wo.heap.size 3 i3 (.int .i64 0) 1 8 Tryd.underlying22 hi3 hz30 hz31 hz32 rfl (by decide) _ _ _ rfl hown a2 M c2 (m.map (Value.int .i64)) rfl hsl HLS.out ?c3 ?c4 HBT.out.size ?_)
    case c3 => unfold maxLen; omega
    case c4 => omega
    intro v' w2 hown2 hb2
    have HF : Hid (Below wo.heap.size wo w2 ∧ w2.ownsRow wo.heap.size 3 1 v' (L + M) ((l ++ m).map (Value.int .i64))) := ⟨HBT.out.trans hb2, by simpa using hown2⟩
    clear hown hown2 hb2 HLS hsl E0 E1
    go_wp2
    go_roundg 0
    case rel => exact ⟨2, rfl, rfl, HF.out⟩
    case measure => omega
  · have hown' := hown
    simp only [show ¬ (2 = 0) by omega, show ¬ (2 = 1) by omega, if_false] at hown'
    rw [show L + M = (l ++ m).length by rw [List.length_append, HR1.out.2, HR2.out.2]] at hown'
    obtain ⟨a', c', rfl, RF⟩ := owns_row (l ++ m) (by rw [List.length_append, HR1.out.2, HR2.out.2]; omega) hown'
    rw [List.length_append, HR1.out.2, HR2.out.2]
    have HF := hide RF
    clear hown hown' RF E0 E1 hbt
    go_wp2
    go_ret
    exact ⟨⟨a', c', rfl, HF.out⟩, HBT.out⟩
end Go.Proofs.YtlfacpclihmnnaaDoor
namespace Go.Proofs.YtlfacpclihmnnaaDoor
open Go.ChangeShapes Go.WideShapes Go.ChangeAt Go.RowKit
open Num (resV resE In64 sgnI absI)
set_option linter.unusedVariables false
set_option linter.unusedSimpArgs false
set_option maxRecDepth 100000
/-- A function of each cell with each (8.4). -/
def outG (op : Int) (t : Bool) (x y : Ar) (i : Nat) : Ce × Int := ((0, tV op t (cAt x.cells (i / y.cells.length)) (cAt y.cells (i % y.cells.length)), []), tE op t (cAt x.cells (i / y.cells.length)) (cAt y.cells (i % y.cells.length)))
def xyE (x y : Ar) (i : Nat) : Int := chkA 8 (if i = 0 then x else y)
def outR (op : Int) (t : Bool) (x y : Ar) : Ar × Int :=
  if fchk op (xyE x y) 2 ≠ 0 then (zeroA, fchk op (xyE x y) 2) else if sizeE (x.shape ++ y.shape) ≠ 0 then (zeroA, sizeE (x.shape ++ y.shape))
  else filR (x.shape ++ y.shape) (sizeV (x.shape ++ y.shape)).toNat (outG op t x y)
/-- Three boxed arguments and the answer's place. -/
structure OutS (w : World) (op : Int) (t : Bool) (v0 v1 u0 u1 : Value) (W : World) : Prop where
  bel : Below w.heap.size w W
  lt : w.heap.size + 3 < W.heap.size
  p0 : W.cell? ⟨w.heap.size, 0, none⟩ = some (.int .i64 op)
  p1 : W.cell? ⟨w.heap.size, 1, none⟩ = some (.bool t)
  q0 : W.cell? ⟨w.heap.size + 1, 0, none⟩ = some v0
  q1 : W.cell? ⟨w.heap.size + 1, 1, none⟩ = some v1
  s0 : W.cell? ⟨w.heap.size + 2, 0, none⟩ = some u0
  s1 : W.cell? ⟨w.heap.size + 2, 1, none⟩ = some u1
  r0 : W.cell? ⟨w.heap.size + 3, 0, none⟩ = some (.slice none 0 0)
  r1 : W.cell? ⟨w.heap.size + 3, 1, none⟩ = some (.slice none 0 0)
  f0 : W.frozen? ⟨w.heap.size + 3, 0, none⟩ = false
  f1 : W.frozen? ⟨w.heap.size + 3, 1, none⟩ = false
theorem OutS.next {w W W' : World} {op : Int} {t : Bool} {v0 v1 u0 u1 : Value} (h : OutS w op t v0 v1 u0 u1 W) (hb : Below W.heap.size W W') : OutS w op t v0 v1 u0 u1 W' := by
  have hl := h.lt
  have c : ∀ (b i : Nat) (v : Value), b ≤ w.heap.size + 3 → W.cell? ⟨b, i, none⟩ = some v → W'.cell? ⟨b, i, none⟩ = some v := fun b i v hb' h' => (hb.cell (p := ⟨b, i, none⟩) (by show b < _; omega)).trans h'
  have f : ∀ (b i : Nat), b ≤ w.heap.size + 3 → W.frozen? ⟨b, i, none⟩ = false → W'.frozen? ⟨b, i, none⟩ = false := fun b i hb' h' => (hb.frozen (p := ⟨b, i, none⟩) (by show b < _; omega)).trans h'
  exact ⟨h.bel.trans (hb.mono h.bel.size), Nat.lt_of_lt_of_le hl hb.size, c _ _ _ (by omega) h.p0, c _ _ _ (by omega) h.p1, c _ _ _ (by omega) h.q0, c _ _ _ (by omega) h.q1, c _ _ _ (by omega) h.s0, c _ _ _ (by omega) h.s1, c _ _ _ (by omega) h.r0, c _ _ _ (by omega) h.r1, f _ _ (by omega) h.f0, f _ _ (by omega) h.f1⟩
theorem outS_new (w : World) (op : Int) (t : Bool) (v0 v1 u0 u1 : Value) : OutS w op t v0 v1 u0 u1 ((((w.alloc (.cells #[.int .i64 op, .bool t] 32)).alloc (.cells #[v0, v1] 25)).alloc (.cells #[u0, u1] 25)).alloc (.cells #[.slice none 0 0, .slice none 0 0] 25)) := by
  obtain ⟨h1, h2, h3, h4⟩ := heap_four w (.cells #[.int .i64 op, .bool t] 32) (.cells #[v0, v1] 25) (.cells #[u0, u1] 25) (.cells #[.slice none 0 0, .slice none 0 0] 25)
  exact ⟨four_allocs _ _ _ _ _, by simp, cell_of_heap h1 rfl, cell_of_heap h1 rfl, cell_of_heap h2 rfl, cell_of_heap h2 rfl, cell_of_heap h3 rfl, cell_of_heap h3 rfl, cell_of_heap h4 rfl, cell_of_heap h4 rfl, frozen_of_heap h4, frozen_of_heap h4⟩
theorem OutS.give {w W : World} {op : Int} {t : Bool} {v0 v1 u0 u1 : Value} (h : OutS w op t v0 v1 u0 u1 W) {n lo : Nat} {x : Ar} {va : Value} (hx : ArIn n lo W x va) (hlo : w.heap.size + 4 ≤ lo) (u v : Value) : ArIn n w.heap.size ((W.setCell ⟨w.heap.size + 3, 0, none⟩ u).setCell ⟨w.heap.size + 3, 1, none⟩ v) x va := by
  have K : Keeps lo W ((W.setCell ⟨w.heap.size + 3, 0, none⟩ u).setCell ⟨w.heap.size + 3, 1, none⟩ v) := ((Keeps.refl _ _).setCell (p := ⟨w.heap.size + 3, 0, none⟩) (by show w.heap.size + 3 < _; omega) u).setCell (p := ⟨w.heap.size + 3, 1, none⟩) (by show w.heap.size + 3 < _; omega) v
  exact (hx.keeps K).mono (by omega) (Below.refl _ _)
theorem frozen_old1 (w : World) (c : Array Value) (t : TypeId) (o : Obj) (i : Nat) : ((w.alloc (.cells c t)).alloc o).frozen? ⟨w.heap.size, i, none⟩ = false := ((one_alloc _ o).frozen (p := ⟨w.heap.size, i, none⟩) (by simp)).trans (frozen_new w c t i)
set_option maxHeartbeats 16000000 in
theorem outer17 {n lo S1 C1 S2 C2 c1 c2 d1 d2 : Nat} {x y : Ar} {a1 a2 b1 b2 : Option Addr} {op : Int} {t : Bool} {w : World} (hx : ArIn (n + 1) lo w x (.agg #[.slice a1 S1 c1, .slice a2 C1 c2])) (hy : ArIn (n + 1) lo w y (.agg #[.slice b1 S2 d1, .slice b2 C2 d2])) (hxin : ∀ k, k < x.cells.length → In64 (cAt x.cells k).2.1) (hyin : ∀ k, k < y.cells.length → In64 (cAt y.cells k).2.1) (T : Tab w) :
    Calls Tryd.prog 17 #[.agg #[.int .i64 op, .bool t], .agg #[.slice a1 S1 c1, .slice a2 C1 c2], .agg #[.slice b1 S2 d1, .slice b2 C2 d2]] w fun e w' => GivesR (n + 1) w.heap.size (outR op t x y) w e w' := by
  obtain ⟨a1', c1', a2', c2', hv, R1, hc1⟩ := hx.formC
  have hv2 : S1 = x.shape.length ∧ C1 = x.cells.length ∧ a1 = a1' ∧ a2 = a2' ∧ c1 = c1' ∧ c2 = c2' := by
    simp only [Value.agg.injEq, Array.mk.injEq, List.cons.injEq, Value.slice.injEq, and_true] at hv
    exact ⟨hv.1.2.1, hv.2.2.1, hv.1.1, hv.2.1, hv.1.2.2, hv.2.2.2⟩
  obtain ⟨hS1, hC1, rfl, rfl, rfl, rfl⟩ := hv2
  clear hv
  obtain ⟨b1', d1', b2', d2', hv, R2, hc2⟩ := hy.formC
  have hv2 : S2 = y.shape.length ∧ C2 = y.cells.length ∧ b1 = b1' ∧ b2 = b2' ∧ d1 = d1' ∧ d2 = d2' := by
    simp only [Value.agg.injEq, Array.mk.injEq, List.cons.injEq, Value.slice.injEq, and_true] at hv
    exact ⟨hv.1.2.1, hv.2.2.1, hv.1.1, hv.2.1, hv.1.2.2, hv.2.2.2⟩
  obtain ⟨hS2, hC2, rfl, rfl, rfl, rfl⟩ := hv2
  clear hv
  have RS := outS_new w op t (.slice a1 S1 c1) (.slice a2 C1 c2) (.slice b1 S2 d1) (.slice b2 C2 d2)
  obtain ⟨W3, hW3⟩ : ∃ W3, (((w.alloc (.cells #[.int .i64 op, .bool t] 32)).alloc (.cells #[.slice a1 S1 c1, .slice a2 C1 c2] 25)).alloc (.cells #[.slice b1 S2 d1, .slice b2 C2 d2] 25)).alloc (.cells #[.slice none 0 0, .slice none 0 0] 25) = W3 := ⟨_, rfl⟩
  rw [hW3] at RS
  have CK : Calls Tryd.prog 25 #[.agg #[.int .i64 op, .bool t], .slice (some ⟨W3.heap.size, 0, none⟩) 2 2] (W3.alloc (.cells #[.slice a1 S1 c1, .slice a2 C1 c2, .slice b1 S2 d1, .slice b2 C2 d2] 25)) fun e w' => e = .returned (.int .i64 (fchk op (xyE x y) 2)) ∧ Below W3.heap.size W3 w' := by
    have hb4 := one_alloc W3 (.cells #[.slice a1 S1 c1, .slice a2 C1 c2, .slice b1 S2 d1, .slice b2 C2 d2] 25)
    have hx4 := hx.next (RS.bel.trans (hb4.mono RS.bel.size))
    have hy4 := hy.next (RS.bel.trans (hb4.mono RS.bel.size))
    refine (check25 (n := n + 1) (lo := lo) (bA := W3.heap.size) (k := 2) (c := 2) (op := op) (t := t) (X := fun i => if i = 0 then x else y) (A1 := fun i => if i = 0 then a1 else b1) (A2 := fun i => if i = 0 then a2 else b2) (M1 := fun i => if i = 0 then S1 else S2) (C1 := fun i => if i = 0 then c1 else d1) (M2 := fun i => if i = 0 then C1 else C2) (C2 := fun i => if i = 0 then c2 else d2) (by omega) (by simp) (fun i hi => ?_)).mono ?_
    · have : i = 0 ∨ i = 1 := by omega
      rcases this with rfl | rfl
      · exact ⟨cell_new0 W3 _ 25 0 _ rfl, cell_new0 W3 _ 25 1 _ rfl, hx4⟩
      · exact ⟨cell_new0 W3 _ 25 2 _ rfl, cell_new0 W3 _ 25 3 _ rfl, hy4⟩
    · rintro e w' ⟨rfl, hb'⟩
      exact ⟨rfl, hb4.trans (hb'.mono hb4.size)⟩
  have HRED : Hid (outR op t x y = if fchk op (xyE x y) 2 ≠ 0 then (zeroA, fchk op (xyE x y) 2) else if sizeE (x.shape ++ y.shape) ≠ 0 then (zeroA, sizeE (x.shape ++ y.shape))
      else filR (x.shape ++ y.shape) (sizeV (x.shape ++ y.shape)).toNat (outG op t x y)) := rfl
  have HCK : Hid (fchk op (xyE x y) 2 = 0 → chkA 8 x = 0 ∧ chkA 8 y = 0) := fun h => by
    unfold fchk at h
    have h2 : firstUp (xyE x y) 2 = 0 := by
      by_cases h3 : firstUp (xyE x y) 2 = 0
      · exact h3
      · rw [if_neg h3] at h; exact absurd h h3
    simp only [firstUp, xyE] at h2
    by_cases h3 : chkA 8 x = 0
    · simp [h3] at h2; exact ⟨h3, h2⟩
    · simp [h3] at h2
  obtain ⟨RR, hRR⟩ : ∃ RR, outR op t x y = RR := ⟨_, rfl⟩
  rw [hRR] at HRED ⊢
  generalize fchk op (xyE x y) 2 = EC at *
  have p0 := RS.p0
  have p1 := RS.p1
  have q0 := RS.q0
  have q1 := RS.q1
  have s0 := RS.s0
  have s1 := RS.s1
  have HRS := hide RS
  have HX := hide (And.intro R1 (And.intro hS1 hC1))
  have HY := hide (And.intro R2 (And.intro hS2 hC2))
  have HC := hide (And.intro hc1 hc2)
  have HIN := hide (And.intro hxin hyin)
  have HT := hide T
  clear hx hy hxin hyin T RS hRR R1 R2 hS1 hC1 hS2 hC2 hc1 hc2
  go_enter Tryd.func17, Tryd.ntmps17
  go_wp2_with fail
  refine CK.mono ?_
  rintro e w1 ⟨rfl, hb1⟩
  clear CK p0 p1 q0 q1 s0 s1 hW3
  have RS1 := HRS.out.next hb1
  have q0 := RS1.q0
  have s0 := RS1.s0
  have r0 : w1.cell? ⟨w.heap.size + 1 + 1 + 1, 0, none⟩ = some (.slice none 0 0) := RS1.r0
  have r1 : w1.cell? ⟨w.heap.size + 1 + 1 + 1, 1, none⟩ = some (.slice none 0 0) := RS1.r1
  have f0 : w1.frozen? ⟨w.heap.size + 1 + 1 + 1, 0, none⟩ = false := RS1.f0
  have f1 : w1.frozen? ⟨w.heap.size + 1 + 1 + 1, 1, none⟩ = false := RS1.f1
  have HS1 := hide RS1
  clear RS1 hb1 HRS
  by_cases hE : ¬ EC = 0
  · have gE : (EC == 0) = false := beq_eq_false_iff_ne.2 hE
    have HE : Hid (RR = (zeroA, EC)) := HRED.out.trans (if_pos hE)
    have HT2 := hide (set_two r0 r1 (.slice none 0 0) (.slice none 0 0))
    clear HCK HIN HX HY HC HRED
    go_wp2
    have hbf := below_set2 (v0 := .slice none 0 0) (v1 := .slice none 0 0) HS1.out.bel (by omega : w.heap.size ≤ w.heap.size + 3)
    have HTT := set_two HS1.out.r0 HS1.out.r1 (.slice none 0 0) (.slice none 0 0)
    have HT2 := HT2.out
    exact bodyPost_ret (v := .tuple #[.agg #[.slice none 0 0, .slice none 0 0], .int .i64 EC]) (by simp [results, Tryd.results17, go_sem, HTT.1, HTT.2, HT2.1, HT2.2]) rfl ⟨⟨_, by rw [HE.out], by rw [HE.out]; exact zeroA_in _ _ _⟩, hbf⟩
  have hE0 : EC = 0 := Classical.not_not.1 hE
  clear hE
  subst hE0
  obtain ⟨hchx, hchy⟩ := HCK.out rfl
  obtain ⟨hsE1, hsV1⟩ := chk_size hchx
  obtain ⟨hsE2, hsV2⟩ := chk_size hchy
  have hS18 : S1 ≤ 8 := by rw [HX.out.2.1]; exact (fine_cases hsE1).1
  have hS28 : S2 ≤ 8 := by rw [HY.out.2.1]; exact (fine_cases hsE2).1
  have hC16 : C1 ≤ 16384 := by have := (sizeV_le hsE1).2; rw [hsV1, ← HX.out.2.2] at this; omega
  have hD16 : C2 ≤ 16384 := by have := (sizeV_le hsE2).2; rw [hsV2, ← HY.out.2.2] at this; omega
  have HRED2 := hide (HRED.out.trans (if_neg (fun h => h rfl)))
  have HSZ : Hid (sizeE (x.shape ++ y.shape) = 0 → sizeV (x.shape ++ y.shape) = ((C1 * C2 : Nat) : Int)) := fun h => by
    rw [sizeV_prod h, prodL_app, ← sizeV_prod hsE1, ← sizeV_prod hsE2, hsV1, hsV2, HX.out.2.2, HY.out.2.2]
    push_cast
    rfl
  have hb2 := one_alloc w1 (.cells #[.slice a1 S1 c1, .slice b1 S2 d1] 22)
  have CC := concat44 (bC := w1.heap.size) (c1 := c1) (c2 := d1) (HX.out.1.next (HS1.out.bel.trans (hb2.mono HS1.out.bel.size))) (HY.out.1.next (HS1.out.bel.trans (hb2.mono HS1.out.bel.size))) HX.out.2.1.symm HY.out.2.1.symm hS18 hS28 (by simp) (cell_new0 w1 _ 22 0 _ rfl) (cell_new0 w1 _ 22 1 _ rfl)
  obtain ⟨SO, hSO⟩ : ∃ SO, S1 + S2 = SO := ⟨_, rfl⟩
  rw [hSO] at CC
  have hSO16 : SO ≤ 16 := by omega
  have HSO := hide hSO
  have hlt1 := HS1.out.lt
  have HB2 := hide hb2
  clear hSO hchx hchy hsE1 hsE2 hsV1 hsV2 HCK HRED hb2 r0 r1 f0 f1
  go_wp2_with fail
  refine CC.mono ?_
  rintro e w2 ⟨⟨ao, co, rfl, RO⟩, hb2⟩
  clear CC q0 s0
  have B2 := HB2.out.trans (hb2.mono HB2.out.size)
  have S2' := HS1.out.next B2
  have hxl : (x.shape ++ y.shape).length = SO := by rw [List.length_append, ← HX.out.2.1, ← HY.out.2.1, HSO.out]
  have CZ := size_any (x.shape ++ y.shape) ao co w2 RO
  rw [hxl] at CZ
  have HRO := hide (And.intro RO hxl)
  obtain ⟨V, hV⟩ : ∃ V, sizeV (x.shape ++ y.shape) = V := ⟨_, rfl⟩
  obtain ⟨EE, hEE⟩ : ∃ EE, sizeE (x.shape ++ y.shape) = EE := ⟨_, rfl⟩
  rw [hV, hEE] at CZ HSZ HRED2
  have HVE := hide (And.intro hV hEE)
  have HS2 := hide S2'
  have h12 := B2.size
  have HL13 := hide hb2.size
  clear HB2 hb2 B2 RO hV hEE S2' HS1 hxl
  go_wp2_with fail
  refine CZ.mono ?_
  rintro e w3 ⟨rfl, hw3⟩
  subst hw3
  clear CZ
  have r0 : w3.cell? ⟨w.heap.size + 1 + 1 + 1, 0, none⟩ = some (.slice none 0 0) := HS2.out.r0
  have r1 : w3.cell? ⟨w.heap.size + 1 + 1 + 1, 1, none⟩ = some (.slice none 0 0) := HS2.out.r1
  have f0 : w3.frozen? ⟨w.heap.size + 1 + 1 + 1, 0, none⟩ = false := HS2.out.f0
  have f1 : w3.frozen? ⟨w.heap.size + 1 + 1 + 1, 1, none⟩ = false := HS2.out.f1
  by_cases hE : ¬ EE = 0
  · have gE : (EE == 0) = false := beq_eq_false_iff_ne.2 hE
    have HE : Hid (RR = (zeroA, EE)) := HRED2.out.trans (if_pos hE)
    have HT2 := hide (set_two r0 r1 (.slice none 0 0) (.slice none 0 0))
    clear HIN HX HY HC HRED2 HSZ HVE HRO
    go_wp2
    have hbf := below_set2 (v0 := .slice none 0 0) (v1 := .slice none 0 0) HS2.out.bel (by omega : w.heap.size ≤ w.heap.size + 3)
    have HTT := set_two HS2.out.r0 HS2.out.r1 (.slice none 0 0) (.slice none 0 0)
    have HT2 := HT2.out
    exact bodyPost_ret (v := .tuple #[.agg #[.slice none 0 0, .slice none 0 0], .int .i64 EE]) (by simp [results, Tryd.results17, go_sem, HTT.1, HTT.2, HT2.1, HT2.2]) rfl ⟨⟨_, by rw [HE.out], by rw [HE.out]; exact zeroA_in _ _ _⟩, hbf⟩
  have hE0 : EE = 0 := Classical.not_not.1 hE
  clear hE
  subst hE0
  have HRED3 := hide (HRED2.out.trans (if_neg (fun h => h rfl)))
  have hVC : V = ((C1 * C2 : Nat) : Int) := HSZ.out rfl
  have HVC := hide hVC
  obtain ⟨N, hN⟩ : ∃ N, C1 * C2 = N := ⟨_, rfl⟩
  have hN16 : N ≤ 16384 := by have := (sizeV_le HVE.out.2).2; rw [HVE.out.1, hVC, hN] at this; omega
  rw [hN] at hVC
  subst hVC
  rw [Int.toNat_natCast] at HRED3
  have HNN := hide hN
  clear hN HSZ HRED2 r0 r1 f0 f1
  have lt3 : w.heap.size + 2 < w3.heap.size := by have := HS2.out.lt; omega
  obtain ⟨fn, hfn⟩ : ∃ fn : Nat, (if t then 73 else 74) = fn := ⟨_, rfl⟩
  have HFN := hide hfn
  have C45 : Hid (∀ W, Below w3.heap.size w3 W → Calls Tryd.prog 45 #[.agg #[.int .i64 op, .bool t]] W fun r w' => r = .returned (.func (.func fn) #[.agg #[.int .i64 op, .bool t]] #[]) ∧ Below w3.heap.size w3 w' ∧ Below W.heap.size W w') := fun W hW => by
    refine (of45 op t W).mono ?_
    rintro r w' ⟨rfl, hb⟩
    exact ⟨by unfold fnV; rw [hfn], hW.trans (hb.mono hW.size), hb⟩
  clear hfn
  obtain ⟨LO, hLO⟩ : ∃ LO, (w1.alloc (.cells #[.slice a1 S1 c1, .slice b1 S2 d1] 22)).heap.size = LO := ⟨_, rfl⟩
  have hLO1 : LO = w1.heap.size + 1 := by rw [← hLO]; simp
  have HLO := hide (show w.heap.size + 4 ≤ LO by omega)
  rw [hLO] at HRO
  have hL3 : LO ≤ w3.heap.size := by rw [← hLO]; exact HL13.out
  have HFILL : Hid (∀ (WF : World) (BT BW : Nat), Below w3.heap.size w3 WF → BT < WF.heap.size → WF.cell? ⟨BT, 0, none⟩ = some (.func (.func fn) #[.agg #[.int .i64 op, .bool t]] #[]) → BW < WF.heap.size → WF.cell? ⟨BW, 0, none⟩ = some (.int .i64 (C2 : Int)) →
      Calls Tryd.prog 30 #[.slice ao SO co, .int .i64 (N : Int), .func (.func 46) #[] #[.pointer (some ⟨BT, 0, none⟩), .pointer (some ⟨w.heap.size + 1, 0, none⟩), .pointer (some ⟨BW, 0, none⟩), .pointer (some ⟨w.heap.size + 1 + 1, 0, none⟩)]] WF fun e w' => GivesR (n + 1) LO RR WF e w') := fun WF BT BW hb lT T0 lW W0 => by
    rw [HRED3.out]
    refine fill46 (w0 := WF) (Below.refl _ _) (HRO.out.1.next hb) HRO.out.2 (Nat.le_trans hL3 hb.size) hN16 (fun W hW i hi => ?_)
    have hbW : Below w3.heap.size w3 W := hb.trans (hW.mono hb.size)
    have S9 := HS2.out.next hbW
    have hwW : Below w.heap.size w W := S9.bel
    have hlS := S9.lt
    have Tx : Tab W := HT.out.next hwW
    have tt0 := (hW.cell (p := ⟨BT, 0, none⟩) lT).trans T0
    have ww0 := (hW.cell (p := ⟨BW, 0, none⟩) lW).trans W0
    have lT' := Nat.lt_of_lt_of_le lT hW.size
    have lW' := Nat.lt_of_lt_of_le lW hW.size
    have fin : ∀ (e : Ending) (w' : World), GivesF n lo WF (outG op t x y i) W e w' → GivesF n LO WF (outG op t x y i) W e w' := by
      rintro e w' ⟨⟨v0, v1, v2, rfl, hce⟩, hb'⟩
      obtain ⟨rfl, rfl, av, cv, rfl, h1, -⟩ := hce
      exact ⟨⟨_, _, _, rfl, rfl, rfl, av, cv, rfl, h1, Or.inl rfl⟩, hb'⟩
    have hi' : i < C1 * C2 := by rw [HNN.out]; exact hi
    cases t with
    | false =>
      have e1 : fn = 74 := HFN.out.symm
      subst e1
      refine (out4674 (w0 := WF) (HC.out.1.mono (Nat.le_refl _) hwW) (HC.out.2.mono (Nat.le_refl _) hwW) HX.out.2.2.symm HY.out.2.2.symm hC16 hD16 hi' (by omega) (fun k hk => HIN.out.1 k (by rw [← HX.out.2.2]; exact hk)) (fun k hk => HIN.out.2 k (by rw [← HY.out.2.2]; exact hk)) Tx lT' tt0 (by omega) S9.q1 lW' ww0 (by omega) S9.s1).mono ?_
      rintro e w' h
      exact fin e w' (by unfold outG; rw [← HY.out.2.2]; exact h)
    | true =>
      have e1 : fn = 73 := HFN.out.symm
      subst e1
      refine (out4673 (w0 := WF) (HC.out.1.mono (Nat.le_refl _) hwW) (HC.out.2.mono (Nat.le_refl _) hwW) HX.out.2.2.symm HY.out.2.2.symm hC16 hD16 hi' (by omega) (fun k hk => HIN.out.1 k (by rw [← HX.out.2.2]; exact hk)) (fun k hk => HIN.out.2 k (by rw [← HY.out.2.2]; exact hk)) Tx lT' tt0 (by omega) S9.q1 lW' ww0 (by omega) S9.s1).mono ?_
      rintro e w' h
      exact fin e w' (by unfold outG; rw [← HY.out.2.2]; exact h)
  have KS : Hid (∀ W, Below w3.heap.size w3 W → (Below w3.heap.size w3 W ∧ W.cell? ⟨w.heap.size, 0, none⟩ = some (.int .i64 op) ∧ W.cell? ⟨w.heap.size, 1, none⟩ = some (.bool t) ∧ W.cell? ⟨w.heap.size + 1 + 1, 1, none⟩ = some (.slice b2 C2 d2))) := fun W h =>
    ⟨h, (h.cell (p := ⟨w.heap.size, 0, none⟩) (by show w.heap.size < _; omega)).trans HS2.out.p0, (h.cell (p := ⟨w.heap.size, 1, none⟩) (by show w.heap.size < _; omega)).trans HS2.out.p1, (h.cell (p := ⟨w.heap.size + 2, 1, none⟩) (by show w.heap.size + 2 < _; omega)).trans HS2.out.s1⟩
  have HRF : Hid (Below w3.heap.size w3 w3) := Below.refl _ _
  have HDR : Hid (∀ W, Below w3.heap.size w3 W → Below w3.heap.size w3 W.drew) := fun W h => h.drew
  have HAL : Hid (∀ W o, Below w3.heap.size w3 W → Below w3.heap.size w3 (W.alloc o)) := fun W o h => h.alloc h.size o
  have HST : Hid (∀ W b v, Below w3.heap.size w3 W → w3.heap.size ≤ b → Below w3.heap.size w3 (W.setCell ⟨b, 0, none⟩ v)) := fun W b v h hb => h.setCell (p := ⟨b, 0, none⟩) hb v
  have HLE : Hid (w3.heap.size ≤ w3.heap.size) := Nat.le_refl _
  have HLE1 : Hid (w3.heap.size ≤ w3.heap.size + 1) := Nat.le_succ _
  have HD0 : Hid (Below w3.heap.size w3 w3.drew) := (Below.refl _ _).drew
  have HD1 : Hid (Below w3.heap.size w3 (w3.alloc (.cells #[.nilFunc] 78)).drew) := (one_alloc _ _).drew
  have HD2 : Hid (Below w3.heap.size w3 (w3.alloc (.cells #[.int .i64 0] 3)).drew) := (one_alloc _ _).drew
  have HD3 : Hid (Below w3.heap.size w3 ((w3.alloc (.cells #[.nilFunc] 78)).alloc (.cells #[.int .i64 0] 3)).drew) := (two_allocs _ _ _).drew
  have HD4 : Hid (Below w3.heap.size w3 ((w3.alloc (.cells #[.int .i64 0] 3)).alloc (.cells #[.nilFunc] 78)).drew) := (two_allocs _ _ _).drew
  go_upto_region 8 with fail
  go_region_held3 (fun W => Below w3.heap.size w3 W ∧ W.cell? ⟨w.heap.size, 0, none⟩ = some (.int .i64 op) ∧ W.cell? ⟨w.heap.size, 1, none⟩ = some (.bool t) ∧ W.cell? ⟨w.heap.size + 1 + 1, 1, none⟩ = some (.slice b2 C2 d2))
    (with_reducible exact KS.out _ (by repeat (first | with_reducible assumption | with_reducible exact HRF.out | with_reducible exact HLE.out | with_reducible exact HLE1.out | with_reducible refine HDR.out _ ?_ | with_reducible refine HAL.out _ _ ?_ | with_reducible refine HST.out _ _ _ ?_ ?_ | with_reducible exact Below.size (by with_reducible assumption) | with_reducible exact Nat.le_succ_of_le (Below.size (by with_reducible assumption)))))
    (first | (go_at_call 45; first | ((with_reducible refine (C45.out _ HD0.out).mono ?_); rintro e wa ⟨rfl, ga, hba⟩) | ((with_reducible refine (C45.out _ HD1.out).mono ?_); rintro e wa ⟨rfl, ga, hba⟩; have z0 := (hba.cell (p := ⟨w3.heap.size, 0, none⟩) (by simp)).trans (cell_new0 w3 #[.nilFunc] 78 0 _ rfl); have z1 := (hba.frozen (p := ⟨w3.heap.size, 0, none⟩) (by simp)).trans (frozen_new w3 #[.nilFunc] 78 0); have hlw : w3.heap.size < wa.heap.size := Nat.lt_of_lt_of_le (by simp) hba.size; have y0 := fun o => ((one_alloc wa o).cell (p := ⟨w3.heap.size, 0, none⟩) hlw).trans z0; have y1 := fun o => ((one_alloc wa o).frozen (p := ⟨w3.heap.size, 0, none⟩) hlw).trans z1) | ((with_reducible refine (C45.out _ HD2.out).mono ?_); rintro e wa ⟨rfl, ga, hba⟩; have z0 := (hba.cell (p := ⟨w3.heap.size, 0, none⟩) (by simp)).trans (cell_new0 w3 #[.int .i64 0] 3 0 _ rfl); have z1 := (hba.frozen (p := ⟨w3.heap.size, 0, none⟩) (by simp)).trans (frozen_new w3 #[.int .i64 0] 3 0); have hlw : w3.heap.size < wa.heap.size := Nat.lt_of_lt_of_le (by simp) hba.size; have y0 := fun o => ((one_alloc wa o).cell (p := ⟨w3.heap.size, 0, none⟩) hlw).trans z0; have y1 := fun o => ((one_alloc wa o).frozen (p := ⟨w3.heap.size, 0, none⟩) hlw).trans z1) | ((with_reducible refine (C45.out _ HD3.out).mono ?_); rintro e wa ⟨rfl, ga, hba⟩; have z0 := (hba.cell (p := ⟨w3.heap.size, 0, none⟩) (by simp; omega)).trans (cell_new1 w3 #[.nilFunc] 78 (0, 0) (.cells #[.int .i64 0] 3) 0 _ rfl); have z1 := (hba.frozen (p := ⟨w3.heap.size, 0, none⟩) (by simp; omega)).trans (frozen_old1 w3 #[.nilFunc] 78 (.cells #[.int .i64 0] 3) 0); have z2 := (hba.cell (p := ⟨w3.heap.size + 1, 0, none⟩) (by simp)).trans (cell_new2 w3 #[.int .i64 0] 3 (0, 0) (.cells #[.nilFunc] 78) 0 _ rfl); have z3 := (hba.frozen (p := ⟨w3.heap.size + 1, 0, none⟩) (by simp)).trans (frozen_new1 w3 #[.int .i64 0] 3 (.cells #[.nilFunc] 78) 0)) | ((with_reducible refine (C45.out _ HD4.out).mono ?_); rintro e wa ⟨rfl, ga, hba⟩; have z0 := (hba.cell (p := ⟨w3.heap.size, 0, none⟩) (by simp; omega)).trans (cell_new1 w3 #[.int .i64 0] 3 (0, 0) (.cells #[.nilFunc] 78) 0 _ rfl); have z1 := (hba.frozen (p := ⟨w3.heap.size, 0, none⟩) (by simp; omega)).trans (frozen_old1 w3 #[.int .i64 0] 3 (.cells #[.nilFunc] 78) 0); have z2 := (hba.cell (p := ⟨w3.heap.size + 1, 0, none⟩) (by simp)).trans (cell_new2 w3 #[.nilFunc] 78 (0, 0) (.cells #[.int .i64 0] 3) 0 _ rfl); have z3 := (hba.frozen (p := ⟨w3.heap.size + 1, 0, none⟩) (by simp)).trans (frozen_new1 w3 #[.nilFunc] 78 (.cells #[.int .i64 0] 3) 0)))
      )
  all_goals
    first
      | (have hbF : Below w3.heap.size w3 ((wa.alloc (.cells #[(.func (.func fn) #[.agg #[.int .i64 op, .bool t]] #[])] 78)).alloc (.cells #[.int .i64 (C2 : Int)] 3)) := HAL.out _ _ (HAL.out _ _ ga); have CF := HFILL.out ((wa.alloc (.cells #[(.func (.func fn) #[.agg #[.int .i64 op, .bool t]] #[])] 78)).alloc (.cells #[.int .i64 (C2 : Int)] 3)) (wa.heap.size) (wa.heap.size + 1) hbF (by simp; omega) (cell_new1 wa #[(.func (.func fn) #[.agg #[.int .i64 op, .bool t]] #[])] 78 (0, 0) _ 0 _ rfl) (by simp) (cell_new2 wa #[.int .i64 (C2 : Int)] 3 (0, 0) _ 0 _ rfl); obtain ⟨wf, hwf⟩ : ∃ wf, ((wa.alloc (.cells #[(.func (.func fn) #[.agg #[.int .i64 op, .bool t]] #[])] 78)).alloc (.cells #[.int .i64 (C2 : Int)] 3)) = wf := ⟨_, rfl⟩; rw [hwf] at CF hbF ⊢; clear hwf)
      | (have hbF : Below w3.heap.size w3 ((wa.alloc (.cells #[.int .i64 (C2 : Int)] 3)).alloc (.cells #[(.func (.func fn) #[.agg #[.int .i64 op, .bool t]] #[])] 78)) := HAL.out _ _ (HAL.out _ _ ga); have CF := HFILL.out ((wa.alloc (.cells #[.int .i64 (C2 : Int)] 3)).alloc (.cells #[(.func (.func fn) #[.agg #[.int .i64 op, .bool t]] #[])] 78)) (wa.heap.size + 1) (wa.heap.size) hbF (by simp) (cell_new2 wa #[(.func (.func fn) #[.agg #[.int .i64 op, .bool t]] #[])] 78 (0, 0) _ 0 _ rfl) (by simp; omega) (cell_new1 wa #[.int .i64 (C2 : Int)] 3 (0, 0) _ 0 _ rfl); obtain ⟨wf, hwf⟩ : ∃ wf, ((wa.alloc (.cells #[.int .i64 (C2 : Int)] 3)).alloc (.cells #[(.func (.func fn) #[.agg #[.int .i64 op, .bool t]] #[])] 78)) = wf := ⟨_, rfl⟩; rw [hwf] at CF hbF ⊢; clear hwf)
      | (have hbF : Below w3.heap.size w3 ((wa.setCell ⟨w3.heap.size, 0, none⟩ (.func (.func fn) #[.agg #[.int .i64 op, .bool t]] #[])).alloc (.cells #[.int .i64 (C2 : Int)] 3)) := HAL.out _ _ (HST.out _ _ _ ga HLE.out); have CF := HFILL.out ((wa.setCell ⟨w3.heap.size, 0, none⟩ (.func (.func fn) #[.agg #[.int .i64 op, .bool t]] #[])).alloc (.cells #[.int .i64 (C2 : Int)] 3)) (w3.heap.size) (wa.heap.size) hbF (by simp; omega) (((one_alloc _ _).cell (p := ⟨w3.heap.size, 0, none⟩) (by simpa using hlw)).trans (World.cell?_setCell_same' _ _ _ (by rw [z0]; rfl))) (by simp) (by have h := cell_new0 (wa.setCell ⟨w3.heap.size, 0, none⟩ (.func (.func fn) #[.agg #[.int .i64 op, .bool t]] #[])) #[.int .i64 (C2 : Int)] 3 0 _ rfl; simpa using h); obtain ⟨wf, hwf⟩ : ∃ wf, ((wa.setCell ⟨w3.heap.size, 0, none⟩ (.func (.func fn) #[.agg #[.int .i64 op, .bool t]] #[])).alloc (.cells #[.int .i64 (C2 : Int)] 3)) = wf := ⟨_, rfl⟩; rw [hwf] at CF hbF ⊢; clear hwf)
      | (have hbF : Below w3.heap.size w3 ((wa.setCell ⟨w3.heap.size, 0, none⟩ (.int .i64 (C2 : Int))).alloc (.cells #[(.func (.func fn) #[.agg #[.int .i64 op, .bool t]] #[])] 78)) := HAL.out _ _ (HST.out _ _ _ ga HLE.out); have CF := HFILL.out ((wa.setCell ⟨w3.heap.size, 0, none⟩ (.int .i64 (C2 : Int))).alloc (.cells #[(.func (.func fn) #[.agg #[.int .i64 op, .bool t]] #[])] 78)) (wa.heap.size) (w3.heap.size) hbF (by simp) (by have h := cell_new0 (wa.setCell ⟨w3.heap.size, 0, none⟩ (.int .i64 (C2 : Int))) #[(.func (.func fn) #[.agg #[.int .i64 op, .bool t]] #[])] 78 0 _ rfl; simpa using h) (by simp; omega) (((one_alloc _ _).cell (p := ⟨w3.heap.size, 0, none⟩) (by simpa using hlw)).trans (World.cell?_setCell_same' _ _ _ (by rw [z0]; rfl))); obtain ⟨wf, hwf⟩ : ∃ wf, ((wa.setCell ⟨w3.heap.size, 0, none⟩ (.int .i64 (C2 : Int))).alloc (.cells #[(.func (.func fn) #[.agg #[.int .i64 op, .bool t]] #[])] 78)) = wf := ⟨_, rfl⟩; rw [hwf] at CF hbF ⊢; clear hwf)
      | (have hbF : Below w3.heap.size w3 ((wa.setCell ⟨w3.heap.size, 0, none⟩ (.func (.func fn) #[.agg #[.int .i64 op, .bool t]] #[])).setCell ⟨w3.heap.size + 1, 0, none⟩ (.int .i64 (C2 : Int))) := HST.out _ _ _ (HST.out _ _ _ ga HLE.out) HLE1.out; have CF := HFILL.out ((wa.setCell ⟨w3.heap.size, 0, none⟩ (.func (.func fn) #[.agg #[.int .i64 op, .bool t]] #[])).setCell ⟨w3.heap.size + 1, 0, none⟩ (.int .i64 (C2 : Int))) (w3.heap.size) (w3.heap.size + 1) hbF (by have := hba.size; simp at this ⊢; omega) (by rw [World.cell?_setCell_other _ _ _ _ (by simp)]; exact World.cell?_setCell_same' _ _ _ (by rw [z0]; rfl)) (by have := hba.size; simp at this ⊢; omega) (World.cell?_setCell_same' _ _ _ (by rw [World.cell?_setCell_other _ _ _ _ (by simp), z2]; rfl)); obtain ⟨wf, hwf⟩ : ∃ wf, ((wa.setCell ⟨w3.heap.size, 0, none⟩ (.func (.func fn) #[.agg #[.int .i64 op, .bool t]] #[])).setCell ⟨w3.heap.size + 1, 0, none⟩ (.int .i64 (C2 : Int))) = wf := ⟨_, rfl⟩; rw [hwf] at CF hbF ⊢; clear hwf)
      | (have hbF : Below w3.heap.size w3 ((wa.setCell ⟨w3.heap.size, 0, none⟩ (.int .i64 (C2 : Int))).setCell ⟨w3.heap.size + 1, 0, none⟩ (.func (.func fn) #[.agg #[.int .i64 op, .bool t]] #[])) := HST.out _ _ _ (HST.out _ _ _ ga HLE.out) HLE1.out; have CF := HFILL.out ((wa.setCell ⟨w3.heap.size, 0, none⟩ (.int .i64 (C2 : Int))).setCell ⟨w3.heap.size + 1, 0, none⟩ (.func (.func fn) #[.agg #[.int .i64 op, .bool t]] #[])) (w3.heap.size + 1) (w3.heap.size) hbF (by have := hba.size; simp at this ⊢; omega) (World.cell?_setCell_same' _ _ _ (by rw [World.cell?_setCell_other _ _ _ _ (by simp), z2]; rfl)) (by have := hba.size; simp at this ⊢; omega) (by rw [World.cell?_setCell_other _ _ _ _ (by simp)]; exact World.cell?_setCell_same' _ _ _ (by rw [z0]; rfl)); obtain ⟨wf, hwf⟩ : ∃ wf, ((wa.setCell ⟨w3.heap.size, 0, none⟩ (.int .i64 (C2 : Int))).setCell ⟨w3.heap.size + 1, 0, none⟩ (.func (.func fn) #[.agg #[.int .i64 op, .bool t]] #[])) = wf := ⟨_, rfl⟩; rw [hwf] at CF hbF ⊢; clear hwf)
      | (have hbF : Below w3.heap.size w3 ((wa.setCell ⟨w3.heap.size + 1, 0, none⟩ (.func (.func fn) #[.agg #[.int .i64 op, .bool t]] #[])).setCell ⟨w3.heap.size, 0, none⟩ (.int .i64 (C2 : Int))) := HST.out _ _ _ (HST.out _ _ _ ga HLE1.out) HLE.out; have CF := HFILL.out ((wa.setCell ⟨w3.heap.size + 1, 0, none⟩ (.func (.func fn) #[.agg #[.int .i64 op, .bool t]] #[])).setCell ⟨w3.heap.size, 0, none⟩ (.int .i64 (C2 : Int))) (w3.heap.size + 1) (w3.heap.size) hbF (by have := hba.size; simp at this ⊢; omega) (by rw [World.cell?_setCell_other _ _ _ _ (by simp)]; exact World.cell?_setCell_same' _ _ _ (by rw [z2]; rfl)) (by have := hba.size; simp at this ⊢; omega) (World.cell?_setCell_same' _ _ _ (by rw [World.cell?_setCell_other _ _ _ _ (by simp), z0]; rfl)); obtain ⟨wf, hwf⟩ : ∃ wf, ((wa.setCell ⟨w3.heap.size + 1, 0, none⟩ (.func (.func fn) #[.agg #[.int .i64 op, .bool t]] #[])).setCell ⟨w3.heap.size, 0, none⟩ (.int .i64 (C2 : Int))) = wf := ⟨_, rfl⟩; rw [hwf] at CF hbF ⊢; clear hwf)
      | (have hbF : Below w3.heap.size w3 ((wa.setCell ⟨w3.heap.size + 1, 0, none⟩ (.int .i64 (C2 : Int))).setCell ⟨w3.heap.size, 0, none⟩ (.func (.func fn) #[.agg #[.int .i64 op, .bool t]] #[])) := HST.out _ _ _ (HST.out _ _ _ ga HLE1.out) HLE.out; have CF := HFILL.out ((wa.setCell ⟨w3.heap.size + 1, 0, none⟩ (.int .i64 (C2 : Int))).setCell ⟨w3.heap.size, 0, none⟩ (.func (.func fn) #[.agg #[.int .i64 op, .bool t]] #[])) (w3.heap.size) (w3.heap.size + 1) hbF (by have := hba.size; simp at this ⊢; omega) (World.cell?_setCell_same' _ _ _ (by rw [World.cell?_setCell_other _ _ _ _ (by simp), z0]; rfl)) (by have := hba.size; simp at this ⊢; omega) (by rw [World.cell?_setCell_other _ _ _ _ (by simp)]; exact World.cell?_setCell_same' _ _ _ (by rw [z2]; rfl)); obtain ⟨wf, hwf⟩ : ∃ wf, ((wa.setCell ⟨w3.heap.size + 1, 0, none⟩ (.int .i64 (C2 : Int))).setCell ⟨w3.heap.size, 0, none⟩ (.func (.func fn) #[.agg #[.int .i64 op, .bool t]] #[])) = wf := ⟨_, rfl⟩; rw [hwf] at CF hbF ⊢; clear hwf)
    have HS9 := hide (HS2.out.next hbF)
    clear hbF ga hba KS HD0 HD1 HD2 HD3 HD4 HRF HDR HAL HST HLE HLE1 C45 HFILL HRO HVE HNN HIN HC HX HY HT HRED3 HVC
    go_wp2_with fail
    refine CF.mono ?_
    rintro e w9 ⟨⟨v, rfl, hxr⟩, hb9⟩
    obtain ⟨a3, c3, a4, c4, rfl, -, -⟩ := hxr.formC
    have S9 := HS9.out.next hb9
    have HXR := hide hxr
    have r0 : w9.cell? ⟨w.heap.size + 1 + 1 + 1, 0, none⟩ = some (.slice none 0 0) := S9.r0
    have r1 : w9.cell? ⟨w.heap.size + 1 + 1 + 1, 1, none⟩ = some (.slice none 0 0) := S9.r1
    have f0 : w9.frozen? ⟨w.heap.size + 1 + 1 + 1, 0, none⟩ = false := S9.f0
    have f1 : w9.frozen? ⟨w.heap.size + 1 + 1 + 1, 1, none⟩ = false := S9.f1
    have HS9' := hide S9
    clear hxr hb9 CF HS9 S9
    generalize RR.1.shape.length = k3 at *
    generalize RR.1.cells.length = k4 at *
    have HT2 := hide (set_two r0 r1 (.slice a3 k3 c3) (.slice a4 k4 c4))
    go_wp2
    have hbf := below_set2 (v0 := .slice a3 k3 c3) (v1 := .slice a4 k4 c4) HS9'.out.bel (by omega : w.heap.size ≤ w.heap.size + 3)
    have HTT := set_two HS9'.out.r0 HS9'.out.r1 (.slice a3 k3 c3) (.slice a4 k4 c4)
    have HT2 := HT2.out
    exact bodyPost_ret (v := .tuple #[.agg #[.slice a3 k3 c3, .slice a4 k4 c4], .int .i64 RR.2]) (by simp [results, Tryd.results17, go_sem, HTT.1, HTT.2, HT2.1, HT2.2]) rfl ⟨⟨_, rfl, HS9'.out.give HXR.out HLO.out _ _⟩, hbf⟩
end Go.Proofs.YtlfacpclihmnnaaDoor
namespace Go.Proofs.YtlfacpclihmnnaaDoor
open Go.ChangeShapes Go.WideShapes Go.ChangeAt Go.RowKit
open Num (resV resE In64 sgnI absI)
set_option linter.unusedVariables false
set_option maxRecDepth 100000
theorem rnums_at (n : Nat) (l : List Int) (k : Nat) (hk : l.length = k) {lo : Nat} (a : Option Addr) (cap : Nat) (w : World) (R : Row lo w a l) (hl : l.length ≤ 16384) :
    Calls Tryd.prog 19 #[.slice a k cap] w fun e w' => (∃ a1 c1 a2 c2, e = .returned (.agg #[.slice a1 1 c1, .slice a2 k c2]) ∧ ArIn (n + 1) w.heap.size w' (numsA l) (.agg #[.slice a1 1 c1, .slice a2 k c2])) ∧ Below w.heap.size w w' := by
  subst hk
  refine (rnums_any n l a cap w R hl).mono ?_
  rintro e w' ⟨⟨v, rfl, hv⟩, hb⟩
  have hv' := hv
  obtain ⟨a1, c1, a2, c2, rfl⟩ := hv'.form
  have e1 : (numsA l).shape.length = 1 := rfl
  have e2 : (numsA l).cells.length = l.length := numCs_len 0 l
  rw [e1, e2] at hv ⊢
  exact ⟨⟨a1, c1, a2, c2, rfl, hv⟩, hb⟩
/-- The cells of an array of numbers, as they are read. -/
theorem num_cells {n lo : Nat} {w : World} {s l : List Int} {a1 a2 : Option Addr} {k1 c1 k2 c2 : Nat} (h : ArIn (n + 1) lo w (.mk s (numCs 0 l)) (.agg #[.slice a1 k1 c1, .slice a2 k2 c2])) (h0 : 0 < l.length) : k2 = l.length ∧ ∃ b off, a2 = some ⟨b, off, none⟩ ∧ lo ≤ b ∧ b < w.heap.size ∧ ∀ i, i < l.length → w.cell? ⟨b, off + i * 3 + 1, none⟩ = some (.int .i64 (l[i]?.getD 0)) := by
  obtain ⟨-, hk2, -, -, hc⟩ := cells_of h
  have e : (Ar.mk s (numCs 0 l)).cells = numCs 0 l := rfl
  rw [e] at hk2 hc
  refine ⟨by rw [hk2, numCs_len], ?_⟩
  rcases hc with hc | ⟨b, off, ha, hlo, hbb, hcc⟩
  · have : (numCs 0 l).length = 0 := by rw [hc]; rfl
    rw [numCs_len] at this; omega
  · refine ⟨b, off, ha, hlo, hbb, fun i hi => ?_⟩
    obtain ⟨v0, v1, v2, -, g1, -, hce⟩ := hcc i (by rw [numCs_len]; exact hi)
    rw [g1, hce.2.1, numCs_at 0 l i hi]
end Go.Proofs.YtlfacpclihmnnaaDoor
namespace Go.Proofs.YtlfacpclihmnnaaDoor
open Go.ChangeShapes Go.WideShapes Go.ChangeAt Go.RowKit
open Num (resV resE In64 sgnI absI)
set_option linter.unusedVariables false
set_option linter.unusedSimpArgs false
set_option maxRecDepth 100000
set_option maxHeartbeats 1000000 in
theorem weight300 {n lo : Nat} {x : Ar} {va : Value} {w : World} (hx : ArIn n lo w x va) : Calls Tryd.prog 24 #[va, .int .i64 300] w fun e w' => (∃ r : Int, e = .returned (.int .i64 r)) ∧ Below w.heap.size w w' := by
  have C := fun w' hb => weigh_any 16 (Nat.le_refl _) n x lo va w' 300 (hx.next hb) (by omega) (by omega)
  cases n with
  | zero => exact hx.elim
  | succ n =>
    obtain ⟨a1, c1, a2, c2, rfl, -⟩ := hx
    generalize x.shape.length = SA at *
    generalize x.cells.length = CA at *
    have C1 := C _ (one_alloc w (.cells #[.slice a1 SA c1, .slice a2 CA c2] 25))
    clear C
    go_enter Tryd.func24, Tryd.ntmps24
    go_wp2_with fail
    refine C1.mono ?_
    rintro e w1 ⟨⟨r, rfl, -, -, hr⟩, hb1⟩
    clear hr
    go_wp2
    go_ret
    exact ⟨⟨r, rfl⟩, (one_alloc _ _).trans (hb1.mono (one_alloc _ _).size)⟩
/-- A truth is told. -/
def GivesB (w : World) (e : Ending) (w' : World) : Prop := (∃ b : Bool, e = .returned (.bool b)) ∧ Below w.heap.size w w'
theorem givesB {w w' : World} (b : Bool) (h : Below w.heap.size w w') : GivesB w (.returned (.bool b)) w' := ⟨⟨b, rfl⟩, h⟩
theorem light9 {n lo : Nat} {x : Ar} {v0 v1 : Value} {w : World} (hx : ArIn n lo w x (.agg #[v0, v1])) : Calls Tryd.prog 9 #[.agg #[v0, v1]] w fun e w' => GivesB w e w' := by
  have C := weight300 (hx.next (one_alloc w (.cells #[v0, v1] 25)))
  clear hx
  go_enter Tryd.func9, Tryd.ntmps9
  go_wp2_with fail
  refine C.mono ?_
  rintro e w1 ⟨⟨r, rfl⟩, hb1⟩
  clear C
  go_wp2
  go_ret
  exact givesB _ ((one_alloc _ _).trans (hb1.mono (one_alloc _ _).size))
set_option maxHeartbeats 4000000 in
theorem narrow10 {lo S c1 : Nat} {s : List Int} {a1 : Option Addr} {v1 : Value} {w : World} (R : Row lo w a1 s) (hS : s.length = S) (hS16 : S ≤ 140737488355328) : Calls Tryd.prog 10 #[.agg #[.slice a1 S c1, v1]] w fun e w' => GivesB w e w' := by
  have q0 := cell_new0 w #[.slice a1 S c1, v1] 25 0 _ rfl
  have B1 := one_alloc w (.cells #[.slice a1 S c1, v1] 25)
  have HR := hide (R.next B1)
  obtain ⟨W1, e1⟩ : ∃ W1, w.alloc (.cells #[.slice a1 S c1, v1] 25) = W1 := ⟨_, rfl⟩
  rw [e1] at q0 HR B1
  clear R
  go_enter Tryd.func10, Tryd.ntmps10
  go_wp2
  go_loopg [3, 4] S (fun gg nv iv wq => ∃ (k : Nat) (z : Int), gg + k = S ∧ iv = .int .i64 (k : Int) ∧ nv = .int .i64 z ∧ 0 ≤ z ∧ z ≤ 4000 ∧ wq = W1)
  case atStart => exact ⟨0, 1, by omega, rfl, rfl, by omega, by omega, rfl⟩
  case round =>
  obtain ⟨k, z, hg, rfl, rfl, hz0, hz1, rfl⟩ := hrel
  clear e1
  by_cases hk : ¬ (k < S ∧ k < 20)
  · by_cases h1 : k < S
    · have h2 : ¬ ((k : Int) < 20) := by omega
      have h3 : (k : Int) < (S : Int) := by omega
      go_wp2
      go_ret
      exact givesB _ B1
    · have h3 : ¬ ((k : Int) < (S : Int)) := by omega
      go_wp2
      go_ret
      exact givesB _ B1
  have hk := Classical.not_not.1 hk
  have h3 : (k : Int) < (S : Int) := by omega
  have h4 : (k : Int) < 20 := by omega
  obtain ⟨b, off, rfl, -, hc⟩ := row_at HR.out (j := k) (by omega)
  generalize s[k]?.getD 0 = y at *
  by_cases hy : 400 < y
  · go_wp2
    go_ret
    exact givesB _ B1
  · by_cases hy1 : 1 < y
    · have hm : 0 ≤ z * y ∧ z * y ≤ 1600000 := by
        have h1 : z * y ≤ z * 400 := Int.mul_le_mul_of_nonneg_left (by omega) hz0
        exact ⟨Int.mul_nonneg hz0 (by omega), by omega⟩
      obtain ⟨zy, hzy⟩ : ∃ zy, z * y = zy := ⟨_, rfl⟩
      have hw : IntKind.i64.wrap (z * y) = zy := by rw [IntWalk.i64_in _ ⟨by omega, by omega⟩, hzy]
      rw [hzy] at hm
      by_cases h5 : 4000 < zy
      · go_wp2
        go_ret
        exact givesB _ B1
      · go_wp2
        go_roundg (S - (k + 1))
        case rel => exact ⟨k + 1, zy, by omega, by go_num, rfl, by omega, by omega, rfl⟩
        case measure => omega
    · have h5 : ¬ (4000 < z) := by omega
      go_wp2
      go_roundg (S - (k + 1))
      case rel => exact ⟨k + 1, z, by omega, by go_num, rfl, by omega, by omega, rfl⟩
      case measure => omega
theorem fchk_ok {op : Int} {x : Ar} (h : chkA 8 x = 0) (ho : isOp op = true) : fchk op (fun _ => chkA 8 x) 1 = 0 := by simp [fchk, firstUp, h, opE, ho]
theorem size_nil : sizeE [] = 0 ∧ sizeV [] = 1 := by
  have := fine_mk (l := []) (by simp) (by simp) (Or.inr (by simp [prodL]))
  simpa [prodL] using this
theorem wk_red : redR 22 false true (numsA [1, 2, 3]) = (.mk [] (numCs 0 [2]), 0) := by
  unfold redR
  rw [fchk_ok (chk_nums [1, 2, 3] (by decide)) (by decide), if_neg (by simp)]
  have e : outS true (numsA [1, 2, 3]).shape = [] := rfl
  rw [if_neg (by decide), e, size_nil.1, if_neg (by simp), size_nil.2]
  unfold filR redG
  rw [e, size_nil.2]
  rfl
theorem wk_max : redR 25 false true (numsA []) = (zeroA, 5) := by
  unfold redR
  rw [fchk_ok (chk_nums [] (by decide)) (by decide), if_neg (by simp)]
  have e : outS true (numsA []).shape = [] := rfl
  rw [if_neg (by decide), e, size_nil.1, if_neg (by simp), size_nil.2]
  unfold filR redG
  rw [e, size_nil.2]
  rfl
theorem wk_scan : scanR 21 false false (numsA [1, 2, 3]) = (.mk [3] (numCs 0 [1, 3, 6]), 0) := by
  unfold scanR
  rw [fchk_ok (chk_nums [1, 2, 3] (by decide)) (by decide), if_neg (by simp), if_neg (by decide)]
  have e : mN false (numsA [1, 2, 3]).shape = 1 := by
    unfold mN
    have e : outS false (numsA [1, 2, 3]).shape = [] := rfl
    rw [e, size_nil.2]
    rfl
  have e2 : ∀ j i, scG 21 false false (numsA [1, 2, 3]) j i = rowP 21 false (lnC (numCs 0 [1, 2, 3]) 3 1 1 j) i := fun j i => by
    unfold scG
    rw [e]
    rfl
  have e3 : ∀ j, scE 21 false false (numsA [1, 2, 3]) j = firstUp (fun i => (rowP 21 false (lnC (numCs 0 [1, 2, 3]) 3 1 1 j) i).2) 3 := fun j => by
    unfold scE
    simp only [e2]
    rfl
  rw [e]
  simp only [e2]
  have e4 : scE 21 false false (numsA [1, 2, 3]) = fun j => firstUp (fun i => (rowP 21 false (lnC (numCs 0 [1, 2, 3]) 3 1 1 j) i).2) 3 := funext e3
  rw [e4]
  rfl
theorem wk_out : ∃ l, outR 23 false (numsA [1, 2, 3]) (numsA [1, 2, 3]) = (.mk [3, 3] (numCs 0 l), 0) ∧ l.length = 9 := by
  refine ⟨[1, 2, 3, 2, 4, 6, 3, 6, 9], ?_, rfl⟩
  unfold outR
  have h1 := chk_nums [1, 2, 3] (by decide)
  have e0 : fchk 23 (xyE (numsA [1, 2, 3]) (numsA [1, 2, 3])) 2 = 0 := by simp [fchk, firstUp, xyE, h1, opE]; decide
  have e1 : (numsA [1, 2, 3]).shape ++ (numsA [1, 2, 3]).shape = [3, 3] := rfl
  have e2 := fine_mk (l := [3, 3]) (by simp) (by simp) (Or.inr (by simp [prodL]))
  have e3 : prodL [3, 3] = 9 := by simp [prodL]
  rw [e3] at e2
  rw [e0, if_neg (by simp), e1, e2.1, if_neg (by simp), e2.2]
  rfl
end Go.Proofs.YtlfacpclihmnnaaDoor
namespace Go.Proofs.YtlfacpclihmnnaaDoor
open Go.ChangeShapes Go.WideShapes Go.ChangeAt Go.RowKit
open Num (resV resE In64 sgnI absI)
set_option linter.unusedVariables false
set_option linter.unusedSimpArgs false
set_option maxRecDepth 100000
theorem in_nums {l : List Int} (h : ∀ z ∈ l, In64 z) : ∀ k, k < (numsA l).cells.length → In64 (cAt (numsA l).cells k).2.1 := fun k hk => by
  have e : (numsA l).cells = numCs 0 l := rfl
  rw [e] at hk ⊢
  rw [numCs_len] at hk
  rw [numCs_at 0 l k hk]
  exact h _ (getD_mem hk)
/-- A variable that holds an array of numbers. -/
structure HeldN (W : World) (vb : Nat) (l : List Int) (wx : World) : Prop where
  len : ∃ a c, wx.cell? ⟨vb, 1, none⟩ = some (.slice a l.length c) ∧ (0 < l.length → ∃ b off, a = some ⟨b, off, none⟩ ∧ ∀ i, i < l.length → wx.cell? ⟨b, off + i * 3 + 1, none⟩ = some (.int .i64 (l[i]?.getD 0)))
theorem heldN {n lo : Nat} {w : World} {s l : List Int} {a1 a2 : Option Addr} {k1 c1 k2 c2 : Nat} (h : ArIn (n + 1) lo w (.mk s (numCs 0 l)) (.agg #[.slice a1 k1 c1, .slice a2 k2 c2])) {W : World} (hb : Below (w.alloc (.cells #[.slice a1 k1 c1, .slice a2 k2 c2] 25)).heap.size (w.alloc (.cells #[.slice a1 k1 c1, .slice a2 k2 c2] 25)) W) : HeldN w w.heap.size l W := by
  have hk2 : k2 = l.length := by
    obtain ⟨-, hk2, -⟩ := cells_of h
    rw [hk2]
    exact numCs_len 0 l
  have B : Below w.heap.size w W := (one_alloc w _).trans (hb.mono (one_alloc w _).size)
  refine ⟨a2, c2, ?_, fun h0 => ?_⟩
  · rw [← hk2]
    exact (hb.cell (p := ⟨w.heap.size, 1, none⟩) (by simp)).trans (cell_new0 w _ 25 1 _ rfl)
  · obtain ⟨-, b, off, ha, -, hbl, hcc⟩ := num_cells h h0
    exact ⟨b, off, ha, fun i hi => (B.cell (p := ⟨b, off + i * 3 + 1, none⟩) hbl).trans (hcc i hi)⟩
set_option maxHeartbeats 8000000 in
theorem works11 (w : World) (T : Tab w) : Calls Tryd.prog 11 #[] w fun e w' => e = .returned (.bool true) ∧ Below w.heap.size w w' := by
  have HT := hide (fun W (h : Below w.heap.size w W) => T.next h)
  have hI : ∀ z ∈ ([1, 2, 3] : List Int), In64 z := by intro z hz; simp at hz; rcases hz with rfl | rfl | rfl <;> simp [In64]
  have B0 := one_alloc w (.cells #[.int .i64 1, .int .i64 2, .int .i64 3] 2)
  have R0 : Row w.heap.size (w.alloc (.cells #[.int .i64 1, .int .i64 2, .int .i64 3] 2)) (some ⟨w.heap.size, 0, none⟩) [1, 2, 3] := by
    refine ⟨by simp, Or.inr ⟨w.heap.size, 0, rfl, Nat.le_refl _, by simp, fun i hi => ?_⟩⟩
    simp only [List.length_cons, List.length_nil] at hi
    have : i = 0 ∨ i = 1 ∨ i = 2 := by omega
    rcases this with rfl | rfl | rfl
    · exact cell_new0 w _ 2 0 _ rfl
    · exact cell_new0 w _ 2 1 _ rfl
    · exact cell_new0 w _ 2 2 _ rfl
  have CN := rnums_at 0 [1, 2, 3] 3 rfl (some ⟨w.heap.size, 0, none⟩) 3 _ R0 (by decide)
  have HB0 := hide B0
  clear R0 B0 T
  go_enter Tryd.func11, Tryd.ntmps11
  go_wp2_with fail
  refine CN.mono ?_
  rintro e w1 ⟨⟨a1, c1, a2, c2, rfl, ha⟩, hb1⟩
  clear CN
  have B1 := HB0.out.trans (hb1.mono HB0.out.size)
  have n1 := one_alloc w1 (.cells #[.slice a1 1 c1, .slice a2 3 c2] 25)
  have q0 := cell_new0 w1 #[.slice a1 1 c1, .slice a2 3 c2] 25 0 _ rfl
  have q1 := cell_new0 w1 #[.slice a1 1 c1, .slice a2 3 c2] 25 1 _ rfl
  obtain ⟨W2, e2⟩ : ∃ W2, w1.alloc (.cells #[.slice a1 1 c1, .slice a2 3 c2] 25) = W2 := ⟨_, rfl⟩
  rw [e2] at n1 q0 q1
  have hl2 : w1.heap.size < W2.heap.size := by rw [← e2]; simp
  have HA : Hid (∀ W, Below W2.heap.size W2 W → ArIn 1 0 W (numsA [1, 2, 3]) (.agg #[.slice a1 1 c1, .slice a2 3 c2])) := fun W h => ha.mono (Nat.zero_le _) (n1.trans (h.mono n1.size))
  have HQ : Hid (∀ W, Below W2.heap.size W2 W → W.cell? ⟨w1.heap.size, 0, none⟩ = some (.slice a1 1 c1) ∧ W.cell? ⟨w1.heap.size, 1, none⟩ = some (.slice a2 3 c2)) := fun W h => ⟨(h.cell (p := ⟨w1.heap.size, 0, none⟩) hl2).trans q0, (h.cell (p := ⟨w1.heap.size, 1, none⟩) hl2).trans q1⟩
  have B2 := B1.trans (n1.mono B1.size)
  have HIN := hide (in_nums hI)
  have HB2 : Hid (∀ W, Below W2.heap.size W2 W → Below w.heap.size w W) := fun W h => B2.trans (h.mono B2.size)
  have CR := red12 (op := 22) (t := false) (last := true) (HA.out W2 (Below.refl _ _)) HIN.out (HT.out _ B2)
  rw [wk_red] at CR
  have HE2 := hide e2
  clear ha hb1 B1 B2 n1 hI e2 HB0 q0 q1
  obtain ⟨q0, q1⟩ := HQ.out W2 (Below.refl _ _)
  go_upto_region 2 with fail
  rw [HE2.out]
  clear HE2
  go_wp2_with fail
  refine CR.mono ?_
  rintro e w3 ⟨⟨v, rfl, hv⟩, hb3⟩
  clear CR q0 q1
  obtain ⟨g1, g2, g3, g4, rfl⟩ := hv.form
  have hv1 : (Ar.mk [] (numCs 0 [2])).shape.length = 0 := rfl
  have hv2 : (Ar.mk [] (numCs 0 [2])).cells.length = 1 := rfl
  rw [hv1, hv2] at hv ⊢
  have n3 := one_alloc w3 (.cells #[.slice g1 0 g2, .slice g3 1 g4] 25)
  have HH1 : Hid (∀ W, Below (w3.alloc (.cells #[.slice g1 0 g2, .slice g3 1 g4] 25)).heap.size (w3.alloc (.cells #[.slice g1 0 g2, .slice g3 1 g4] 25)) W → HeldN w3 w3.heap.size [2] W) := fun W h => heldN hv h
  obtain ⟨W4, e4⟩ : ∃ W4, w3.alloc (.cells #[.slice g1 0 g2, .slice g3 1 g4] 25) = W4 := ⟨_, rfl⟩
  rw [e4] at n3 HH1
  have HB4 := hide (hb3.trans (n3.mono hb3.size))
  have HE4 := hide e4
  obtain ⟨vb1, hvb1⟩ : ∃ vb, w3.heap.size = vb := ⟨_, rfl⟩
  have HV1 := hide hvb1
  rw [hvb1] at HH1
  clear hv hb3 n3 e4 hvb1
  have CS := scan15 (op := 21) (t := false) (last := false) (HA.out W4 HB4.out) HIN.out (HT.out _ (HB2.out _ HB4.out))
  rw [wk_scan] at CS
  obtain ⟨q0, q1⟩ := HQ.out W4 HB4.out
  go_upto_region 3 with fail
  rw [HE4.out, HV1.out]
  clear HE4 HV1
  go_wp2_with fail
  refine CS.mono ?_
  rintro e w5 ⟨⟨v, rfl, hv⟩, hb5⟩
  clear CS q0 q1
  obtain ⟨h1, h2, h3, h4, rfl⟩ := hv.form
  have hv1 : (Ar.mk [3] (numCs 0 [1, 3, 6])).shape.length = 1 := rfl
  have hv2 : (Ar.mk [3] (numCs 0 [1, 3, 6])).cells.length = 3 := rfl
  rw [hv1, hv2] at hv ⊢
  have n5 := one_alloc w5 (.cells #[.slice h1 1 h2, .slice h3 3 h4] 25)
  have HH2 : Hid (∀ W, Below (w5.alloc (.cells #[.slice h1 1 h2, .slice h3 3 h4] 25)).heap.size (w5.alloc (.cells #[.slice h1 1 h2, .slice h3 3 h4] 25)) W → HeldN w5 w5.heap.size [1, 3, 6] W) := fun W h => heldN hv h
  obtain ⟨W6, e6⟩ : ∃ W6, w5.alloc (.cells #[.slice h1 1 h2, .slice h3 3 h4] 25) = W6 := ⟨_, rfl⟩
  rw [e6] at n5 HH2
  have H46 := hide (hb5.trans (n5.mono hb5.size))
  have HB6 := hide (HB4.out.trans (H46.out.mono HB4.out.size))
  have HE6 := hide e6
  obtain ⟨vb2, hvb2⟩ : ∃ vb, w5.heap.size = vb := ⟨_, rfl⟩
  have HV2 := hide hvb2
  rw [hvb2] at HH2
  clear hv hb5 n5 e6 hvb2
  obtain ⟨lO, hO, hO9⟩ := wk_out
  have CO := outer17 (op := 23) (t := false) (HA.out W6 HB6.out) (HA.out W6 HB6.out) HIN.out HIN.out (HT.out _ (HB2.out _ HB6.out))
  rw [hO] at CO
  obtain ⟨q0, q1⟩ := HQ.out W6 HB6.out
  go_upto_region 4 with fail
  rw [HE6.out, HV2.out]
  clear HE6 HV2 hO
  go_wp2_with fail
  refine CO.mono ?_
  rintro e w7 ⟨⟨v, rfl, hv⟩, hb7⟩
  clear CO q0 q1
  obtain ⟨i1, i2, i3, i4, rfl⟩ := hv.form
  have hv1 : (Ar.mk [3, 3] (numCs 0 lO)).shape.length = 2 := rfl
  have hv2 : (Ar.mk [3, 3] (numCs 0 lO)).cells.length = 9 := by show (numCs 0 lO).length = 9; rw [numCs_len, hO9]
  rw [hv1, hv2] at hv ⊢
  have n7 := one_alloc w7 (.cells #[.slice i1 2 i2, .slice i3 9 i4] 25)
  have HH3 : Hid (∀ W, Below (w7.alloc (.cells #[.slice i1 2 i2, .slice i3 9 i4] 25)).heap.size (w7.alloc (.cells #[.slice i1 2 i2, .slice i3 9 i4] 25)) W → HeldN w7 w7.heap.size lO W) := fun W h => heldN hv h
  obtain ⟨W8, e8⟩ : ∃ W8, w7.alloc (.cells #[.slice i1 2 i2, .slice i3 9 i4] 25) = W8 := ⟨_, rfl⟩
  rw [e8] at n7 HH3
  have H68 := hide (hb7.trans (n7.mono hb7.size))
  have H48 := hide (H46.out.trans (H68.out.mono H46.out.size))
  have HB8 := hide (HB4.out.trans (H48.out.mono HB4.out.size))
  have HE8 := hide e8
  obtain ⟨vb3, hvb3⟩ : ∃ vb, w7.heap.size = vb := ⟨_, rfl⟩
  have HV3 := hide hvb3
  rw [hvb3] at HH3
  clear hv hb7 n7 e8 hvb3
  have CN := rnums_at 0 [] 0 rfl none 0 W8 (row_nil W8.heap.size _ _) (by decide)
  go_upto_region 5 with fail
  rw [HE8.out, HV3.out]
  clear HE8 HV3
  go_wp2_with fail
  refine CN.mono ?_
  rintro e w9 ⟨⟨j1, j2, j3, j4, rfl, hj⟩, hb9⟩
  clear CN
  have H89 := hide hb9
  have CR := red12 (op := 25) (t := false) (last := true) hj (in_nums (l := []) (by simp)) (HT.out _ (HB2.out _ (HB8.out.trans (hb9.mono HB8.out.size))))
  rw [wk_max] at CR
  clear hj hb9
  go_wp2_with fail
  refine CR.mono ?_
  rintro e wA ⟨⟨v, rfl, hv⟩, hbA⟩
  clear CR
  obtain ⟨k1, k2, k3, k4, rfl⟩ := hv.form
  have hv1 : zeroA.shape.length = 0 := rfl
  have hv2 : zeroA.cells.length = 0 := rfl
  rw [hv1, hv2]
  have nA := one_alloc wA (.cells #[.slice k1 0 k2, .slice k3 0 k4] 25)
  obtain ⟨WB, eB⟩ : ∃ WB, wA.alloc (.cells #[.slice k1 0 k2, .slice k3 0 k4] 25) = WB := ⟨_, rfl⟩
  rw [eB] at nA
  have H8B := hide (H89.out.trans ((hbA.trans (nA.mono hbA.size)).mono H89.out.size))
  obtain ⟨aa, ca, ea, fa⟩ := (HH1.out WB (H48.out.trans (H8B.out.mono H48.out.size))).len
  obtain ⟨ab, cb, eb, fb⟩ := (HH2.out WB (H68.out.trans (H8B.out.mono H68.out.size))).len
  obtain ⟨ac, cc, ec, fc⟩ := (HH3.out WB H8B.out).len
  obtain ⟨ba, oa, rfl, ga⟩ := fa (by decide)
  obtain ⟨bb, ob, rfl, gb⟩ := fb (by decide)
  have x1 := ga 0 (by decide)
  have x2 := gb 2 (by decide)
  rw [hO9] at ec
  simp only [List.length_cons, List.length_nil, Nat.zero_mul, Nat.add_zero] at ea eb x1 x2
  have HBB := hide (HB2.out WB (HB8.out.trans (H8B.out.mono HB8.out.size)))
  have HEB := hide eB
  have x3 : WB.cell? ⟨ba, oa + 1, none⟩ = some (.int .i64 2) := x1
  have x4 : WB.cell? ⟨bb, ob + 2 * 3 + 1, none⟩ = some (.int .i64 6) := x2
  clear hv hbA nA eB fa fb fc ga gb HH1 HH2 HH3 H89 H8B H48 H68 H46 HB8 HB6 HB4 HA HQ HT HIN HB2 x1 x2
  go_upto_region 6 with fail
  rw [HEB.out]
  clear HEB
  go_wp2
  go_ret
  exact ⟨rfl, HBB.out⟩
end Go.Proofs.YtlfacpclihmnnaaDoor
namespace Go.Proofs.YtlfacpclihmnnaaDoor
open Go.ChangeShapes Go.WideShapes Go.ChangeAt Go.RowKit
set_option linter.unusedVariables false
set_option maxRecDepth 100000
theorem cells_of_tab2 {H : Type} {enc : TypeId × Value → H} {P : Program} {w : World} {base : Nat} {sp : Nat → Bool} {held : Bool} {fuel : Nat} {t e e2 : TypeId} {n m : Nat} {k : IntKind} {cs : List Value} {zss : List (List Int)} {p : List MemPlace}
    (ht : P.underlying t = some (.array n e)) (he : P.underlying e = some (.array m e2)) (he2 : P.underlying e2 = some (.int k)) (hc2 : P.cellsOf e2 = 1) (hce : P.cellsOf e = m)
    (h : DataW.trod enc P w base sp held fuel t cs = some (.agg (zss.map (Lib.tabData k)), p)) : ∀ i zs, i < n → zss[i]? = some zs → (cs.drop (i * m)).take m = zs.map fun z => Value.int k z := by
  cases fuel with
  | zero => simp [DataW.trod] at h
  | succ fuel =>
    simp only [DataW.trod, ht, hce] at h
    split at h
    · rename_i hl
      obtain ⟨xs, hm, hx⟩ := Option.map_eq_some_iff.1 h
      have hxs : xs.map (·.1) = zss.map (Lib.tabData (H := H) k) := by
        have := congrArg Prod.fst hx
        simpa using this
      intro i zs hi hz
      obtain ⟨b, hb, hf⟩ := Lib.mapM_at hm i i (by simp [hi])
      have h2 : (xs.map (·.1))[i]? = some b.1 := by simp [hb]
      rw [hxs] at h2
      simp only [List.getElem?_map, hz, Option.map_some, Option.some.injEq] at h2
      obtain ⟨b1, b2⟩ := b
      simp only at h2
      subst h2
      exact Lib.cells_of_tab he he2 hc2 hce hf
    · cases h
theorem gTab : Tryd.prog.globalNamed "triglyph/atomic.answers" = some 0 := by kernel_rfl
theorem gTabType : (Tryd.prog.globals[0]?).map (·.type) = some 124 := by kernel_rfl
theorem cells73 : Tryd.prog.cellsOf 123 = 3 := by kernel_rfl
theorem tab_of {W : World} (h : laidMetH Tryd.prog [("triglyph/atomic.answers", Rows.laid_triglyph_atomic_answers)] W) : Tab W := by
  obtain ⟨ps, ⟨g', t', cs, fuel, p, q, hg', ht', hvar, hd, _, _⟩, _⟩ := h
  obtain rfl := Option.some.inj (gTab.symm.trans hg')
  obtain rfl := Option.some.inj (gTabType.symm.trans ht')
  have key := cells_of_tab2 (zss := [[0, 1, 0], [1, 0, 1], [1, 0, 0], [0, 0, 1], [1, 1, 0], [0, 1, 1]]) Tryd.underlying124 Tryd.underlying123 Tryd.underlying2 cells2 cells73 hd
  have hcell : ∀ i j z, i < 6 → j < 3 → cs[i * 3 + j]? = some (.int .i64 z) → W.cell? ⟨0, i * 3 + j, none⟩ = some (.int .i64 z) := by
    intro i j z hi hj hz
    have := World.var?_cell gTab hvar (i * 3 + j)
    simpa [hz] using this
  have at' : ∀ i j z zs, i < 6 → j < 3 → [[0, 1, 0], [1, 0, 1], [1, 0, 0], [0, 0, 1], [1, 1, 0], [0, 1, 1]][i]? = some zs → zs[j]? = some z → cs[i * 3 + j]? = some (.int .i64 z) := by
    intro i j z zs hi hj h1 h2
    have := congrArg (·[j]?) (key i zs hi h1)
    simp only [List.getElem?_take, List.getElem?_drop, List.getElem?_map, h2] at this
    simpa [hj] using this
  have c : ∀ k, k < 18 → W.cell? ⟨0, k, none⟩ = some (.int .i64 (ansT k)) := by
    intro k hk
    have e : k = k / 3 * 3 + k % 3 := by omega
    have hi : k / 3 < 6 := by omega
    have hj : k % 3 < 3 := by omega
    have := hcell (k / 3) (k % 3) (ansT k) hi hj (at' _ _ _ _ hi hj (List.getElem?_eq_getElem (by simpa using hi)) ?_)
    · rw [← e] at this; exact this
    · have hk' : k = 0 ∨ k = 1 ∨ k = 2 ∨ k = 3 ∨ k = 4 ∨ k = 5 ∨ k = 6 ∨ k = 7 ∨ k = 8 ∨ k = 9 ∨ k = 10 ∨ k = 11 ∨ k = 12 ∨ k = 13 ∨ k = 14 ∨ k = 15 ∨ k = 16 ∨ k = 17 := by omega
      rcases hk' with rfl | rfl | rfl | rfl | rfl | rfl | rfl | rfl | rfl | rfl | rfl | rfl | rfl | rfl | rfl | rfl | rfl | rfl <;> rfl
  refine ⟨?_, c⟩
  have c0 := c 0 (by omega)
  refine Decidable.byContradiction fun hb => ?_
  have : W.heap[0]? = none := Array.getElem?_eq_none (by omega)
  simp [World.cell?, this] at c0
/-- A world for the witness: the settled one, the table (block 0) holding what its initialiser lays. -/
noncomputable def laidWorld (os : Os) : World :=
  { World.holding Tryd.prog os ⟨#[], #[], []⟩ with heap := (World.holding Tryd.prog os ⟨#[], #[], []⟩).heap.modify 0 fun
      | .cells _ t frozen => .cells #[.int .i64 0, .int .i64 1, .int .i64 0, .int .i64 1, .int .i64 0, .int .i64 1, .int .i64 1, .int .i64 0, .int .i64 0, .int .i64 0, .int .i64 0, .int .i64 1, .int .i64 1, .int .i64 1, .int .i64 0, .int .i64 0, .int .i64 1, .int .i64 1] t frozen
      | o => o }
end Go.Proofs.YtlfacpclihmnnaaDoor
namespace Go.Proofs.YtlfacpclihmnnaaDoor
open Go.ChangeShapes Go.WideShapes Go.ChangeAt Go.RowKit
open Num (resV resE In64 sgnI absI)
set_option linter.unusedVariables false
set_option linter.unusedSimpArgs false
set_option maxRecDepth 100000
/-- Places with a 0 put in for the axis that is folded. -/
def fullL (k : Nat) (d : List Int) : List Int := d.take k ++ [0] ++ d.drop k
theorem fullL_len (k : Nat) (d : List Int) : (fullL k d).length = d.length + 1 := by simp only [fullL, List.length_append, List.length_take, List.length_drop, List.length_cons, List.length_nil]; omega
theorem inAxes_snoc {l m : List Int} {s a : Int} (h : inAxes l m) (h1 : 0 ≤ a) (h2 : a < s) : inAxes (l ++ [s]) (m ++ [a]) := by
  induction l generalizing m with
  | nil =>
    cases m with
    | nil => exact ⟨⟨h1, h2⟩, trivial⟩
    | cons b m => exact h.elim
  | cons z l ih =>
    cases m with
    | nil => exact h.elim
    | cons b m => exact ⟨h.1, ih h.2⟩
theorem red_place {last : Bool} {s : List Int} {m i j : Nat} (h1 : 0 < s.length) (hs : sizeE s = 0) (ho : sizeE (outS last s) = 0) (hm : sizeV (outS last s) = (m : Int)) (hi : i < m) (hj : j < lgN last s) :
    plcV s ((fullL (axN last s.length) (digits (outS last s) (i : Int))).set (axN last s.length) (j : Int)) = ((i * nxN last s + j * stN last m : Nat) : Int) := by
  obtain ⟨-, hp, hpr, -⟩ := sizeV_in (l := outS last s) (n := (i : Int)) ho (by omega) (by omega)
  obtain ⟨hd, hpl⟩ := digits_in hp (n := (i : Int)) (by omega) (by omega)
  have hdl := digits_length (outS last s) (i : Int)
  rw [outS_len] at hdl
  obtain ⟨D, hD⟩ : ∃ D, digits (outS last s) (i : Int) = D := ⟨_, rfl⟩
  rw [hD] at hd hpl hdl ⊢
  have hl0 := lgI_nonneg (last := last) (fine_cases hs).2.1 h1
  have hjl : (j : Int) < lgI last s := by unfold lgN at hj; omega
  cases last with
  | false =>
    cases s with
    | nil => simp at h1
    | cons g r =>
      have e1 : (fullL (axN false (g :: r).length) D).set (axN false (g :: r).length) (j : Int) = (j : Int) :: D := by simp [fullL, axN]
      have e2 : outS false (g :: r) = r := by simp [outS]
      have e3 : lgI false (g :: r) = g := by simp [lgI, gI]
      rw [e2] at hd hpl hm hpr
      rw [e3] at hjl
      have hin : inAxes (g :: r) ((j : Int) :: D) := ⟨⟨by omega, hjl⟩, hd⟩
      rw [e1, (plc_of hs hin).1]
      show (j : Int) * prodL r + place r D = _
      rw [hpl, ← hpr, hm]
      simp only [nxN, stN, Bool.false_eq_true, if_false]
      push_cast
      omega
  | true =>
    have ea : axN true s.length = s.length - 1 := rfl
    have e1 : (fullL (axN true s.length) D).set (axN true s.length) (j : Int) = D ++ [(j : Int)] := by
      rw [ea, fullL, ← hdl, List.take_length, List.drop_length, List.append_nil]
      simp
    have e0 : s = outS true s ++ [lgI true s] := by
      have h2 := List.take_append_drop (s.length - 1) s
      have h3 : s.drop (s.length - 1) = [gI s (s.length - 1)] := by
        rw [List.drop_eq_getElem_cons (by omega), show s.length - 1 + 1 = s.length by omega, List.drop_length]
        simp [gI, show s.length - 1 < s.length by omega]
      rw [h3] at h2
      simpa [outS, lgI] using h2.symm
    have hin : inAxes s (D ++ [(j : Int)]) := by
      have := inAxes_snoc hd (s := lgI true s) (a := (j : Int)) (by omega) hjl
      rw [← e0] at this
      exact this
    rw [e1, (plc_of hs hin).1]
    have ep : place s (D ++ [(j : Int)]) = place (outS true s ++ [lgI true s]) (D ++ [(j : Int)]) := by rw [← e0]
    rw [ep, place_snoc _ _ _ _ (by rw [outS_len, hdl]), hpl]
    simp only [nxN, stN, if_true, Nat.mul_one]
    push_cast
    rw [Int.toNat_of_nonneg hl0]
/-- How many numbers of the shape stand behind the first i axes, the folded one left out. -/
def cntN (k i : Nat) : Nat := if i ≤ k then i else i - 1
theorem outS_gI {last : Bool} {s : List Int} {i : Nat} (h : 0 < s.length) (hi : i < s.length) (hne : i ≠ axN last s.length) : gI (outS last s) (cntN (axN last s.length) i) = gI s i := by
  cases last with
  | false =>
    unfold axN at hne ⊢
    simp only [Bool.false_eq_true, if_false] at hne ⊢
    unfold cntN
    rw [if_neg (by omega)]
    unfold outS gI
    simp only [Bool.false_eq_true, if_false]
    rw [List.getElem?_drop, show 1 + (i - 1) = i by omega]
  | true =>
    unfold axN at hne ⊢
    simp only [if_true] at hne ⊢
    unfold cntN
    rw [if_pos (by omega)]
    unfold outS gI
    simp only [if_true]
    rw [List.getElem?_take, if_pos (by omega)]
theorem rowT_congr {T T' : Nat → Value × Value × Value} {j : Nat} (h : ∀ i, i < j → T i = T' i) : rowT T j = rowT T' j := by
  induction j with
  | zero => rfl
  | succ j ih => rw [rowT_step, rowT_step, ih (fun i hi => h i (by omega)), h j (by omega)]
theorem GrowC.congr {W : World} {o : Nat} {sv : Value} {T T' : Nat → Value × Value × Value} {j : Nat} {v : Value} {wr : World} (h : GrowC W o sv T j v wr) (hT : ∀ i, i < j → T i = T' i) : GrowC W o sv T' j v wr := ⟨h.io, h.keep, h.c0, h.c1, h.f1, by rw [← rowT_congr hT]; exact h.own⟩
/-- The folded axis' number in the shape. -/
theorem axN_lt {last : Bool} {S : Nat} (h : 0 < S) : axN last S < S := by unfold axN; cases last <;> simp <;> omega
theorem lgI_ax (last : Bool) (s : List Int) : lgI last s = gI s (axN last s.length) := by cases last <;> simp [lgI, axN]
end Go.Proofs.YtlfacpclihmnnaaDoor
namespace Go.Proofs.YtlfacpclihmnnaaDoor
open Go.ChangeShapes Go.WideShapes Go.ChangeAt Go.RowKit
open Num (resV resE In64 sgnI absI)
set_option linter.unusedVariables false
set_option linter.unusedSimpArgs false
set_option maxRecDepth 100000
theorem GrowI.new {W : World} {o : Nat} {l : List Int} (c0 : W.cell? ⟨o, 0, none⟩ = some (.slice none 0 0)) (c1 : W.cell? ⟨o, 1, none⟩ = some (.slice none 0 0)) (f0 : W.frozen? ⟨o, 0, none⟩ = false) (f1 : W.frozen? ⟨o, 1, none⟩ = false) : GrowI W o l 0 (.slice none 0 0) W :=
  ⟨Below.refl _ _, fun _ _ _ => rfl, c0, c1, f0, f1, World.ownsRow_nil _ _ _ _⟩
theorem cntN_step {k i : Nat} (h : i ≠ k) : cntN k (i + 1) = cntN k i + 1 := by unfold cntN; split <;> split <;> omega
theorem cntN_stay (k : Nat) : cntN k (k + 1) = cntN k k := by unfold cntN; split <;> split <;> omega
theorem cntN_end {k S : Nat} (h : k < S) : cntN k S = S - 1 := by unfold cntN; split <;> omega
theorem gives2z0 {n : Nat} {R : Ar × Int} {x : Ar} {E : Int} {w w' : World} {v : Value} (hR : R = (x, E)) (hx : ArIn n 0 w' x v) (hb : Below w.heap.size w w') : Gives2 n 0 R.1 R.2 w (.returned (.tuple #[v, .int .i64 E])) w' := gives2_of hR hx hb
set_option maxHeartbeats 16000000 in
theorem rred13 {n lo S C c1 c2 : Nat} {x : Ar} {a1 a2 : Option Addr} {op : Int} {t last : Bool} {w : World} (hx : ArIn (n + 1) lo w x (.agg #[.slice a1 S c1, .slice a2 C c2])) (hin : ∀ k, k < x.cells.length → In64 (cAt x.cells k).2.1) (hlo : lo ≤ w.heap.size) :
    Calls Tryd.prog 13 #[.int .i64 op, .bool t, .agg #[.slice a1 S c1, .slice a2 C c2], .bool last] w fun e w' => Gives2 (n + 1) 0 (redR op t last x).1 (redR op t last x).2 w e w' := by
  obtain ⟨a1', c1', a2', c2', hv, R, hc⟩ := hx.formC
  have hv2 : S = x.shape.length ∧ C = x.cells.length ∧ a1 = a1' ∧ a2 = a2' ∧ c1 = c1' ∧ c2 = c2' := by
    simp only [Value.agg.injEq, Array.mk.injEq, List.cons.injEq, Value.slice.injEq, and_true] at hv
    exact ⟨hv.1.2.1, hv.2.2.1, hv.1.1, hv.2.1, hv.1.2.2, hv.2.2.2⟩
  obtain ⟨hS, hC, rfl, rfl, rfl, rfl⟩ := hv2
  clear hv
  obtain ⟨i3, hi3, hz30, hz31, hz32⟩ := infoI3
  obtain ⟨i0, hi0, hz00, hz01, hz02⟩ := info33'
  have I := in2_new w (.slice a1 S c1) (.slice a2 C c2)
  obtain ⟨W2, e2⟩ : ∃ W2, (w.alloc (.cells #[.slice a1 S c1, .slice a2 C c2] 25)).alloc (.cells #[.slice none 0 0, .slice none 0 0] 25) = W2 := ⟨_, rfl⟩
  rw [e2] at I
  have CK := rstart op (hx.next I.bel)
  have HRED : Hid (redR op t last x = if fchk op (fun _ => chkA 8 x) 1 ≠ 0 then (zeroA, fchk op (fun _ => chkA 8 x) 1) else if x.shape.length = 0 then (x, 0) else if sizeE (outS last x.shape) ≠ 0 then (zeroA, sizeE (outS last x.shape))
      else filR (outS last x.shape) (sizeV (outS last x.shape)).toNat (redG op t last x)) := rfl
  have HCK : Hid (fchk op (fun _ => chkA 8 x) 1 = 0 → chkA 8 x = 0) := fun h => fchk_zero h
  obtain ⟨RR, hRR⟩ : ∃ RR, redR op t last x = RR := ⟨_, rfl⟩
  rw [hRR] at HRED ⊢
  generalize fchk op (fun _ => chkA 8 x) 1 = EC at *
  have q0 := I.q0
  have q1 := I.q1
  have HI := hide I
  have HX := hide hx
  have HIN := hide hin
  have HR := hide (And.intro R (And.intro hS hC))
  clear hx hin I R hc hRR hS hC
  go_enter Tryd.func13, Tryd.ntmps13
  go_wp2_with fail
  refine CK.mono ?_
  rintro e w1 ⟨rfl, hb1⟩
  clear CK q0 q1 e2
  have I1 := HI.out.next hb1
  have q0 := I1.q0
  have q1 := I1.q1
  have p0 := I1.p0
  have p1 := I1.p1
  have f0 := I1.f0
  have f1 := I1.f1
  have HI1 := hide I1
  clear I1 hb1 HI
  by_cases hE : EC = 0
  · subst hE
    have HRED2 := hide (HRED.out.trans (if_neg (fun h => h rfl)))
    by_cases hS0 : S = 0
    · subst hS0
      have HE : Hid (RR = (x, 0)) := HRED2.out.trans (if_pos HR.out.2.1.symm)
      have HT := hide (HI1.out.put (.slice a1 0 c1) (.slice a2 C c2))
      have HFI := hide HI1.out.fin
      clear HCK HIN HR HRED HRED2
      go_wp2
      exact bodyPost_ret (v := .tuple #[.agg #[.slice a1 0 c1, .slice a2 C c2], .int .i64 0]) (by simp [results, Tryd.results13, go_sem, HT.out.1, HT.out.2]) rfl (gives2z0 HE.out ((HX.out.mono (Nat.zero_le _) (HFI.out _ _))) (HFI.out _ _))
    · have hchk := HCK.out rfl
      obtain ⟨hsE, hsV⟩ := chk_size hchk
      have hS8 : S ≤ 8 := by rw [HR.out.2.1]; exact (fine_cases hsE).1
      have HRED3 := hide (HRED2.out.trans (if_neg (by rw [← HR.out.2.1]; exact hS0)))
      have hSz : ((S : Int) == 0) = false := beq_eq_false_iff_ne.2 (by omega)
      have CX := raxis a1 a2 S c1 C c2 last w1 (by omega) (by omega)
      have hK := axN_lt (last := last) (S := S) (by omega)
      have HAX := hide (show axN last S = axN last x.shape.length by rw [HR.out.2.1])
      have HLG := hide (show lgI last x.shape = gI x.shape (axN last S) by rw [HR.out.2.1]; exact lgI_ax _ _)
      have HOG : Hid (∀ i, i < S → i ≠ axN last S → gI (outS last x.shape) (cntN (axN last S) i) = gI x.shape i) := fun i h1 h2 => by
        rw [HR.out.2.1] at h1 h2 ⊢
        exact outS_gI (by omega) h1 h2
      have HOL : Hid ((outS last x.shape).length = S - 1) := by unfold Hid; rw [outS_len, HR.out.2.1]
      generalize axN last S = K at *
      have HCH := hide (And.intro hchk (And.intro hsE hsV))
      clear hchk hsE hsV HCK HRED HRED2
      go_wp2_with fail
      refine CX.mono ?_
      rintro e w2 ⟨rfl, hb2⟩
      clear CX
      have I2 := HI1.out.next hb2
      obtain ⟨W4, e4⟩ : ∃ W4, w2.alloc (.cells #[.slice none 0 0, .slice none 0 0] 25) = W4 := ⟨_, rfl⟩
      have B4 : Below w2.heap.size w2 W4 := by rw [← e4]; exact one_alloc _ _
      have z4 : W4.heap.size = w2.heap.size + 1 := by rw [← e4]; simp
      have I4 := I2.next B4
      have hs2 := I2.size
      obtain ⟨OS, hOS⟩ : ∃ OS, outS last x.shape = OS := ⟨_, rfl⟩
      have HOS := hide hOS
      rw [hOS] at HOG HOL HRED3
      have HG0 : Hid (GrowI W4 w2.heap.size OS 0 (.slice none 0 0) W4) := GrowI.new (by rw [← e4]; exact cell_new0 w2 _ 25 0 _ rfl) (by rw [← e4]; exact cell_new0 w2 _ 25 1 _ rfl) (by rw [← e4]; exact frozen_new w2 _ 25 0) (by rw [← e4]; exact frozen_new w2 _ 25 1)
      have HZ4 : Hid (W4.heap.size = w2.heap.size + 1 ∧ w.heap.size + 2 ≤ w2.heap.size) := ⟨z4, hs2⟩
      have HI4 := hide I4
      have HK4 : Hid (∀ (k : Nat) (v : Value) (wr : World), GrowI W4 w2.heap.size OS k v wr → In2 w (.slice a1 S c1) (.slice a2 C c2) wr) := fun k v wr h => HI4.out.belowS (h.below (B := w2.heap.size) (Nat.le_refl _) (by omega)) (by omega)
      have HE4 := hide e4
      clear I2 I4 B4 z4 hs2 p0 p1 f0 f1 e4 q0 q1 hb2 hOS HI1
      go_wp2
      rw [HE4.out]
      clear HE4
      go_loopg [13] S (fun g i wr => ∃ (k : Nat) (v : Value), g + k = S ∧ i = .int .i64 (k : Int) ∧ GrowI W4 w2.heap.size OS (cntN K k) v wr)
      case atStart => exact ⟨0, _, rfl, rfl, by rw [show cntN K 0 = 0 by simp [cntN]]; exact HG0.out⟩
      case round =>
      clear HG0
      obtain ⟨k, v, hg, rfl, hgr⟩ := hrel
      have HGR := hide hgr
      have I5 := HK4.out _ _ _ hgr
      have q0 := I5.q0
      by_cases hlt : k < S
      · by_cases hkk : k = K
        · subst hkk
          have hkz : ((k : Int) == (k : Int)) = true := beq_self_eq_true _
          have HST := hide (cntN_stay k)
          clear I5 hgr
          go_wp2
          go_roundg (S - (k + 1))
          case rel => exact ⟨k + 1, _, by omega, by go_num, by rw [HST.out]; exact HGR.out⟩
          case measure => omega
        · have hkz : ((k : Int) == (K : Int)) = false := beq_eq_false_iff_ne.2 (by omega)
          obtain ⟨bs, os, rfl, hbs, hsc⟩ := row_at HR.out.1 (j := k) (by rw [← HR.out.2.1]; exact hlt)
          have u1 := (I5.bel.cell (p := ⟨bs, os + k, none⟩) hbs).trans hsc
          rw [show x.shape[k]?.getD 0 = gI x.shape k from rfl] at u1
          have HST := hide (cntN_step hkk)
          have hO := HZ4.out
          have hsz : W4.heap.size ≤ wr.heap.size := hgr.io.size
          have d0 := hgr.c0
          have d2 := hgr.f0
          have HSTEP := hide (take_map_step OS (cntN K k) (by rw [HOL.out]; unfold cntN; split <;> omega))
          rw [HOG.out k hlt hkk] at HSTEP
          have hcn : cntN K k ≤ k := by unfold cntN; split <;> omega
          generalize cntN K k = j at *
          generalize gI x.shape k = z at *
          have hal : (wr.alloc (.cells #[.int .i64 z] 3)).cell? ⟨w2.heap.size, 0, none⟩ = some v := ((one_alloc wr _).cell (p := ⟨w2.heap.size, 0, none⟩) (by show w2.heap.size < wr.heap.size; omega)).trans d0
          have HOWN : Hid ((wr.alloc (.cells #[.int .i64 z] 3)).drew.ownsRow W4.heap.size 3 1 v j ((OS.take j).map (Value.int .i64))) := hgr.own.alloc (.cells #[.int .i64 z] 3)
          have HNEWS : Hid (∀ i u, [Value.int .i64 z][i]? = some u → (wr.alloc (.cells #[.int .i64 z] 3)).drew.cell? ((⟨wr.heap.size, 0, none⟩ : Addr).add i) = some u) := by
            intro i u hu
            rw [add_off, Nat.zero_add]
            exact cell_new0 wr _ 3 i u (by simpa using hu)
          have HONE : Hid (∀ u ∈ [Value.int .i64 z], u.oneCell' = true) := by
            intro u hu
            simp at hu
            subst hu
            rfl
          have HMAX : Hid (j + 1 ≤ maxLen ∧ (j + 1) * 8 ≤ 140737488355328 ∧ W4.heap.size ≤ (wr.alloc (.cells #[.int .i64 z] 3)).drew.heap.size) := by
            refine ⟨by unfold maxLen; omega, by omega, ?_⟩
            have : (wr.alloc (.cells #[.int .i64 z] 3)).drew.heap.size = wr.heap.size + 1 := by simp
            omega
          have HAB : Hid (Below W4.heap.size wr ((wr.alloc (.cells #[.int .i64 z] 3)).drew)) := (((Below.refl _ _).alloc (by show _ ≤ wr.heap.size; omega) _)).drew
          have hO1 : Hid (w2.heap.size < W4.heap.size) := by unfold Hid; omega
          clear I5 hgr hO hsz hsc hbs
          go_wp2
          go_region_law (refine step_append_own rfl (.tmp 49) (.tmp 55) 22 rfl W4.heap.size 3 i3 (.int .i64 0) 1 8 Tryd.underlying22 hi3 hz30 hz31 hz32 rfl (by decide) v j ((OS.take j).map (Value.int .i64)) rfl HOWN.out ⟨wr.heap.size, 0, none⟩ 1 1 [.int .i64 z] rfl rfl HNEWS.out HONE.out HMAX.out.1 HMAX.out.2.1 HMAX.out.2.2 ?_; intro v' w1 hown1 hb1; obtain ⟨g, cp, rfl, -⟩ := owns_form1' hown1 (Nat.succ_pos j); have dd1 := (HAB.out.trans hb1).cell (p := ⟨w2.heap.size, 0, none⟩) hO1.out |>.trans d0; have dd3 := (HAB.out.trans hb1).frozen (p := ⟨w2.heap.size, 0, none⟩) hO1.out |>.trans d2)
          all_goals
            have hown2 : w1.ownsRow W4.heap.size 3 1 (.slice (some ⟨g, 0, none⟩) (j + 1) cp) (j + 1) ((OS.take (j + 1)).map (Value.int .i64)) := by rw [HSTEP.out]; exact hown1
            have HNX := hide (HGR.out.step hO1.out (HAB.out.trans hb1) hown2)
            clear hown1 hown2 hb1 dd1 dd3 HOWN HNEWS HONE HMAX HAB HGR HSTEP hal d0 d2 u1
            go_wp2
            go_roundg (S - (k + 1))
            case rel => exact ⟨k + 1, _, by omega, by go_num, by rw [HST.out]; exact HNX.out⟩
            case measure => omega
      have hke : k = S := by omega
      subst hke
      obtain ⟨M, hM⟩ : ∃ M, k = M + 1 := ⟨k - 1, by omega⟩
      have HM := hide hM
      have hcn : cntN K k = M := by rw [cntN_end hK]; omega
      have hown : wr.ownsRow W4.heap.size 3 1 v OS.length (OS.map (Value.int .i64)) := by
        have h := hgr.own
        rw [hcn, show M = OS.length by rw [HOL.out]; omega, List.take_length] at h
        exact h
      obtain ⟨al, cl, rfl, RL⟩ := owns_row OS (by rw [HOL.out]; omega) hown
      have hOM : OS.length = M := by rw [HOL.out]; omega
      have CZ := rsize_any OS al cl wr RL
      have d0 := hgr.c0
      rw [hOM] at CZ d0
      have HG1 := hide (And.intro d0 (And.intro hgr.c1 hgr.f1))
      have HI5 := hide I5
      have HRL := hide (And.intro RL hOM)
      obtain ⟨SE, hSE⟩ : ∃ SE, sizeE OS = SE := ⟨_, rfl⟩
      obtain ⟨SV, hSV⟩ : ∃ SV, sizeV OS = SV := ⟨_, rfl⟩
      have HSE := hide (And.intro hSE hSV)
      rw [hSE, hSV] at CZ HRED3
      have hO := HZ4.out
      have HZ5 : Hid (W4.heap.size ≤ wr.heap.size) := hgr.io.size
      clear hown hcn hgr RL I5 hSE hSV hM hOM HGR HK4 HI4 HOG HOL hg hlt
      go_wp2_with fail
      refine CZ.mono ?_
      rintro e w5 ⟨rfl, hw5⟩
      subst hw5
      clear CZ d0 q0
      have p0 := HI5.out.p0
      have p1 := HI5.out.p1
      have f0 := HI5.out.f0
      have f1 := HI5.out.f1
      by_cases hSE0 : ¬ SE = 0
      · have gE : (SE == 0) = false := beq_eq_false_iff_ne.2 hSE0
        have HE : Hid (RR = (zeroA, SE)) := HRED3.out.trans (if_pos hSE0)
        have HT := hide (HI5.out.put (.slice none 0 0) (.slice none 0 0))
        have HFI := hide HI5.out.fin
        clear HIN HR HX HRL HSE HCH HOS HG1 HRED3
        go_wp2
        exact bodyPost_ret (v := .tuple #[.agg #[.slice none 0 0, .slice none 0 0], .int .i64 SE]) (by simp [results, Tryd.results13, go_sem, HT.out.1, HT.out.2]) rfl (gives2z0 HE.out (zeroA_in _ _ _) (HFI.out _ _))
      have hSE1 : SE = 0 := Classical.not_not.1 hSE0
      clear hSE0
      subst hSE1
      have HRED4 := hide (HRED3.out.trans (if_neg (fun h => h rfl)))
      obtain ⟨N, rfl⟩ : ∃ N : Nat, SV = (N : Int) := ⟨SV.toNat, by have := (sizeV_le HSE.out.1).1; rw [HSE.out.2] at this; omega⟩
      rw [Int.toNat_natCast] at HRED4
      have hN16 : N ≤ 16384 := by have := (sizeV_le HSE.out.1).2; rw [HSE.out.2] at this; omega
      obtain ⟨G, hG⟩ : ∃ G, redG op t last x = G := ⟨_, rfl⟩
      have HGG := hide hG
      rw [hG] at HRED4
      have HG5 : ∀ T, GrowC w5 w2.heap.size (.slice al M cl) T 0 (.slice none 0 0) w5 := fun T => GrowC.new HG1.out.1 HG1.out.2.1 HG1.out.2.2
      have HG5 := hide HG5
      have HZZ : Hid (W4.heap.size = w2.heap.size + 1 ∧ w.heap.size + 2 ≤ w2.heap.size ∧ W4.heap.size ≤ w5.heap.size) := ⟨HZ4.out.1, HZ4.out.2, HZ5.out⟩
      clear HRED3 HG1 HZ4 HZ5 hO hG p0 p1 f0 f1
      go_wp2
      go_loopg [16] N (fun g i wr => ∃ (j : Nat) (v : Value) (T : Nat → Value × Value × Value), g + j = N ∧ i = .int .i64 (j : Int) ∧ GrowC w5 w2.heap.size (.slice al M cl) T j v wr ∧ firstUp (fun i => (G i).2) j = 0 ∧ ∀ i, i < j → CeIn (ArIn n lo w) lo w (G i).1 (T i).1 (T i).2.1 (T i).2.2)
      case atStart => exact ⟨0, _, fun _ => (.int .i64 0, .int .i64 0, .int .i64 0), rfl, rfl, HG5.out _, rfl, fun i hi => absurd hi (by omega)⟩
      case round =>
      clear HG5
      obtain ⟨j, v, T, hg, rfl, hgr, hfu, hce⟩ := hrel
      have HGR := hide hgr
      have hz := HZZ.out
      have I6 : In2 w (.slice a1 k c1) (.slice a2 C c2) wr := HI5.out.belowS (hgr.below (B := w2.heap.size) (Nat.le_refl _) (by omega)) (by omega)
      have HFC := hide (And.intro hfu hce)
      clear hfu hce
      by_cases hlt : ¬ j < N
      · have hte : j = N := by omega
        subst hte
        have HE : Hid (RR = (.mk OS (mkCs j fun i => (G i).1), 0)) := by
          have h3 := HRED4.out
          unfold filR at h3
          rw [HFC.out.1, if_pos rfl] at h3
          exact h3
        obtain ⟨g2, cp2, rfl, -⟩ := owns_cellsT T hgr.own
        have d0' := hgr.c0
        have d1' := hgr.c1
        have p0 := I6.p0
        have p1 := I6.p1
        have f0 := I6.f0
        have f1 := I6.f1
        have HT := hide (I6.put (.slice al M cl) (.slice g2 j cp2))
        have HFIN : Hid (∀ u v, Gives2 (n + 1) 0 RR.1 RR.2 w (.returned (.tuple #[.agg #[.slice al M cl, .slice g2 j cp2], .int .i64 0])) ((wr.setCell ⟨w.heap.size + 1, 0, none⟩ u).setCell ⟨w.heap.size + 1, 1, none⟩ v)) := by
          intro u v
          refine gives2z0 HE.out ?_ (I6.fin u v)
          have K1 : Keeps W4.heap.size w5 wr := ⟨hgr.io.size, fun b h1 h2 => hgr.keep b h2 (by omega)⟩
          have K2 : Keeps W4.heap.size wr ((wr.setCell ⟨w.heap.size + 1, 0, none⟩ u).setCell ⟨w.heap.size + 1, 1, none⟩ v) := (keeps_two wr w.heap.size u v).mono (by omega)
          have RF := (((HRL.out.1.keeps K1).keeps K2).low (Nat.zero_le _))
          obtain ⟨a', c', he, -, hC⟩ := cells_of_own (n := n) (lo := lo) (w0 := w) (cs := mkCs j fun i => (G i).1) (T := T) (by rw [mkCs_len]; exact owns_keeps hgr.own K2 (by omega)) (I6.fin u v) (fun i hi => by rw [mkCs_len] at hi; rw [mkCs_at _ _ _ hi]; exact HFC.out.2 i hi)
          rw [mkCs_len] at he
          simp only [Value.slice.injEq, true_and] at he
          rw [he.1]
          exact arIn_mk (x := .mk OS (mkCs j fun i => (G i).1)) RF (by show (mkCs _ _).length ≤ _; rw [mkCs_len]; omega) hC HRL.out.2 (by show (mkCs _ _).length = _; rw [mkCs_len])
        clear I6 hgr HGR HI5 HE HRED4 HFC HSE HCH HOS HGG HIN HX HRL HLG HAX
        go_wp2
        exact bodyPost_ret (v := .tuple #[.agg #[.slice al M cl, .slice g2 j cp2], .int .i64 0]) (by simp [results, Tryd.results13, go_sem, HT.out.1, HT.out.2]) rfl (HFIN.out _ _)
      have hlt := Classical.not_not.1 hlt
      have d0 := hgr.c0
      have K1 : Keeps W4.heap.size w5 wr := ⟨hgr.io.size, fun b h1 h2 => hgr.keep b h2 (by omega)⟩
      have C7 := rplaces_any OS (j : Int) al cl wr (HRL.out.1.keeps K1)
      rw [HRL.out.2] at C7
      have HI6 := hide I6
      clear I6 hgr K1
      go_wp2_with fail
      refine C7.mono ?_
      clear C7
      rintro e w6 ⟨hb6, -, -, h4⟩
      obtain ⟨b, rfl, RD, -, -⟩ := h4 HSE.out.1 (by omega) (by rw [HSE.out.2]; omega)
      rw [HRL.out.2]
      clear h4 d0
      obtain ⟨D, hD⟩ : ∃ D, digits OS (j : Int) = D := ⟨_, rfl⟩
      have hDl : D.length = M := by rw [← hD, digits_length, HRL.out.2]
      rw [hD] at RD
      have hKM : K ≤ M := by have := HM.out; omega
      have hM8 : M ≤ 8 := by have := HM.out; omega
      have P1 := fun W => part_h (P := Tryd.prog) Tryd.underlying22 size3 (some ⟨b, 0, none⟩) M M K (K : Int) rfl hKM W
      have P2 := fun W => part_l (P := Tryd.prog) Tryd.underlying22 size3 (some ⟨b, 0, none⟩) M M K (K : Int) rfl hKM W
      obtain ⟨DK, hDK⟩ : ∃ DK, D.take K = DK := ⟨_, rfl⟩
      obtain ⟨DT, hDT⟩ : ∃ DT, D.drop K = DT := ⟨_, rfl⟩
      have RK : Row wr.heap.size w6 (some ⟨b, 0, none⟩) DK := by
        have h := RD.part 0 (M + 1) K (by omega) (by omega)
        rw [List.drop_zero, hDK] at h
        simpa [subA, Addr.add] using h
      have RT : Row wr.heap.size w6 (subA (some ⟨b, 0, none⟩) K M 1) DT := by
        have h := RD.part K M (M - K) (by omega) (by omega)
        rw [List.take_of_length_le (by rw [List.length_drop]; omega), hDT] at h
        exact h
      have HLS : Hid (Lies w6 (some ⟨b, 0, none⟩) (DK.map (Value.int .i64))) := RK.lies
      have hsl : (DK.map (Value.int .i64)).length = K * 1 := by rw [List.length_map, ← hDK, List.length_take]; omega
      have HFU : Hid (fullL K D = DK ++ [0] ++ DT ∧ (fullL K D).length = k ∧ DT.length = M - K) := ⟨by rw [← hDK, ← hDT]; rfl, by rw [fullL_len, hDl]; exact HM.out.symm, by rw [← hDT, List.length_drop, hDl]⟩
      have HDD := hide (And.intro hD hDl)
      have HRT := hide RT
      have HB6 := hide hb6
      clear RK RT RD hD hDl hb6 hDK hDT
      go_wp2_with (at_builtin; refine wpList_append_any rfl _ _ 22 rfl w6.heap.size 3 i3 (.int .i64 0) 1 8 Tryd.underlying22 hi3 hz30 hz31 hz32 rfl (by decide) (.slice none 0 0) 0 [] rfl (World.ownsRow_nil _ _ _ _) (some ⟨b, 0, none⟩) K M (DK.map (Value.int .i64)) rfl hsl HLS.out ?c3 ?c4 (Nat.le_refl _) ?_)
      case c3 => unfold maxLen; omega
      case c4 => omega
      intro v7 w7 hown7 hb7
      have OWN := hown7.alloc (.cells #[.int .i64 0] 3)
      have HNW : Hid (∀ i u, [Value.int .i64 0][i]? = some u → (w7.alloc (.cells #[.int .i64 0] 3)).cell? ((⟨w7.heap.size, 0, none⟩ : Addr).add i) = some u) := by
        intro i u hu
        rw [add_off, Nat.zero_add]
        exact cell_new0 w7 _ 3 i u (by simpa using hu)
      have B7 := hb7.trans ((one_alloc w7 (.cells #[.int .i64 0] 3)).mono hb7.size)
      have HZ7 : Hid (w6.heap.size ≤ (w7.alloc (.cells #[.int .i64 0] 3)).heap.size) := B7.size
      have HB7 := hide B7
      clear HLS hsl hown7 hb7 B7
      go_wp2_with (at_builtin; refine wpList_append_B rfl _ _ 22 rfl w6.heap.size 3 i3 (.int .i64 0) 1 8 Tryd.underlying22 hi3 hz30 hz31 hz32 rfl (by decide) _ _ _ rfl OWN ⟨w7.heap.size, 0, none⟩ 1 1 [.int .i64 0] rfl rfl HNW.out ?c2 ?c3 ?c4 HZ7.out ?_)
      case c2 =>
        intro u hu
        simp at hu
        subst hu
        rfl
      case c3 => unfold maxLen; omega
      case c4 => omega
      intro v8 w8 hown8 hb8
      have HB8 := hide (HB7.out.trans hb8)
      have HLT : Hid (Lies w8 (subA (some ⟨b, 0, none⟩) K M 1) (DT.map (Value.int .i64))) := (HRT.out.next HB8.out).lies
      have hsl : (DT.map (Value.int .i64)).length = (M - K) * 1 := by rw [List.length_map, HFU.out.2.2]; omega
      clear OWN HNW HZ7 HB7 hb8
      go_wp2_with (at_builtin; refine wpList_append_any rfl _ _ 22 rfl w6.heap.size 3 i3 (.int .i64 0) 1 8 Tryd.underlying22 hi3 hz30 hz31 hz32 rfl (by decide) _ _ _ rfl hown8 (subA (some ⟨b, 0, none⟩) K M 1) (M - K) (M - K) (DT.map (Value.int .i64)) rfl hsl HLT.out ?c3 ?c4 HB8.out.size ?_)
      case c3 => unfold maxLen; omega
      case c4 => omega
      intro v9 w9 hown9 hb9
      obtain ⟨F, hF⟩ : ∃ F, fullL K D = F := ⟨_, rfl⟩
      have hFl : F.length = k := by rw [← hF]; exact HFU.out.2.1
      have hownF : w9.ownsRow w6.heap.size 3 1 v9 F.length (F.map (Value.int .i64)) := by
        have e1 : K + 1 + (M - K) = F.length := by rw [hFl, HM.out]; omega
        have e2 : F.map (Value.int .i64) = DK.map (Value.int .i64) ++ [.int .i64 0] ++ DT.map (Value.int .i64) := by rw [← hF, HFU.out.1]; simp
        rw [← e1, e2]
        simpa using hown9
      obtain ⟨aF, cF, rfl, RF⟩ := owns_rowE F (by rw [hFl]; omega) hownF
      rw [hFl]
      have B9 : Below wr.heap.size wr w9 := HB6.out.trans ((HB8.out.trans hb9).mono HB6.out.size)
      have HFF := hide (And.intro hF (And.intro hFl RF))
      clear hown9 hb9 hownF RF hF hFl HLT hsl HB8 P1 P2 HRT HB6 hown8
      have I9 : In2 w (.slice a1 k c1) (.slice a2 C c2) w9 := HI6.out.next B9
      obtain ⟨LG, hLG⟩ : ∃ LG, lgN last x.shape = LG := ⟨_, rfl⟩
      have hx0 : 0 < x.shape.length := by rw [← HR.out.2.1, HM.out]; omega
      have hlin := lines_in (last := last) hx0 HCH.out.2.1 (C := C) (by rw [HR.out.2.2]; exact HCH.out.2.2) (by rw [HOS.out]; exact HSE.out.1) (m := N) (by rw [HOS.out]; exact HSE.out.2) (by omega)
      rw [hLG] at hlin
      obtain ⟨PP, hPP⟩ : ∃ PP : Nat → Nat, PP = fun i => j * nxN last x.shape + i * stN last N := ⟨_, rfl⟩
      have hPC : ∀ i, i < LG → PP i < C := fun i hi => by rw [hPP]; exact hlin.2 j i hlt hi
      have hpp : ∀ i, i < LG → plcV x.shape (F.set K (i : Int)) = (PP i : Int) ∧ PP i < C := fun i hi => by
        refine ⟨?_, hPC i hi⟩
        have h := red_place (last := last) (s := x.shape) (m := N) (i := j) (j := i) hx0 HCH.out.2.1 (by rw [HOS.out]; exact HSE.out.1) (by rw [HOS.out]; exact HSE.out.2) hlt (by rw [hLG]; exact hi)
        rw [HOS.out, ← HAX.out, HDD.out.1, HFF.out.1] at h
        rw [h, hPP]
      have hlgK : gI x.shape K = (LG : Int) := by
        have h := lgI_nonneg (last := last) (fine_cases HCH.out.2.1).2.1 hx0
        rw [← HLG.out, ← hLG]
        unfold lgN
        omega
      obtain ⟨LL, hLL⟩ : ∃ LL, mkCs LG (fun i => cAt x.cells (PP i)) = LL := ⟨_, rfl⟩
      have hLLl : LL.length = LG := by rw [← hLL, mkCs_len]
      have hGj : G j = rowR op t LL := by
        rw [← HGG.out, ← hLL, hPP]
        unfold redG lnC
        rw [hLG, HOS.out, HSE.out.2, Int.toNat_natCast]
      have hLin : ∀ i, i < LL.length → In64 (cAt LL i).2.1 := fun i hi => by
        rw [hLLl] at hi
        rw [← hLL, mkCs_at _ _ _ hi]
        exact HIN.out _ (by rw [← HR.out.2.2]; exact hPC i hi)
      have CA : Hid (∀ W, Below w9.heap.size w9 W → Calls Tryd.prog 39 #[.agg #[.slice a1 k c1, .slice a2 C c2], .slice aF k cF, .int .i64 (K : Int), .int .i64 (LG : Int)] W fun e w' => (∃ a' c', e = .returned (.slice a' LG c') ∧ CellsO n lo w w' LL a') ∧ Below w9.heap.size w9 w' ∧ Below W.heap.size W w') := fun W hW => by
        have hbW : Below w.heap.size w W := I9.bel.trans (hW.mono I9.bel.size)
        refine (rline (cA := cF) HX.out hbW (Nat.le_trans hlo hbW.size) (HFF.out.2.2.next hW) HFF.out.2.1 hK hS8 hlin.1 hpp).mono ?_
        rintro e w' ⟨⟨a', c', rfl, hO⟩, hb'⟩
        exact ⟨⟨a', c', rfl, by rw [← hLL]; exact hO⟩, hW.trans (hb'.mono hW.size), hb'⟩
      have CB : Hid (∀ W a' c', Below w9.heap.size w9 W → CellsO n lo w W LL a' → Calls Tryd.prog 38 #[.int .i64 op, .bool t, .slice a' LG c'] W fun e w' => (∃ (y0 y1 : Int) (ya : Option Addr) (ym yc : Nat), e = .returned (.tuple #[.agg #[.int .i64 y0, .int .i64 y1, .slice ya ym yc], .int .i64 (G j).2]) ∧ CeIn (ArIn n lo w) lo w (G j).1 (.int .i64 y0) (.int .i64 y1) (.slice ya ym yc)) ∧ Below w9.heap.size w9 w' ∧ Below W.heap.size W w') := fun W a' c' hW hO => by
        have hbW : Below w.heap.size w W := I9.bel.trans (hW.mono I9.bel.size)
        have C := rrow_any (op := op) (t := t) (cap := c') hO hbW (by rw [hLLl]; exact hlin.1) hLin
        rw [hLLl, ← hGj] at C
        refine C.mono ?_
        rintro e w' ⟨⟨v0, v1, v2, h1, h2⟩, hb'⟩
        obtain ⟨rfl, rfl, ya, yc, rfl, -⟩ := id h2
        exact ⟨⟨_, _, _, _, _, h1, h2⟩, hW.trans (hb'.mono hW.size), hb'⟩
      generalize hGE : (G j).2 = EG at CB
      obtain ⟨bs, os, rfl, hbs, hsc⟩ := row_at HR.out.1 (j := K) (by rw [← HR.out.2.1]; exact hK)
      have u0 := (I9.bel.cell (p := ⟨bs, os + K, none⟩) hbs).trans hsc
      rw [show x.shape[K]?.getD 0 = gI x.shape K from rfl, hlgK] at u0
      have q0 := I9.q0
      have q1 := I9.q1
      have hbs9 : bs < w9.heap.size := Nat.lt_of_lt_of_le hbs I9.bel.size
      have hw9 : w.heap.size < w9.heap.size := by have := I9.size; omega
      have KS : Hid (∀ W, Below w9.heap.size w9 W → (Below w9.heap.size w9 W ∧ W.cell? ⟨w.heap.size, 0, none⟩ = some (.slice (some ⟨bs, os, none⟩) k c1) ∧ W.cell? ⟨w.heap.size, 1, none⟩ = some (.slice a2 C c2) ∧ W.cell? ⟨bs, os + K, none⟩ = some (.int .i64 (LG : Int)))) := fun W h =>
        ⟨h, (h.cell (p := ⟨w.heap.size, 0, none⟩) hw9).trans q0, (h.cell (p := ⟨w.heap.size, 1, none⟩) hw9).trans q1, (h.cell (p := ⟨bs, os + K, none⟩) hbs9).trans u0⟩
      have HD0 : Hid (Below w9.heap.size w9 w9.drew) := (Below.refl _ _).drew
      have HD1 : Hid (Below w9.heap.size w9 (w9.alloc (.cells #[.int .i64 0, .int .i64 0, .slice none 0 0] 43)).drew) := (one_alloc _ _).drew
      have HD2 : Hid (Below w9.heap.size w9 (w9.drew.alloc (.cells #[.int .i64 0, .int .i64 0, .slice none 0 0] 43))) := (Below.refl _ _).drew.alloc (Nat.le_refl _) _
      have HAL : Hid (∀ W o, Below w9.heap.size w9 W → Below w9.heap.size w9 (W.alloc o)) := fun W o h => h.alloc h.size o
      have HSET : Hid (∀ W b u0 u1 u2, Below w9.heap.size w9 W → w9.heap.size ≤ b → Below w9.heap.size w9 (((W.setCell ⟨b, 0, none⟩ u0).setCell ⟨b, 1, none⟩ u1).setCell ⟨b, 2, none⟩ u2)) := fun W b u0 u1 u2 h hb => below_set3 h hb
      have HLE : Hid (w9.heap.size ≤ w9.heap.size) := Nat.le_refl _
      have hKz : (K : Int) < (k : Int) := by omega
      have HB9 := hide (And.intro B9 I9)
      clear u0 q0 q1 hsc hlgK hPP hPC hpp hLL hLin hlin hLG B9 I9 hbs hbs9 hw9
      go_upto_region 24 with fail
      go_region_held3 (fun W => Below w9.heap.size w9 W ∧ W.cell? ⟨w.heap.size, 0, none⟩ = some (.slice (some ⟨bs, os, none⟩) k c1) ∧ W.cell? ⟨w.heap.size, 1, none⟩ = some (.slice a2 C c2) ∧ W.cell? ⟨bs, os + K, none⟩ = some (.int .i64 (LG : Int)))
        (first | with_reducible exact KS.out _ HD0.out | with_reducible exact KS.out _ HD1.out | with_reducible exact KS.out _ HD2.out | with_reducible exact KS.out _ (by with_reducible assumption) | with_reducible exact KS.out _ (HAL.out _ _ (by with_reducible assumption)) | with_reducible exact KS.out _ (HSET.out _ _ _ _ _ (by with_reducible assumption) HLE.out) | with_reducible exact KS.out _ (HSET.out _ _ _ _ _ (by with_reducible assumption) (Below.size (by with_reducible assumption))) | with_reducible exact KS.out _ (HSET.out _ _ _ _ _ (HAL.out _ _ (by with_reducible assumption)) (Below.size (by with_reducible assumption))))
        (first | (go_at_call 39; first | ((with_reducible refine (CA.out _ HD0.out).mono ?_); rintro e wa ⟨⟨a', c', rfl, hO⟩, ga, hba⟩; have ZA : True := trivial) | ((with_reducible refine (CA.out _ HD1.out).mono ?_); rintro e wa ⟨⟨a', c', rfl, hO⟩, ga, hba⟩; have ZA := (Zc.new w9 (.int .i64 0) (.int .i64 0) (.slice none 0 0)).drew.next hba) | ((with_reducible refine (CA.out _ HD2.out).mono ?_); rintro e wa ⟨⟨a', c', rfl, hO⟩, ga, hba⟩; have ZA := (show Zc (w9.drew.alloc (.cells #[.int .i64 0, .int .i64 0, .slice none 0 0] 43)) w9.heap.size (.int .i64 0) (.int .i64 0) (.slice none 0 0) from Zc.new w9 _ _ _).next hba)) | (go_at_call 38; first | ((with_reducible refine (CB.out _ _ _ ga hO).mono ?_); rintro e wb ⟨⟨y0, y1, ya, ym, yc, rfl, hce⟩, gb, hbb⟩; first | (have ZB := ZA.next hbb; obtain ⟨-, n0, n1', n2, n3, n4, n5⟩ := ZA.next hbb) | (obtain ⟨-, n0, n1', n2, n3, n4, n5⟩ := Zc.new wb (.int .i64 y0) (.int .i64 y1) (.slice ya ym yc))) | ((with_reducible refine (CB.out _ _ _ (HAL.out _ _ ga) (hO.next (one_alloc _ _))).mono ?_); rintro e wb ⟨⟨y0, y1, ya, ym, yc, rfl, hce⟩, gb, hbb⟩; have ZB := (Zc.new wa (.int .i64 0) (.int .i64 0) (.slice none 0 0)).next hbb; obtain ⟨-, n0, n1', n2, n3, n4, n5⟩ := (Zc.new wa (.int .i64 0) (.int .i64 0) (.slice none 0 0)).next hbb)))
      all_goals
        first
          | (have ZN := ZB.set (.int .i64 y0) (.int .i64 y1) (.slice ya ym yc)
             obtain ⟨wc, hwc⟩ : ∃ wc, ((wb.setCell ⟨w9.heap.size, 0, none⟩ (.int .i64 y0)).setCell ⟨w9.heap.size, 1, none⟩ (.int .i64 y1)).setCell ⟨w9.heap.size, 2, none⟩ (.slice ya ym yc) = wc := ⟨_, rfl⟩
             have Bc : Below w9.heap.size w9 wc := by rw [← hwc]; exact below_set3 gb (Nat.le_refl _)
             rw [hwc] at ZN ⊢
             clear hwc ZB)
          | (have ZN := ZB.set (.int .i64 y0) (.int .i64 y1) (.slice ya ym yc)
             obtain ⟨wc, hwc⟩ : ∃ wc, ((wb.setCell ⟨wa.heap.size, 0, none⟩ (.int .i64 y0)).setCell ⟨wa.heap.size, 1, none⟩ (.int .i64 y1)).setCell ⟨wa.heap.size, 2, none⟩ (.slice ya ym yc) = wc := ⟨_, rfl⟩
             have Bc : Below w9.heap.size w9 wc := by rw [← hwc]; exact below_set3 gb ga.size
             rw [hwc] at ZN ⊢
             clear hwc ZB)
          | (have ZN := Zc.new wb (.int .i64 y0) (.int .i64 y1) (.slice ya ym yc)
             obtain ⟨wc, hwc⟩ : ∃ wc, wb.alloc (.cells #[.int .i64 y0, .int .i64 y1, .slice ya ym yc] 43) = wc := ⟨_, rfl⟩
             have Bc : Below w9.heap.size w9 wc := by rw [← hwc]; exact gb.alloc gb.size _
             rw [hwc] at ZN ⊢
             clear hwc)
        have I10 := HB9.out.2.next Bc
        have Bw : Below wr.heap.size wr wc := HB9.out.1.trans (Bc.mono HB9.out.1.size)
        have c0' := ZN.c0
        have c1' := ZN.c1
        have c2' := ZN.c2
        have HCE := hide hce
        have HBW := hide Bw
        have HI10 := hide I10
        have hzl := ZN.lt
        clear ZN hce gb hbb ga hba hO n0 n1' n2 n3 n4 n5 CA CB KS HD0 HD1 HD2 HAL HSET HLE I10 Bw Bc HFF hGj HB9
        by_cases hE0 : EG = 0
        · subst hE0
          have d1 := (HBW.out.cell (p := ⟨w2.heap.size, 1, none⟩) (by show w2.heap.size < _; have := HGR.out.io.size; omega)).trans HGR.out.c1
          have d2 := (HBW.out.frozen (p := ⟨w2.heap.size, 1, none⟩) (by show w2.heap.size < _; have := HGR.out.io.size; omega)).trans HGR.out.f1
          obtain ⟨T', hT'⟩ : ∃ T' : Nat → Value × Value × Value, T' = fun i => if i = j then (.int .i64 y0, .int .i64 y1, .slice ya ym yc) else T i := ⟨_, rfl⟩
          have hTj : T' j = (.int .i64 y0, .int .i64 y1, .slice ya ym yc) := by rw [hT']; simp
          have hTl : ∀ i, i < j → T i = T' i := fun i hi => by rw [hT']; simp [show i ≠ j by omega]
          have HGR' := hide (HGR.out.congr hTl)
          have OW : wc.ownsRow w5.heap.size 43 3 v j (rowT T' j) := owns_below HGR'.out.own HBW.out
          have OWN := OW.alloc (.cells #[.int .i64 y0, .int .i64 y1, .slice ya ym yc] 43)
          have HNW : Hid (∀ i u, [Value.int .i64 y0, .int .i64 y1, .slice ya ym yc][i]? = some u → (wc.alloc (.cells #[.int .i64 y0, .int .i64 y1, .slice ya ym yc] 43)).cell? ((⟨wc.heap.size, 0, none⟩ : Addr).add i) = some u) := by
            intro i u hu
            rw [add_off, Nat.zero_add]
            exact cell_new0 wc _ 43 i u (by simpa using hu)
          have h5c : w5.heap.size ≤ wc.heap.size := Nat.le_trans HGR.out.io.size HBW.out.size
          have HZ10 := hide (show w5.heap.size ≤ (wc.alloc (.cells #[.int .i64 y0, .int .i64 y1, .slice ya ym yc] 43)).heap.size by simp; omega)
          have HST : Hid (rowT T' (j + 1) = rowT T' j ++ [.int .i64 y0, .int .i64 y1, .slice ya ym yc]) := by unfold Hid; rw [rowT_step, hTj]
          have HAB : Hid (Below w5.heap.size wr (wc.alloc (.cells #[.int .i64 y0, .int .i64 y1, .slice ya ym yc] 43))) := (HBW.out.mono HGR.out.io.size).trans ((one_alloc wc _).mono h5c)
          have hO1 : Hid (w2.heap.size < w5.heap.size) := by unfold Hid; omega
          have HNEX : Hid (firstUp (fun i => (G i).2) (j + 1) = 0 ∧ ∀ i, i < j + 1 → CeIn (ArIn n lo w) lo w (G i).1 (T' i).1 (T' i).2.1 (T' i).2.2) := by
            refine ⟨by rw [firstUp_step HFC.out.1]; exact hGE, fun i hi => ?_⟩
            by_cases h : i = j
            · rw [h, hTj]; exact HCE.out
            · rw [← hTl i (by omega)]; exact HFC.out.2 i (by omega)
          clear OW hT' hTj hTl h5c HFC HCE HI10 HI6 HDD HFU HLG HAX
          go_wp2_with (at_builtin; refine wpList_append_B rfl _ _ 23 rfl w5.heap.size 43 i0 (.agg #[.int .i64 0, .int .i64 0, .slice none 0 0]) 3 40 Tryd.underlying23 hi0 hz00 hz01 hz02 rfl (by decide) _ _ _ rfl OWN ⟨wc.heap.size, 0, none⟩ 1 1 [.int .i64 y0, .int .i64 y1, .slice ya ym yc] rfl rfl HNW.out ?c2 ?c3 ?c4 HZ10.out ?_)
          case c2 =>
            intro u hu
            simp at hu
            rcases hu with rfl | rfl | rfl <;> rfl
          case c3 => unfold maxLen; omega
          case c4 => omega
          intro v' w11 hown1 hb1
          obtain ⟨g, cp, rfl, -⟩ := owns_form hown1 (Nat.succ_pos j)
          have hown2 : w11.ownsRow w5.heap.size 43 3 (.slice (some ⟨g, 0, none⟩) (j + 1) cp) (j + 1) (rowT T' (j + 1)) := by rw [HST.out]; exact hown1
          have dd1 := ((HAB.out.trans hb1).cell (p := ⟨w2.heap.size, 1, none⟩) hO1.out).trans HGR.out.c1
          have dd3 := ((HAB.out.trans hb1).frozen (p := ⟨w2.heap.size, 1, none⟩) hO1.out).trans HGR.out.f1
          have HNX := hide (HGR'.out.step hO1.out (HAB.out.trans hb1) hown2)
          clear hown1 hown2 hb1 OWN HNW HZ10 HST HAB HGR HGR' d1 d2 c0' c1' c2'
          go_wp2
          go_roundg (N - (j + 1))
          case rel => exact ⟨j + 1, _, T', by omega, by go_num, HNX.out, HNEX.out⟩
          case measure => omega
        · have gE : (EG == 0) = false := beq_eq_false_iff_ne.2 hE0
          have HE : Hid (RR = (zeroA, EG)) := by
            have h := firstUp_hit (f := fun i => (G i).2) HFC.out.1 (by show (G j).2 ≠ 0; rw [hGE]; exact hE0) N hlt
            have h2 : firstUp (fun i => (G i).2) N = EG := by rw [h]; exact hGE
            have h3 := HRED4.out
            unfold filR at h3
            rw [h2, if_neg hE0] at h3
            exact h3
          have p0 := HI10.out.p0
          have p1 := HI10.out.p1
          have f0 := HI10.out.f0
          have f1 := HI10.out.f1
          have HT := hide (HI10.out.put (.slice none 0 0) (.slice none 0 0))
          have HFI := hide HI10.out.fin
          clear HIN HX HRL HSE HCH HOS HRED4 HFC HCE HI6 HI10 HDD HFU HLG HAX HGR HGG
          go_wp2
          exact bodyPost_ret (v := .tuple #[.agg #[.slice none 0 0, .slice none 0 0], .int .i64 EG]) (by simp [results, Tryd.results13, go_sem, HT.out.1, HT.out.2]) rfl (gives2z0 HE.out (zeroA_in _ _ _) (HFI.out _ _))
  · have gE : (EC == 0) = false := beq_eq_false_iff_ne.2 hE
    have HE : Hid (RR = (zeroA, EC)) := HRED.out.trans (if_pos hE)
    have HT := hide (HI1.out.put (.slice none 0 0) (.slice none 0 0))
    have HFI := hide HI1.out.fin
    clear HCK HIN HR HRED HX
    go_wp2
    exact bodyPost_ret (v := .tuple #[.agg #[.slice none 0 0, .slice none 0 0], .int .i64 EC]) (by simp [results, Tryd.results13, go_sem, HT.out.1, HT.out.2]) rfl (gives2z0 HE.out (zeroA_in _ _ _) (HFI.out _ _))
end Go.Proofs.YtlfacpclihmnnaaDoor
namespace Go.Proofs.YtlfacpclihmnnaaDoor
open Go.ChangeShapes Go.WideShapes Go.ChangeAt Go.RowKit
open Num (resV resE In64 sgnI absI)
set_option linter.unusedVariables false
set_option linter.unusedSimpArgs false
set_option maxRecDepth 100000
theorem fchk_two (op : Int) (x y : Ar) : fchk op (xyE x y) 2 = if chkA 8 x = 0 then fchk op (fun _ => chkA 8 y) 1 else chkA 8 x := by
  by_cases h : chkA 8 x = 0
  · by_cases h2 : chkA 8 y = 0 <;> simp [fchk, firstUp, xyE, h, h2]
  · simp [fchk, firstUp, xyE, h]
set_option maxHeartbeats 16000000 in
theorem router18 {n lo S1 C1 S2 C2 c1 c2 d1 d2 : Nat} {x y : Ar} {a1 a2 b1 b2 : Option Addr} {op : Int} {t : Bool} {w : World} (hx : ArIn (n + 1) lo w x (.agg #[.slice a1 S1 c1, .slice a2 C1 c2])) (hy : ArIn (n + 1) lo w y (.agg #[.slice b1 S2 d1, .slice b2 C2 d2])) (hxin : ∀ k, k < x.cells.length → In64 (cAt x.cells k).2.1) (hyin : ∀ k, k < y.cells.length → In64 (cAt y.cells k).2.1) :
    Calls Tryd.prog 18 #[.int .i64 op, .bool t, .agg #[.slice a1 S1 c1, .slice a2 C1 c2], .agg #[.slice b1 S2 d1, .slice b2 C2 d2]] w fun e w' => Gives2 (n + 1) 0 (outR op t x y).1 (outR op t x y).2 w e w' := by
  obtain ⟨a1', c1', a2', c2', hv, R1, hc1⟩ := hx.formC
  have hv2 : S1 = x.shape.length ∧ C1 = x.cells.length ∧ a1 = a1' ∧ a2 = a2' ∧ c1 = c1' ∧ c2 = c2' := by
    simp only [Value.agg.injEq, Array.mk.injEq, List.cons.injEq, Value.slice.injEq, and_true] at hv
    exact ⟨hv.1.2.1, hv.2.2.1, hv.1.1, hv.2.1, hv.1.2.2, hv.2.2.2⟩
  obtain ⟨hS1, hC1, rfl, rfl, rfl, rfl⟩ := hv2
  clear hv
  obtain ⟨b1', d1', b2', d2', hv, R2, hc2⟩ := hy.formC
  have hv2 : S2 = y.shape.length ∧ C2 = y.cells.length ∧ b1 = b1' ∧ b2 = b2' ∧ d1 = d1' ∧ d2 = d2' := by
    simp only [Value.agg.injEq, Array.mk.injEq, List.cons.injEq, Value.slice.injEq, and_true] at hv
    exact ⟨hv.1.2.1, hv.2.2.1, hv.1.1, hv.2.1, hv.1.2.2, hv.2.2.2⟩
  obtain ⟨hS2, hC2, rfl, rfl, rfl, rfl⟩ := hv2
  clear hv
  obtain ⟨i3, hi3, hz30, hz31, hz32⟩ := infoI3
  obtain ⟨i0, hi0, hz00, hz01, hz02⟩ := info33'
  have I := in3_new w (.slice a1 S1 c1) (.slice a2 C1 c2) (.slice b1 S2 d1) (.slice b2 C2 d2)
  obtain ⟨W3, e3⟩ : ∃ W3, ((w.alloc (.cells #[.slice a1 S1 c1, .slice a2 C1 c2] 25)).alloc (.cells #[.slice b1 S2 d1, .slice b2 C2 d2] 25)).alloc (.cells #[.slice none 0 0, .slice none 0 0] 25) = W3 := ⟨_, rfl⟩
  rw [e3] at I
  have CK := rcheck_any (n + 1) x lo _ W3 (hx.next I.bel)
  have CS : Hid (∀ W, Below W3.heap.size W3 W → Calls Tryd.prog 34 #[.int .i64 op, .agg #[.slice b1 S2 d1, .slice b2 C2 d2]] W fun e w' => e = .returned (.int .i64 (fchk op (fun _ => chkA 8 y) 1)) ∧ Below W.heap.size W w') := fun W hW => rstart op (hy.next (I.bel.trans (hW.mono I.bel.size)))
  have HRED : Hid (outR op t x y = if fchk op (xyE x y) 2 ≠ 0 then (zeroA, fchk op (xyE x y) 2) else if sizeE (x.shape ++ y.shape) ≠ 0 then (zeroA, sizeE (x.shape ++ y.shape))
      else filR (x.shape ++ y.shape) (sizeV (x.shape ++ y.shape)).toNat (outG op t x y)) := rfl
  have HF2 := hide (fchk_two op x y)
  have HCY : Hid (fchk op (fun _ => chkA 8 y) 1 = 0 → chkA 8 y = 0) := fun h => fchk_zero h
  obtain ⟨RR, hRR⟩ : ∃ RR, outR op t x y = RR := ⟨_, rfl⟩
  rw [hRR] at HRED ⊢
  obtain ⟨EX, hEX⟩ : ∃ EX, chkA 8 x = EX := ⟨_, rfl⟩
  rw [hEX] at CK HF2
  have HEX := hide hEX
  generalize fchk op (fun _ => chkA 8 y) 1 = EY at *
  generalize fchk op (xyE x y) 2 = EC at *
  have HX := hide (And.intro R1 (And.intro hS1 hC1))
  have HY := hide (And.intro R2 (And.intro hS2 hC2))
  have HC := hide (And.intro hc1 hc2)
  have HIN := hide (And.intro hxin hyin)
  have q0 := I.q0
  have q1 := I.q1
  have HI := hide I
  clear hx hy hxin hyin hRR R1 R2 hS1 hC1 hS2 hC2 hc1 hc2 hEX I
  go_enter Tryd.func18, Tryd.ntmps18
  go_wp2_with fail
  refine CK.mono ?_
  rintro e w1 ⟨rfl, hb1⟩
  clear CK q0 q1 e3
  have I1 := HI.out.next hb1
  have r0 := I1.r0
  have r1 := I1.r1
  have p0 : w1.cell? ⟨w.heap.size + 1 + 1, 0, none⟩ = some (.slice none 0 0) := I1.p0
  have p1 : w1.cell? ⟨w.heap.size + 1 + 1, 1, none⟩ = some (.slice none 0 0) := I1.p1
  have f0 : w1.frozen? ⟨w.heap.size + 1 + 1, 0, none⟩ = false := I1.f0
  have f1 : w1.frozen? ⟨w.heap.size + 1 + 1, 1, none⟩ = false := I1.f1
  have HI1 := hide I1
  have CS1 := CS.out w1 hb1
  clear I1 hb1 HI CS
  by_cases hE : ¬ EX = 0
  · have gE : (EX == 0) = false := beq_eq_false_iff_ne.2 hE
    have hEC : EC = EX := by rw [HF2.out, if_neg hE]
    have HE : Hid (RR = (zeroA, EX)) := by rw [hEC] at HRED; exact HRED.out.trans (if_pos hE)
    have HT := hide (HI1.out.put (.slice none 0 0) (.slice none 0 0))
    have HFI := hide HI1.out.fin
    clear HIN HX HY HC HRED hEC HF2 CS1
    go_wp2
    exact bodyPost_ret (v := .tuple #[.agg #[.slice none 0 0, .slice none 0 0], .int .i64 EX]) (by simp [results, Tryd.results18, go_sem, HT.out.1, HT.out.2]) rfl (gives2z0 HE.out (zeroA_in _ _ _) (HFI.out _ _))
  have hEX0 : EX = 0 := Classical.not_not.1 hE
  clear hE
  subst hEX0
  have hEC : EC = EY := by rw [HF2.out, if_pos rfl]
  subst hEC
  clear HF2
  go_wp2_with fail
  refine CS1.mono ?_
  rintro e w2 ⟨rfl, hb2⟩
  clear CS1 r0 r1 p0 p1 f0 f1
  have I2 := HI1.out.next hb2
  have p0 : w2.cell? ⟨w.heap.size + 1 + 1, 0, none⟩ = some (.slice none 0 0) := I2.p0
  have p1 : w2.cell? ⟨w.heap.size + 1 + 1, 1, none⟩ = some (.slice none 0 0) := I2.p1
  have f0 : w2.frozen? ⟨w.heap.size + 1 + 1, 0, none⟩ = false := I2.f0
  have f1 : w2.frozen? ⟨w.heap.size + 1 + 1, 1, none⟩ = false := I2.f1
  have HI2 := hide I2
  clear I2 hb2 HI1
  by_cases hE : ¬ EC = 0
  · have gE : (EC == 0) = false := beq_eq_false_iff_ne.2 hE
    have HE : Hid (RR = (zeroA, EC)) := HRED.out.trans (if_pos hE)
    have HT := hide (HI2.out.put (.slice none 0 0) (.slice none 0 0))
    have HFI := hide HI2.out.fin
    clear HIN HX HY HC HRED
    go_wp2
    exact bodyPost_ret (v := .tuple #[.agg #[.slice none 0 0, .slice none 0 0], .int .i64 EC]) (by simp [results, Tryd.results18, go_sem, HT.out.1, HT.out.2]) rfl (gives2z0 HE.out (zeroA_in _ _ _) (HFI.out _ _))
  have hEC0 : EC = 0 := Classical.not_not.1 hE
  clear hE
  subst hEC0
  obtain ⟨hsE1, hsV1⟩ := chk_size HEX.out
  obtain ⟨hsE2, hsV2⟩ := chk_size (HCY.out rfl)
  have hS18 : S1 ≤ 8 := by rw [HX.out.2.1]; exact (fine_cases hsE1).1
  have hS28 : S2 ≤ 8 := by rw [HY.out.2.1]; exact (fine_cases hsE2).1
  have hC16 : C1 ≤ 16384 := by have := (sizeV_le hsE1).2; rw [hsV1, ← HX.out.2.2] at this; omega
  have hD16 : C2 ≤ 16384 := by have := (sizeV_le hsE2).2; rw [hsV2, ← HY.out.2.2] at this; omega
  have HRED2 := hide (HRED.out.trans (if_neg (fun h => h rfl)))
  have HSZ : Hid (sizeE (x.shape ++ y.shape) = 0 → sizeV (x.shape ++ y.shape) = ((C1 * C2 : Nat) : Int)) := fun h => by
    rw [sizeV_prod h, prodL_app, ← sizeV_prod hsE1, ← sizeV_prod hsE2, hsV1, hsV2, HX.out.2.2, HY.out.2.2]
    push_cast
    rfl
  clear hsE1 hsE2 hsV1 hsV2 HRED HCY HEX p0 p1 f0 f1
  obtain ⟨W4, e4⟩ : ∃ W4, w2.alloc (.cells #[.slice none 0 0, .slice none 0 0] 25) = W4 := ⟨_, rfl⟩
  have B4 : Below w2.heap.size w2 W4 := by rw [← e4]; exact one_alloc _ _
  have z4 : W4.heap.size = w2.heap.size + 1 := by rw [← e4]; simp
  have I4 := HI2.out.next B4
  have hs2 := HI2.out.size
  have o0 : W4.cell? ⟨w2.heap.size, 0, none⟩ = some (.slice none 0 0) := by rw [← e4]; exact cell_new0 w2 _ 25 0 _ rfl
  have o1 : W4.cell? ⟨w2.heap.size, 1, none⟩ = some (.slice none 0 0) := by rw [← e4]; exact cell_new0 w2 _ 25 1 _ rfl
  have of0 : W4.frozen? ⟨w2.heap.size, 0, none⟩ = false := by rw [← e4]; exact frozen_new w2 _ 25 0
  have of1 : W4.frozen? ⟨w2.heap.size, 1, none⟩ = false := by rw [← e4]; exact frozen_new w2 _ 25 1
  have q0 := I4.q0
  have HLS : Hid (Lies W4 a1 (x.shape.map (Value.int .i64))) := Lies.row_next HX.out.1 I4.bel
  have hsl : (x.shape.map (Value.int .i64)).length = S1 * 1 := by rw [List.length_map, HX.out.2.1]; omega
  have HI4 := hide I4
  have HO := hide (And.intro o1 of1)
  have HE4 := hide e4
  clear I4 B4 HI2 e4
  go_upto_region 8 with fail
  rw [HE4.out]
  clear HE4
  go_wp2_with (at_builtin; refine wpList_append_any rfl _ _ 22 rfl W4.heap.size 3 i3 (.int .i64 0) 1 8 Tryd.underlying22 hi3 hz30 hz31 hz32 rfl (by decide) (.slice none 0 0) 0 [] rfl (World.ownsRow_nil _ _ _ _) a1 S1 c1 (x.shape.map (Value.int .i64)) rfl hsl HLS.out ?c3 ?c4 (Nat.le_refl _) ?_)
  case c3 => unfold maxLen; omega
  case c4 => omega
  intro v5 w5 hown5 hb5
  have hZ4 : W4.heap.size = w2.heap.size + 1 := z4
  rw [← z4] at hown5 hb5
  have HZ4 := hide z4
  clear z4 hZ4
  obtain ⟨al, cl, rfl, RL⟩ := owns_rowE x.shape (by rw [← HX.out.2.1]; omega) (by rw [← HX.out.2.1]; exact hown5)
  rw [← HX.out.2.1]
  rw [← HX.out.2.1] at hown5
  have hoW : w2.heap.size < W4.heap.size := by rw [HZ4.out]; omega
  have d0 : w5.cell? ⟨w2.heap.size, 0, none⟩ = some (.slice none 0 0) := (hb5.cell (p := ⟨w2.heap.size, 0, none⟩) hoW).trans o0
  have df0 : w5.frozen? ⟨w2.heap.size, 0, none⟩ = false := (hb5.frozen (p := ⟨w2.heap.size, 0, none⟩) hoW).trans of0
  obtain ⟨w6, e6⟩ : ∃ w6, w5.setCell ⟨w2.heap.size, 0, none⟩ (.slice al S1 cl) = w6 := ⟨_, rfl⟩
  have I6 : In3 w (.slice a1 S1 c1) (.slice a2 C1 c2) (.slice b1 S2 d1) (.slice b2 C2 d2) w6 := by
    rw [← e6]
    exact (HI4.out.belowS hb5 HI4.out.size).belowS (B := w2.heap.size) ((Below.refl _ _).setCell (p := ⟨w2.heap.size, 0, none⟩) (Nat.le_refl _) _) hs2
  have u0 : w6.cell? ⟨w2.heap.size, 0, none⟩ = some (.slice al S1 cl) := by rw [← e6]; exact World.cell?_setCell_same' _ _ _ (by rw [d0]; rfl)
  have u1 : w6.cell? ⟨w2.heap.size, 1, none⟩ = some (.slice none 0 0) := by rw [← e6, World.cell?_setCell_other _ _ _ _ (by simp)]; exact (hb5.cell (p := ⟨w2.heap.size, 1, none⟩) hoW).trans HO.out.1
  have uf0 : w6.frozen? ⟨w2.heap.size, 0, none⟩ = false := by rw [← e6]; exact frozen_set _ _ _ _ df0
  have uf1 : w6.frozen? ⟨w2.heap.size, 1, none⟩ = false := by rw [← e6]; exact frozen_set _ _ _ _ ((hb5.frozen (p := ⟨w2.heap.size, 1, none⟩) hoW).trans HO.out.2)
  have OW6 : w6.ownsRow W4.heap.size 3 1 (.slice al S1 cl) S1 (x.shape.map (Value.int .i64)) := by rw [← e6]; exact ownsRow_setCell_below hown5 (a := ⟨w2.heap.size, 0, none⟩) hoW _
  have z46 : W4.heap.size ≤ w6.heap.size := by rw [← e6]; simpa using hb5.size
  have r0 := I6.r0
  have HLS2 : Hid (Lies w6 b1 (y.shape.map (Value.int .i64))) := Lies.row_next HY.out.1 I6.bel
  have hsl2 : (y.shape.map (Value.int .i64)).length = S2 * 1 := by rw [List.length_map, HY.out.2.1]; omega
  have HI6 := hide I6
  have HO6 := hide (And.intro u1 uf1)
  have HZ46 := hide z46
  have HHO := hide hoW
  clear HI4 hown5 hb5 RL HLS hsl o0 o1 of0 of1 q0 I6 HO z46
  go_wp2_with (at_builtin; refine wpList_append_any rfl _ _ 22 rfl W4.heap.size 3 i3 (.int .i64 0) 1 8 Tryd.underlying22 hi3 hz30 hz31 hz32 rfl (by decide) _ _ _ rfl OW6 b1 S2 d1 (y.shape.map (Value.int .i64)) rfl hsl2 HLS2.out ?c3 ?c4 HZ46.out ?_)
  case c3 => unfold maxLen; omega
  case c4 => omega
  intro v7 w7 hown7 hb7
  clear e6 d0 df0
  have hxl : (x.shape ++ y.shape).length = S1 + S2 := by rw [List.length_append, ← HX.out.2.1, ← HY.out.2.1]
  obtain ⟨SO, hSO⟩ : ∃ SO, S1 + S2 = SO := ⟨_, rfl⟩
  rw [hSO] at hxl hown7
  have hSO16 : SO ≤ 16 := by omega
  obtain ⟨am, cm, rfl, RM⟩ := owns_rowE (x.shape ++ y.shape) (by rw [hxl]; omega) (by rw [hxl]; simpa using hown7)
  rw [hxl]
  have d0 : w7.cell? ⟨w2.heap.size, 0, none⟩ = some (.slice al S1 cl) := (hb7.cell (p := ⟨w2.heap.size, 0, none⟩) hoW).trans u0
  have df0 : w7.frozen? ⟨w2.heap.size, 0, none⟩ = false := (hb7.frozen (p := ⟨w2.heap.size, 0, none⟩) hoW).trans uf0
  obtain ⟨w8, e8⟩ : ∃ w8, w7.setCell ⟨w2.heap.size, 0, none⟩ (.slice am SO cm) = w8 := ⟨_, rfl⟩
  have I8 : In3 w (.slice a1 S1 c1) (.slice a2 C1 c2) (.slice b1 S2 d1) (.slice b2 C2 d2) w8 := by
    rw [← e8]
    exact (HI6.out.belowS hb7 (by have := HZ4.out; omega)).belowS (B := w2.heap.size) ((Below.refl _ _).setCell (p := ⟨w2.heap.size, 0, none⟩) (Nat.le_refl _) _) hs2
  have t0 : w8.cell? ⟨w2.heap.size, 0, none⟩ = some (.slice am SO cm) := by rw [← e8]; exact World.cell?_setCell_same' _ _ _ (by rw [d0]; rfl)
  have t1 : w8.cell? ⟨w2.heap.size, 1, none⟩ = some (.slice none 0 0) := by rw [← e8, World.cell?_setCell_other _ _ _ _ (by simp)]; exact (hb7.cell (p := ⟨w2.heap.size, 1, none⟩) hoW).trans HO6.out.1
  have tf1 : w8.frozen? ⟨w2.heap.size, 1, none⟩ = false := by rw [← e8]; exact frozen_set _ _ _ _ ((hb7.frozen (p := ⟨w2.heap.size, 1, none⟩) hoW).trans HO6.out.2)
  have K8 : Keeps W4.heap.size w7 w8 := by rw [← e8]; exact (Keeps.refl _ _).setCell (p := ⟨w2.heap.size, 0, none⟩) hoW _
  have RM8 := RM.keeps K8
  have z48 : W4.heap.size ≤ w8.heap.size := by rw [← e8]; simpa using Nat.le_trans HZ46.out hb7.size
  have CZ := rsize_any (x.shape ++ y.shape) am cm w8 RM8
  rw [hxl] at CZ
  have HRL := hide (And.intro RM8 hxl)
  have HI8 := hide I8
  obtain ⟨SE, hSE⟩ : ∃ SE, sizeE (x.shape ++ y.shape) = SE := ⟨_, rfl⟩
  obtain ⟨SV, hSV⟩ : ∃ SV, sizeV (x.shape ++ y.shape) = SV := ⟨_, rfl⟩
  have HSE := hide (And.intro hSE hSV)
  rw [hSE, hSV] at CZ HRED2 HSZ
  have HT8 := hide (And.intro t0 (And.intro t1 tf1))
  have HZ8 := hide z48
  clear hown7 hb7 RM RM8 K8 OW6 HLS2 hsl2 HI6 HO6 HZ46 u0 u1 uf0 uf1 r0 I8 t1 tf1 z48 hSE hSV hSO
  go_wp2_with fail
  refine CZ.mono ?_
  rintro e w9 ⟨rfl, hw9⟩
  subst hw9
  clear CZ e8 d0 df0 t0
  have p0 : w9.cell? ⟨w.heap.size + 1 + 1, 0, none⟩ = some (.slice none 0 0) := HI8.out.p0
  have p1 : w9.cell? ⟨w.heap.size + 1 + 1, 1, none⟩ = some (.slice none 0 0) := HI8.out.p1
  have f0 : w9.frozen? ⟨w.heap.size + 1 + 1, 0, none⟩ = false := HI8.out.f0
  have f1 : w9.frozen? ⟨w.heap.size + 1 + 1, 1, none⟩ = false := HI8.out.f1
  by_cases hSE0 : ¬ SE = 0
  · have gE : (SE == 0) = false := beq_eq_false_iff_ne.2 hSE0
    have HE : Hid (RR = (zeroA, SE)) := HRED2.out.trans (if_pos hSE0)
    have HT := hide (HI8.out.put (.slice none 0 0) (.slice none 0 0))
    have HFI := hide HI8.out.fin
    clear HIN HX HY HC HRL HSE HRED2 HT8
    go_wp2
    exact bodyPost_ret (v := .tuple #[.agg #[.slice none 0 0, .slice none 0 0], .int .i64 SE]) (by simp [results, Tryd.results18, go_sem, HT.out.1, HT.out.2]) rfl (gives2z0 HE.out (zeroA_in _ _ _) (HFI.out _ _))
  have hSE1 : SE = 0 := Classical.not_not.1 hSE0
  clear hSE0
  subst hSE1
  have HRED3 := hide (HRED2.out.trans (if_neg (fun h => h rfl)))
  obtain ⟨N, hN⟩ : ∃ N, C1 * C2 = N := ⟨_, rfl⟩
  have hSV : SV = (N : Int) := by rw [HSZ.out rfl, hN]
  have hN16 : N ≤ 16384 := by have := (sizeV_le HSE.out.1).2; rw [HSE.out.2, hSV] at this; omega
  have HN := hide hN
  subst hSV
  rw [Int.toNat_natCast] at HRED3
  obtain ⟨G, hG⟩ : ∃ G, outG op t x y = G := ⟨_, rfl⟩
  have HGG := hide hG
  rw [hG] at HRED3
  obtain ⟨TT, hTT⟩ : ∃ TT : Nat → Value × Value × Value, TT = fun i => (.int .i64 0, .int .i64 (G i).1.2.1, .slice none 0 0) := ⟨_, rfl⟩
  have HTT := hide hTT
  have HG5 := hide (GrowC.new (T := TT) HT8.out.1 HT8.out.2.1 HT8.out.2.2)
  have HZZ : Hid (W4.heap.size = w2.heap.size + 1 ∧ w.heap.size + 3 ≤ w2.heap.size ∧ W4.heap.size ≤ w9.heap.size) := ⟨HZ4.out, hs2, HZ8.out⟩
  clear HRED2 HT8 HZ4 HZ8 hG hTT p0 p1 f0 f1 hN HSZ hoW hs2 hxl
  go_wp2
  go_loopg [15] C1 (fun g iv wr => ∃ (i : Nat) (v : Value), g + i = C1 ∧ iv = .int .i64 (i : Int) ∧ GrowC w9 w2.heap.size (.slice am SO cm) TT (i * C2) v wr ∧ firstUp (fun i => (G i).2) (i * C2) = 0)
  case atStart => exact ⟨0, _, rfl, rfl, by rw [Nat.zero_mul]; exact HG5.out, by rw [Nat.zero_mul]; rfl⟩
  case round =>
  clear HG5
  obtain ⟨i, v, hg, rfl, hgr, hfu⟩ := hrel
  have hz := HZZ.out
  have I6 : In3 w (.slice a1 S1 c1) (.slice a2 C1 c2) (.slice b1 S2 d1) (.slice b2 C2 d2) wr := HI8.out.belowS (hgr.below (B := w2.heap.size) (Nat.le_refl _) (by omega)) (by omega)
  have q1 := I6.q1
  have HGR := hide hgr
  have HFC := hide hfu
  clear hfu
  by_cases hlt : ¬ i < C1
  · have hte : i = C1 := by omega
    subst hte
    have hNi : i * C2 = N := HN.out
    have HE : Hid (RR = (.mk (x.shape ++ y.shape) (mkCs N fun i => (G i).1), 0)) := by
      have h3 := HRED3.out
      unfold filR at h3
      rw [← hNi, HFC.out, if_pos rfl, hNi] at h3
      exact h3
    rw [hNi] at hgr
    obtain ⟨g2, cp2, rfl, -⟩ := owns_cellsT TT hgr.own
    have d0' := hgr.c0
    have d1' := hgr.c1
    have p0 : wr.cell? ⟨w.heap.size + 1 + 1, 0, none⟩ = some (.slice none 0 0) := I6.p0
    have p1 : wr.cell? ⟨w.heap.size + 1 + 1, 1, none⟩ = some (.slice none 0 0) := I6.p1
    have f0 : wr.frozen? ⟨w.heap.size + 1 + 1, 0, none⟩ = false := I6.f0
    have f1 : wr.frozen? ⟨w.heap.size + 1 + 1, 1, none⟩ = false := I6.f1
    have HT := hide (I6.put (.slice am SO cm) (.slice g2 N cp2))
    have HFIN : Hid (∀ u v, Gives2 (n + 1) 0 RR.1 RR.2 w (.returned (.tuple #[.agg #[.slice am SO cm, .slice g2 N cp2], .int .i64 0])) ((wr.setCell ⟨w.heap.size + 2, 0, none⟩ u).setCell ⟨w.heap.size + 2, 1, none⟩ v)) := by
      intro u v
      refine gives2z0 HE.out ?_ (I6.fin u v)
      have K1 : Keeps W4.heap.size w9 wr := ⟨hgr.io.size, fun b h1 h2 => hgr.keep b h2 (by omega)⟩
      have K2 : Keeps W4.heap.size wr ((wr.setCell ⟨w.heap.size + 2, 0, none⟩ u).setCell ⟨w.heap.size + 2, 1, none⟩ v) := ((Keeps.refl _ _).setCell (p := ⟨w.heap.size + 2, 0, none⟩) (by show w.heap.size + 2 < _; omega) u).setCell (p := ⟨w.heap.size + 2, 1, none⟩) (by show w.heap.size + 2 < _; omega) v
      have RF := (((HRL.out.1.keeps K1).keeps K2).low (Nat.zero_le _))
      obtain ⟨a', c', he, -, hC⟩ := cells_of_own (n := n) (lo := 0) (w0 := w) (cs := mkCs N fun i => (G i).1) (T := TT) (by rw [mkCs_len]; exact owns_keeps hgr.own K2 (by omega)) (I6.fin u v) (fun i hi => by
        rw [mkCs_len] at hi
        rw [mkCs_at _ _ _ hi, HTT.out, ← HGG.out]
        exact ce_num _ _ _ _)
      rw [mkCs_len] at he
      simp only [Value.slice.injEq, true_and] at he
      rw [he.1]
      exact arIn_mk (x := .mk (x.shape ++ y.shape) (mkCs N fun i => (G i).1)) RF (by show (mkCs _ _).length ≤ _; rw [mkCs_len]; omega) hC HRL.out.2 (by show (mkCs _ _).length = _; rw [mkCs_len])
    clear I6 hgr HGR HI8 HE HRED3 HFC HSE HGG HIN HX HY HC HRL HTT hNi
    go_wp2
    exact bodyPost_ret (v := .tuple #[.agg #[.slice am SO cm, .slice g2 N cp2], .int .i64 0]) (by simp [results, Tryd.results18, go_sem, HT.out.1, HT.out.2]) rfl (HFIN.out _ _)
  have hlt := Classical.not_not.1 hlt
  clear I6 hgr
  obtain ⟨wo, hwo⟩ : ∃ wo, wo = wr := ⟨_, rfl⟩
  subst hwo
  go_wp2
  go_loopg [16] C2 (fun g kv wr => ∃ (k : Nat) (v : Value), g + k = C2 ∧ kv = .int .i64 (k : Int) ∧ GrowC w9 w2.heap.size (.slice am SO cm) TT (i * C2 + k) v wr ∧ firstUp (fun i => (G i).2) (i * C2 + k) = 0)
  case atStart => exact ⟨0, _, rfl, rfl, HGR.out, HFC.out⟩
  case round =>
  clear HGR HFC q1
  obtain ⟨k, v2, hgk, rfl, hgr, hfu⟩ := hrel
  have I7 : In3 w (.slice a1 S1 c1) (.slice a2 C1 c2) (.slice b1 S2 d1) (.slice b2 C2 d2) wr := HI8.out.belowS (hgr.below (B := w2.heap.size) (Nat.le_refl _) (by omega)) (by omega)
  have r1 := I7.r1
  have HGR := hide hgr
  have HFC := hide hfu
  by_cases hlk : ¬ k < C2
  · have hke : k = C2 := by omega
    subst hke
    have HST := hide (show i * k + k = (i + 1) * k by rw [Nat.add_mul, Nat.one_mul])
    rw [HST.out] at HGR HFC
    clear I7 hgr hfu
    go_wp2
    go_roundg (C1 - (i + 1))
    case rel => exact ⟨i + 1, _, by omega, by go_num, HGR.out, HFC.out⟩
    case measure => omega
  have hlk := Classical.not_not.1 hlk
  have hq1 := I7.q1
  obtain ⟨abx, cbx, hcx⟩ := cells_fn HC.out.1
  obtain ⟨aby, cby, hcy⟩ := cells_fn HC.out.2
  obtain ⟨pb, po, rfl, -, lp, hpc⟩ := hcx (by rw [← HX.out.2.2]; omega)
  obtain ⟨rb, ro, rfl, -, lr, hrc⟩ := hcy (by rw [← HY.out.2.2]; omega)
  obtain ⟨x0, x1, x2, -⟩ := hpc i (by rw [← HX.out.2.2]; omega)
  obtain ⟨y0, y1, y2, -⟩ := hrc k (by rw [← HY.out.2.2]; omega)
  have X0 := (I7.bel.cell (p := ⟨pb, po + i * 3, none⟩) lp).trans x0
  have X1 := (I7.bel.cell (p := ⟨pb, po + i * 3 + 1, none⟩) lp).trans x1
  have X2 := (I7.bel.cell (p := ⟨pb, po + i * 3 + 2, none⟩) lp).trans x2
  have Y0 := (I7.bel.cell (p := ⟨rb, ro + k * 3, none⟩) lr).trans y0
  have Y1 := (I7.bel.cell (p := ⟨rb, ro + k * 3 + 1, none⟩) lr).trans y1
  have Y2 := (I7.bel.cell (p := ⟨rb, ro + k * 3 + 2, none⟩) lr).trans y2
  have hlp : pb < wr.heap.size := Nat.lt_of_lt_of_le lp I7.bel.size
  have hlr : rb < wr.heap.size := Nat.lt_of_lt_of_le lr I7.bel.size
  have hlw : w.heap.size + 1 < wr.heap.size := by have := I7.size; omega
  obtain ⟨J, hJ⟩ : ∃ J, i * C2 + k = J := ⟨_, rfl⟩
  have hJN : J < N := by
    rw [← HN.out, ← hJ]
    calc i * C2 + k < i * C2 + C2 := by omega
      _ = (i + 1) * C2 := by rw [Nat.add_mul, Nat.one_mul]
      _ ≤ C1 * C2 := Nat.mul_le_mul_right C2 (by omega)
  have hGJ : G J = ((0, tV op t (cAt x.cells i) (cAt y.cells k), []), tE op t (cAt x.cells i) (cAt y.cells k)) := by
    have h1 : J / C2 = i := by rw [← hJ, Nat.mul_comm, Nat.mul_add_div (by omega), Nat.div_eq_of_lt hlk]; omega
    have h2 : J % C2 = k := by rw [← hJ, Nat.mul_comm, Nat.mul_add_mod, Nat.mod_eq_of_lt hlk]
    rw [← HGG.out]
    unfold outG
    rw [← HY.out.2.2, h1, h2]
  have CC0 := fun W => rof47 op t _ _ _ _ (abx i) (aby k) (cAt x.cells i).2.2.length (cbx i) (cAt y.cells k).2.2.length (cby k) (cAt x.cells i) (cAt y.cells k) ⟨rfl, rfl⟩ ⟨rfl, rfl⟩ (HIN.out.1 i (by rw [← HX.out.2.2]; exact hlt)) (HIN.out.2 k (by rw [← HY.out.2.2]; exact hlk)) W
  have hbad : tE op t (cAt x.cells i) (cAt y.cells k) ≠ 0 → tV op t (cAt x.cells i) (cAt y.cells k) = 0 := tV_bad
  rw [hJ] at HGR HFC
  have HST := hide (show i * C2 + (k + 1) = J + 1 by omega)
  generalize tV op t (cAt x.cells i) (cAt y.cells k) = V at *
  generalize tE op t (cAt x.cells i) (cAt y.cells k) = EG at *
  generalize (cAt x.cells i).1 = k1 at *
  generalize (cAt x.cells i).2.1 = n1 at *
  generalize (cAt x.cells i).2.2.length = m1 at *
  generalize (cAt y.cells k).1 = k2 at *
  generalize (cAt y.cells k).2.1 = n2 at *
  generalize (cAt y.cells k).2.2.length = m2 at *
  generalize abx i = ax at *
  generalize aby k = ay at *
  generalize cbx i = ex at *
  generalize cby k = ey at *
  have CC : Hid (∀ W, Below wr.heap.size wr W → Calls Tryd.prog 47 #[.int .i64 op, .bool t, .agg #[.int .i64 k1, .int .i64 n1, .slice ax m1 ex], .agg #[.int .i64 k2, .int .i64 n2, .slice ay m2 ey]] W fun e w' => e = .returned (.tuple #[.agg #[.int .i64 0, .int .i64 V, .slice none 0 0], .int .i64 EG]) ∧ Below wr.heap.size wr w' ∧ Below W.heap.size W w') := fun W hW => by
    refine (CC0 W).mono ?_
    rintro e w' ⟨rfl, hb'⟩
    exact ⟨rfl, hW.trans (hb'.mono hW.size), hb'⟩
  have HJJ := hide (And.intro hJN (And.intro hGJ hbad))
  have KS : Hid (∀ W, Below wr.heap.size wr W → (Below wr.heap.size wr W ∧ W.cell? ⟨w.heap.size, 1, none⟩ = some (.slice (some ⟨pb, po, none⟩) C1 c2) ∧ W.cell? ⟨w.heap.size + 1, 1, none⟩ = some (.slice (some ⟨rb, ro, none⟩) C2 d2) ∧ W.cell? ⟨pb, po + i * 3, none⟩ = some (.int .i64 k1) ∧ W.cell? ⟨pb, po + i * 3 + 1, none⟩ = some (.int .i64 n1) ∧ W.cell? ⟨pb, po + i * 3 + 2, none⟩ = some (.slice ax m1 ex) ∧ W.cell? ⟨rb, ro + k * 3, none⟩ = some (.int .i64 k2) ∧ W.cell? ⟨rb, ro + k * 3 + 1, none⟩ = some (.int .i64 n2) ∧ W.cell? ⟨rb, ro + k * 3 + 2, none⟩ = some (.slice ay m2 ey))) := fun W h =>
    ⟨h, (h.cell (p := ⟨w.heap.size, 1, none⟩) (by show w.heap.size < _; omega)).trans hq1, (h.cell (p := ⟨w.heap.size + 1, 1, none⟩) hlw).trans r1, (h.cell (p := ⟨pb, po + i * 3, none⟩) hlp).trans X0, (h.cell (p := ⟨pb, po + i * 3 + 1, none⟩) hlp).trans X1, (h.cell (p := ⟨pb, po + i * 3 + 2, none⟩) hlp).trans X2, (h.cell (p := ⟨rb, ro + k * 3, none⟩) hlr).trans Y0, (h.cell (p := ⟨rb, ro + k * 3 + 1, none⟩) hlr).trans Y1, (h.cell (p := ⟨rb, ro + k * 3 + 2, none⟩) hlr).trans Y2⟩
  have HD0 : Hid (Below wr.heap.size wr wr.drew) := (Below.refl _ _).drew
  have HD1 : Hid (Below wr.heap.size wr (wr.alloc (.cells #[.int .i64 0, .int .i64 0, .slice none 0 0] 43)).drew) := (one_alloc _ _).drew
  have HD2 : Hid (Below wr.heap.size wr (wr.drew.alloc (.cells #[.int .i64 0, .int .i64 0, .slice none 0 0] 43))) := (Below.refl _ _).drew.alloc (Nat.le_refl _) _
  have HAL : Hid (∀ W o, Below wr.heap.size wr W → Below wr.heap.size wr (W.alloc o)) := fun W o h => h.alloc h.size o
  have HSET : Hid (∀ W b u0 u1 u2, Below wr.heap.size wr W → wr.heap.size ≤ b → Below wr.heap.size wr (((W.setCell ⟨b, 0, none⟩ u0).setCell ⟨b, 1, none⟩ u1).setCell ⟨b, 2, none⟩ u2)) := fun W b u0 u1 u2 h hb => below_set3 h hb
  have HLE : Hid (wr.heap.size ≤ wr.heap.size) := Nat.le_refl _
  have hiz : (i : Int) < (C1 : Int) := by omega
  have hkz : (k : Int) < (C2 : Int) := by omega
  have HI7 := hide I7
  clear x0 x1 x2 y0 y1 y2 X0 X1 X2 Y0 Y1 Y2 hq1 hcx hcy hpc hrc CC0 hGJ hbad hJN I7 hgr hfu lp lr hlp hlr hlw hJ r1
  have r1 := HI7.out.r1
  go_upto_region 19 with fail
  clear r1
  go_region_held3 (fun W => Below wr.heap.size wr W ∧ W.cell? ⟨w.heap.size, 1, none⟩ = some (.slice (some ⟨pb, po, none⟩) C1 c2) ∧ W.cell? ⟨w.heap.size + 1, 1, none⟩ = some (.slice (some ⟨rb, ro, none⟩) C2 d2) ∧ W.cell? ⟨pb, po + i * 3, none⟩ = some (.int .i64 k1) ∧ W.cell? ⟨pb, po + i * 3 + 1, none⟩ = some (.int .i64 n1) ∧ W.cell? ⟨pb, po + i * 3 + 2, none⟩ = some (.slice ax m1 ex) ∧ W.cell? ⟨rb, ro + k * 3, none⟩ = some (.int .i64 k2) ∧ W.cell? ⟨rb, ro + k * 3 + 1, none⟩ = some (.int .i64 n2) ∧ W.cell? ⟨rb, ro + k * 3 + 2, none⟩ = some (.slice ay m2 ey))
    (first | with_reducible exact KS.out _ HD0.out | with_reducible exact KS.out _ HD1.out | with_reducible exact KS.out _ HD2.out | with_reducible exact KS.out _ (by with_reducible assumption) | with_reducible exact KS.out _ (HAL.out _ _ (by with_reducible assumption)) | with_reducible exact KS.out _ (HSET.out _ _ _ _ _ (by with_reducible assumption) HLE.out) | with_reducible exact KS.out _ (HSET.out _ _ _ _ _ (HAL.out _ _ (by with_reducible assumption)) (Below.size (by with_reducible assumption))))
    (first | (go_at_call 47; first | ((with_reducible refine (CC.out _ HD0.out).mono ?_); rintro e wb ⟨rfl, gb, hbb⟩; obtain ⟨-, n0', n1', n2', n3, n4, n5⟩ := Zc.new wb (.int .i64 0) (.int .i64 0) (.slice none 0 0)) | ((with_reducible refine (CC.out _ HD1.out).mono ?_); rintro e wb ⟨rfl, gb, hbb⟩; have ZB := (Zc.new wr (.int .i64 0) (.int .i64 0) (.slice none 0 0)).drew.next hbb; obtain ⟨-, n0', n1', n2', n3, n4, n5⟩ := (Zc.new wr (.int .i64 0) (.int .i64 0) (.slice none 0 0)).drew.next hbb) | ((with_reducible refine (CC.out _ HD2.out).mono ?_); rintro e wb ⟨rfl, gb, hbb⟩; have ZB := (show Zc (wr.drew.alloc (.cells #[.int .i64 0, .int .i64 0, .slice none 0 0] 43)) wr.heap.size (.int .i64 0) (.int .i64 0) (.slice none 0 0) from Zc.new wr _ _ _).next hbb; obtain ⟨-, n0', n1', n2', n3, n4, n5⟩ := ZB)))
  all_goals
    first
      | (have ZN := ZB.set (.int .i64 0) (.int .i64 V) (.slice none 0 0)
         obtain ⟨wc, hwc⟩ : ∃ wc, ((wb.setCell ⟨wr.heap.size, 0, none⟩ (.int .i64 0)).setCell ⟨wr.heap.size, 1, none⟩ (.int .i64 V)).setCell ⟨wr.heap.size, 2, none⟩ (.slice none 0 0) = wc := ⟨_, rfl⟩
         have Bw : Below wr.heap.size wr wc := by rw [← hwc]; exact below_set3 gb (Nat.le_refl _)
         rw [hwc] at ZN ⊢
         clear hwc ZB)
      | (have ZN := Zc.new wb (.int .i64 0) (.int .i64 V) (.slice none 0 0)
         obtain ⟨wc, hwc⟩ : ∃ wc, wb.alloc (.cells #[.int .i64 0, .int .i64 V, .slice none 0 0] 43) = wc := ⟨_, rfl⟩
         have Bw : Below wr.heap.size wr wc := by rw [← hwc]; exact gb.alloc gb.size _
         rw [hwc] at ZN ⊢
         clear hwc)
    have I10 := HI7.out.next Bw
    have c0' := ZN.c0
    have c1' := ZN.c1
    have c2' := ZN.c2
    have hzl := ZN.lt
    have HBW := hide Bw
    have HI10 := hide I10
    clear ZN gb hbb n0' n1' n2' n3 n4 n5 CC KS HD0 HD1 HD2 HAL HSET HLE I10 Bw HI7
    by_cases hE0 : EG = 0
    · subst hE0
      have d1 := (HBW.out.cell (p := ⟨w2.heap.size, 1, none⟩) (by show w2.heap.size < _; have := HGR.out.io.size; omega)).trans HGR.out.c1
      have d2 := (HBW.out.frozen (p := ⟨w2.heap.size, 1, none⟩) (by show w2.heap.size < _; have := HGR.out.io.size; omega)).trans HGR.out.f1
      have OW : wc.ownsRow w9.heap.size 43 3 v2 J (rowT TT J) := owns_below HGR.out.own HBW.out
      have OWN := OW.alloc (.cells #[.int .i64 0, .int .i64 V, .slice none 0 0] 43)
      have HNW : Hid (∀ i u, [Value.int .i64 0, .int .i64 V, .slice none 0 0][i]? = some u → (wc.alloc (.cells #[.int .i64 0, .int .i64 V, .slice none 0 0] 43)).cell? ((⟨wc.heap.size, 0, none⟩ : Addr).add i) = some u) := by
        intro i u hu
        rw [add_off, Nat.zero_add]
        exact cell_new0 wc _ 43 i u (by simpa using hu)
      have h5c : w9.heap.size ≤ wc.heap.size := Nat.le_trans HGR.out.io.size HBW.out.size
      have HZ10 := hide (show w9.heap.size ≤ (wc.alloc (.cells #[.int .i64 0, .int .i64 V, .slice none 0 0] 43)).heap.size by simp; omega)
      have HSTP : Hid (rowT TT (J + 1) = rowT TT J ++ [.int .i64 0, .int .i64 V, .slice none 0 0]) := by unfold Hid; rw [rowT_step, HTT.out]; simp only [HJJ.out.2.1]
      have HAB : Hid (Below w9.heap.size wr (wc.alloc (.cells #[.int .i64 0, .int .i64 V, .slice none 0 0] 43))) := (HBW.out.mono HGR.out.io.size).trans ((one_alloc wc _).mono h5c)
      have hO1 : Hid (w2.heap.size < w9.heap.size) := by unfold Hid; omega
      have HNEX : Hid (firstUp (fun i => (G i).2) (J + 1) = 0) := by unfold Hid; rw [firstUp_step HFC.out, HJJ.out.2.1]
      have hJ16 : J < 16384 := by have := HJJ.out.1; omega
      clear OW h5c HFC HI10 HJJ
      go_wp2_with (at_builtin; refine wpList_append_B rfl _ _ 23 rfl w9.heap.size 43 i0 (.agg #[.int .i64 0, .int .i64 0, .slice none 0 0]) 3 40 Tryd.underlying23 hi0 hz00 hz01 hz02 rfl (by decide) _ _ _ rfl OWN ⟨wc.heap.size, 0, none⟩ 1 1 [.int .i64 0, .int .i64 V, .slice none 0 0] rfl rfl HNW.out ?c2 ?c3 ?c4 HZ10.out ?_)
      case c2 =>
        intro u hu
        simp at hu
        rcases hu with rfl | rfl | rfl <;> rfl
      case c3 => unfold maxLen; omega
      case c4 => omega
      intro v' w11 hown1 hb1
      obtain ⟨g, cp, rfl, -⟩ := owns_form hown1 (Nat.succ_pos J)
      have hown2 : w11.ownsRow w9.heap.size 43 3 (.slice (some ⟨g, 0, none⟩) (J + 1) cp) (J + 1) (rowT TT (J + 1)) := by rw [HSTP.out]; exact hown1
      have dd1 := ((HAB.out.trans hb1).cell (p := ⟨w2.heap.size, 1, none⟩) hO1.out).trans HGR.out.c1
      have dd3 := ((HAB.out.trans hb1).frozen (p := ⟨w2.heap.size, 1, none⟩) hO1.out).trans HGR.out.f1
      have HNX := hide (HGR.out.step hO1.out (HAB.out.trans hb1) hown2)
      clear hown1 hown2 hb1 OWN HNW HZ10 HSTP HAB HGR d1 d2 c0' c1' c2'
      go_wp2
      go_roundg (C2 - (k + 1))
      case rel => exact ⟨k + 1, _, by omega, by go_num, by rw [HST.out]; exact ⟨HNX.out, HNEX.out⟩⟩
      case measure => omega
    · have gE : (EG == 0) = false := beq_eq_false_iff_ne.2 hE0
      have HE : Hid (RR = (zeroA, EG)) := by
        have h := firstUp_hit (f := fun i => (G i).2) HFC.out (by show (G J).2 ≠ 0; rw [HJJ.out.2.1]; exact hE0) N HJJ.out.1
        have h2 : firstUp (fun i => (G i).2) N = EG := by rw [h]; show (G J).2 = EG; rw [HJJ.out.2.1]
        have h3 := HRED3.out
        unfold filR at h3
        rw [h2, if_neg hE0] at h3
        exact h3
      have p0 : wc.cell? ⟨w.heap.size + 1 + 1, 0, none⟩ = some (.slice none 0 0) := HI10.out.p0
      have p1 : wc.cell? ⟨w.heap.size + 1 + 1, 1, none⟩ = some (.slice none 0 0) := HI10.out.p1
      have f0 : wc.frozen? ⟨w.heap.size + 1 + 1, 0, none⟩ = false := HI10.out.f0
      have f1 : wc.frozen? ⟨w.heap.size + 1 + 1, 1, none⟩ = false := HI10.out.f1
      have HT := hide (HI10.out.put (.slice none 0 0) (.slice none 0 0))
      have HFI := hide HI10.out.fin
      clear HIN HX HY HC HRL HSE HRED3 HFC HI10 HGR HGG HJJ HTT
      go_wp2
      exact bodyPost_ret (v := .tuple #[.agg #[.slice none 0 0, .slice none 0 0], .int .i64 EG]) (by simp [results, Tryd.results18, go_sem, HT.out.1, HT.out.2]) rfl (gives2z0 HE.out (zeroA_in _ _ _) (HFI.out _ _))
end Go.Proofs.YtlfacpclihmnnaaDoor
namespace Go.Proofs.YtlfacpclihmnnaaDoor
open Go.ChangeShapes Go.WideShapes Go.ChangeAt Go.RowKit Go.Deep
set_option linter.unusedVariables false
theorem agg_two {v c0 c1 : Value} (h : v.cells.toList = [c0, c1]) : v = .agg #[c0, c1] := by
  cases v with
  | agg cs =>
    obtain ⟨l⟩ := cs
    simp [Value.cells] at h
    rw [h]
  | _ => simp [Value.cells] at h
end Go.Proofs.YtlfacpclihmnnaaDoor
