/-
  Layer 8: the program's Red, whole.
  Layer 8: Copy, with what is known of where its cells and boxes lie; a line out of cells that are written.
  Layer 8: an array folded as far as each, as mathematics (scanR).
  Layer 8: the program's Scan.
  Layer 8: fill by the closure of Outer; that closure: the function of two cells.
-/
import Derived.Test.YtlfacpclihmnnaaDoorM5
import Derived.WalkKit
import Derived.Test.YtlfacpclihmnnaaDoorChecked
import GoSem.Claim
import GoSem.ClaimJoined
import GoSem.ClaimMapViews
import Derived.JoinedTies
import Derived.KernelRfl
import Derived.ProofKit
import Derived.Below
import Derived.Deep.OwnRows
import Derived.Deep.QuietTactic
import Derived.BigQuiet
import Derived.Deep.RegionWith
import Derived.Laws.MakeOwn
import Derived.Deep.RegionHeld3
import Derived.OpenShut
import Derived.Lib.Mul64
import Derived.Laws.Bits64b
import Derived.ChangeOld
import Derived.SizedLaws
import Derived.Deep.Slices
import Derived.Deep.Strs
import Derived.Deep.LoopGhost
import Derived.Laws.IdiomCopy
import Derived.Deep.Cut
import Derived.Deep.RegionLaw
import Derived.Laws.AppendOwnNone
import Derived.BigFrame
import Derived.Laws.OwnMore
import Derived.OwnWalk
import Derived.Lib.SliceRun
import Derived.Deep.CutRange
import Derived.Laws.EntriesVeiled
import GoSem.ClaimSeven
import Derived.LaidByTextLater
import Derived.SevenTiedAt
import Derived.LaidSub
import Derived.LaidOnce
import Derived.Deep.DeepHandedRow
import Derived.Lib.LaidTab
namespace Go.Proofs.YtlfacpclihmnnaaDoor
open Go.ChangeShapes Go.WideShapes Go.ChangeAt Go.RowKit
open Num (resV resE In64 sgnI absI)
set_option linter.unusedVariables false
set_option linter.unusedSimpArgs false
set_option maxRecDepth 100000
/-- What a line of an array comes to. -/
def redG (op : Int) (t last : Bool) (x : Ar) (i : Nat) : Ce × Int := rowR op t (lnC x.cells (lgN last x.shape) (stN last (sizeV (outS last x.shape)).toNat) (nxN last x.shape) i)
/-- An array folded along its first axis, or its last (8.2). -/
def redR (op : Int) (t last : Bool) (x : Ar) : Ar × Int :=
  if fchk op (fun _ => chkA 8 x) 1 ≠ 0 then (zeroA, fchk op (fun _ => chkA 8 x) 1) else if x.shape.length = 0 then (x, 0) else if sizeE (outS last x.shape) ≠ 0 then (zeroA, sizeE (outS last x.shape))
  else filR (outS last x.shape) (sizeV (outS last x.shape)).toNat (redG op t last x)
/-- Two boxed arguments and the answer's place. -/
structure RedS (w : World) (op : Int) (t : Bool) (v0 v1 : Value) (W : World) : Prop where
  bel : Below w.heap.size w W
  lt : w.heap.size + 2 < W.heap.size
  p0 : W.cell? ⟨w.heap.size, 0, none⟩ = some (.int .i64 op)
  p1 : W.cell? ⟨w.heap.size, 1, none⟩ = some (.bool t)
  q0 : W.cell? ⟨w.heap.size + 1, 0, none⟩ = some v0
  q1 : W.cell? ⟨w.heap.size + 1, 1, none⟩ = some v1
  r0 : W.cell? ⟨w.heap.size + 2, 0, none⟩ = some (.slice none 0 0)
  r1 : W.cell? ⟨w.heap.size + 2, 1, none⟩ = some (.slice none 0 0)
  f0 : W.frozen? ⟨w.heap.size + 2, 0, none⟩ = false
  f1 : W.frozen? ⟨w.heap.size + 2, 1, none⟩ = false
theorem RedS.next {w W W' : World} {op : Int} {t : Bool} {v0 v1 : Value} (h : RedS w op t v0 v1 W) (hb : Below W.heap.size W W') : RedS w op t v0 v1 W' := by
  have h1 : w.heap.size < W.heap.size := by have := h.lt; omega
  have h2 : w.heap.size + 1 < W.heap.size := by have := h.lt; omega
  exact ⟨h.bel.trans (hb.mono h.bel.size), Nat.lt_of_lt_of_le h.lt hb.size, (hb.cell (p := ⟨w.heap.size, 0, none⟩) h1).trans h.p0, (hb.cell (p := ⟨w.heap.size, 1, none⟩) h1).trans h.p1, (hb.cell (p := ⟨w.heap.size + 1, 0, none⟩) h2).trans h.q0, (hb.cell (p := ⟨w.heap.size + 1, 1, none⟩) h2).trans h.q1, (hb.cell (p := ⟨w.heap.size + 2, 0, none⟩) h.lt).trans h.r0, (hb.cell (p := ⟨w.heap.size + 2, 1, none⟩) h.lt).trans h.r1, (hb.frozen (p := ⟨w.heap.size + 2, 0, none⟩) h.lt).trans h.f0, (hb.frozen (p := ⟨w.heap.size + 2, 1, none⟩) h.lt).trans h.f1⟩
theorem redS_new (w : World) (op : Int) (t : Bool) (v0 v1 : Value) : RedS w op t v0 v1 (((w.alloc (.cells #[.int .i64 op, .bool t] 32)).alloc (.cells #[v0, v1] 25)).alloc (.cells #[.slice none 0 0, .slice none 0 0] 25)) := by
  have e1 : (w.alloc (.cells #[.int .i64 op, .bool t] 32)).heap.size = w.heap.size + 1 := by simp
  have e2 : ((w.alloc (.cells #[.int .i64 op, .bool t] 32)).alloc (.cells #[v0, v1] 25)).heap.size = w.heap.size + 2 := by simp
  refine ⟨three_allocs _ _ _ _, by simp, ?_, ?_, ?_, ?_, ?_, ?_, ?_, ?_⟩
  · exact ((one_alloc _ _).cell (p := ⟨w.heap.size, 0, none⟩) (by show w.heap.size < _; omega)).trans (cell_new1 w _ 32 (0, 0) _ 0 _ rfl)
  · exact ((one_alloc _ _).cell (p := ⟨w.heap.size, 1, none⟩) (by show w.heap.size < _; omega)).trans (cell_new1 w _ 32 (0, 0) _ 1 _ rfl)
  · exact ((one_alloc _ _).cell (p := ⟨w.heap.size + 1, 0, none⟩) (by show w.heap.size + 1 < _; omega)).trans (by have := cell_new0 (w.alloc (.cells #[.int .i64 op, .bool t] 32)) #[v0, v1] 25 0 v0 rfl; rw [e1] at this; exact this)
  · exact ((one_alloc _ _).cell (p := ⟨w.heap.size + 1, 1, none⟩) (by show w.heap.size + 1 < _; omega)).trans (by have := cell_new0 (w.alloc (.cells #[.int .i64 op, .bool t] 32)) #[v0, v1] 25 1 v1 rfl; rw [e1] at this; exact this)
  · have := cell_new0 ((w.alloc (.cells #[.int .i64 op, .bool t] 32)).alloc (.cells #[v0, v1] 25)) #[.slice none 0 0, .slice none 0 0] 25 0 _ rfl; rw [e2] at this; exact this
  · have := cell_new0 ((w.alloc (.cells #[.int .i64 op, .bool t] 32)).alloc (.cells #[v0, v1] 25)) #[.slice none 0 0, .slice none 0 0] 25 1 _ rfl; rw [e2] at this; exact this
  · have : ∀ W : World, (W.alloc (.cells #[.slice none 0 0, .slice none 0 0] 25)).frozen? ⟨W.heap.size, 0, none⟩ = false := fun W => by simp
    have := this ((w.alloc (.cells #[.int .i64 op, .bool t] 32)).alloc (.cells #[v0, v1] 25)); rw [e2] at this; exact this
  · have : ∀ W : World, (W.alloc (.cells #[.slice none 0 0, .slice none 0 0] 25)).frozen? ⟨W.heap.size, 1, none⟩ = false := fun W => by simp
    have := this ((w.alloc (.cells #[.int .i64 op, .bool t] 32)).alloc (.cells #[v0, v1] 25)); rw [e2] at this; exact this
theorem RedS.give {w W : World} {op : Int} {t : Bool} {v0 v1 : Value} (h : RedS w op t v0 v1 W) {n lo : Nat} {x : Ar} {va : Value} (hx : ArIn n lo W x va) (hlo : w.heap.size + 3 ≤ lo) (u v : Value) : ArIn n w.heap.size ((W.setCell ⟨w.heap.size + 2, 0, none⟩ u).setCell ⟨w.heap.size + 2, 1, none⟩ v) x va := by
  have hk : Keeps (w.heap.size + 3) W ((W.setCell ⟨w.heap.size + 2, 0, none⟩ u).setCell ⟨w.heap.size + 2, 1, none⟩ v) := ((Keeps.refl _ _).setCell (p := ⟨w.heap.size + 2, 0, none⟩) (by show w.heap.size + 2 < _; omega) u).setCell (p := ⟨w.heap.size + 2, 1, none⟩) (by show w.heap.size + 2 < _; omega) v
  exact ((hx.mono hlo (Below.refl _ _)).keeps hk).mono (by omega) (Below.refl _ _)
theorem fchk_zero {op : Int} {x : Ar} (h : fchk op (fun _ => chkA 8 x) 1 = 0) : chkA 8 x = 0 := by
  unfold fchk at h
  by_cases h0 : chkA 8 x = 0
  · exact h0
  · have e : firstUp (fun _ => chkA 8 x) 1 = chkA 8 x := by simp [firstUp]
    rw [e, if_neg h0] at h
    exact h
set_option maxHeartbeats 8000000 in
theorem red12 {n lo S C c1 c2 : Nat} {x : Ar} {a1 a2 : Option Addr} {op : Int} {t last : Bool} {w : World} (hx : ArIn (n + 1) lo w x (.agg #[.slice a1 S c1, .slice a2 C c2])) (hin : ∀ k, k < x.cells.length → In64 (cAt x.cells k).2.1) (T : Tab w) :
    Calls Tryd.prog 12 #[.agg #[.int .i64 op, .bool t], .agg #[.slice a1 S c1, .slice a2 C c2], .bool last] w fun e w' => GivesR (n + 1) w.heap.size (redR op t last x) w e w' := by
  have RS := redS_new w op t (.slice a1 S c1) (.slice a2 C c2)
  obtain ⟨W3, hW3⟩ : ∃ W3, ((w.alloc (.cells #[.int .i64 op, .bool t] 32)).alloc (.cells #[.slice a1 S c1, .slice a2 C c2] 25)).alloc (.cells #[.slice none 0 0, .slice none 0 0] 25) = W3 := ⟨_, rfl⟩
  rw [hW3] at RS
  have CK : Calls Tryd.prog 25 #[.agg #[.int .i64 op, .bool t], .slice (some ⟨W3.heap.size, 0, none⟩) 1 1] (W3.alloc (.cells #[.slice a1 S c1, .slice a2 C c2] 25)) fun e w' => e = .returned (.int .i64 (fchk op (fun _ => chkA 8 x) 1)) ∧ Below W3.heap.size W3 w' := by
    have hb4 := one_alloc W3 (.cells #[.slice a1 S c1, .slice a2 C c2] 25)
    have hx4 := hx.next (RS.bel.trans (hb4.mono RS.bel.size))
    refine (check25 (n := n + 1) (lo := lo) (bA := W3.heap.size) (k := 1) (c := 1) (op := op) (t := t) (X := fun _ => x) (A1 := fun _ => a1) (A2 := fun _ => a2) (M1 := fun _ => S) (C1 := fun _ => c1) (M2 := fun _ => C) (C2 := fun _ => c2) (by omega) (by simp) (fun i hi => ?_)).mono ?_
    · have : i = 0 := by omega
      subst this
      exact ⟨cell_new0 W3 _ 25 0 _ rfl, cell_new0 W3 _ 25 1 _ rfl, hx4⟩
    · rintro e w' ⟨rfl, hb'⟩
      exact ⟨rfl, hb4.trans (hb'.mono hb4.size)⟩
  obtain ⟨EC, hEC⟩ : ∃ EC, fchk op (fun _ => chkA 8 x) 1 = EC := ⟨_, rfl⟩
  rw [hEC] at CK
  have p0 := RS.p0
  have p1 := RS.p1
  have q0 := RS.q0
  have q1 := RS.q1
  have HRS := hide RS
  have HX := hide hx
  have HIN := hide hin
  have HT := hide T
  have HEC := hide hEC
  clear hx hin T RS hEC
  go_enter Tryd.func12, Tryd.ntmps12
  go_wp2_with fail
  refine CK.mono ?_
  rintro e w1 ⟨rfl, hb1⟩
  clear CK p0 p1 q0 q1 hW3
  have RS1 := HRS.out.next hb1
  have p0 := RS1.p0
  have p1 := RS1.p1
  have q0 := RS1.q0
  have q1 := RS1.q1
  have r0 := RS1.r0
  have r1 := RS1.r1
  have f0 := RS1.f0
  have f1 := RS1.f1
  have HS1 := hide RS1
  clear RS1 hb1 HRS
  by_cases hE : EC = 0
  · subst hE
    have hchk := fchk_zero HEC.out
    have CP := copy_at n 8 x lo _ w1 hchk (HX.out.next HS1.out.bel)
    have hlt1 := HS1.out.lt
    go_wp2_with fail
    refine CP.mono ?_
    rintro e w2 ⟨⟨v, rfl, hxv, hap⟩, hbs⟩
    obtain ⟨bs, bc, rfl, -⟩ := hap
    have hb2 := hbs.b
    have h12 := hb2.size
    have hx4 := hxv.next (one_alloc w2 (.cells #[.slice (some ⟨bs, 0, none⟩) x.shape.length x.shape.length, .slice (some ⟨bc, 0, none⟩) x.cells.length x.cells.length] 25))
    have RS4 := (HS1.out.next hb2).next (one_alloc w2 (.cells #[.slice (some ⟨bs, 0, none⟩) x.shape.length x.shape.length, .slice (some ⟨bc, 0, none⟩) x.cells.length x.cells.length] 25))
    have y0 := cell_new0 w2 #[.slice (some ⟨bs, 0, none⟩) x.shape.length x.shape.length, .slice (some ⟨bc, 0, none⟩) x.cells.length x.cells.length] 25 0 _ rfl
    have y1 := cell_new0 w2 #[.slice (some ⟨bs, 0, none⟩) x.shape.length x.shape.length, .slice (some ⟨bc, 0, none⟩) x.cells.length x.cells.length] 25 1 _ rfl
    obtain ⟨W4, hW4⟩ : ∃ W4, w2.alloc (.cells #[.slice (some ⟨bs, 0, none⟩) x.shape.length x.shape.length, .slice (some ⟨bc, 0, none⟩) x.cells.length x.cells.length] 25) = W4 := ⟨_, rfl⟩
    rw [hW4] at hx4 RS4 y0 y1
    have hl4 : w2.heap.size < W4.heap.size := by rw [← hW4]; simp
    clear CP hxv hbs hb2 p0 p1 q0 q1 r0 r1 f0 f1
    have p0 := RS4.p0
    have p1 := RS4.p1
    have r0 : W4.cell? ⟨w.heap.size + 1 + 1, 0, none⟩ = some (.slice none 0 0) := RS4.r0
    have r1 : W4.cell? ⟨w.heap.size + 1 + 1, 1, none⟩ = some (.slice none 0 0) := RS4.r1
    have f0 : W4.frozen? ⟨w.heap.size + 1 + 1, 0, none⟩ = false := RS4.f0
    have f1 : W4.frozen? ⟨w.heap.size + 1 + 1, 1, none⟩ = false := RS4.f1
    have HX4 := hide hx4
    have HS4 := hide RS4
    have HCK := hide hchk
    clear hx4 RS4 HS1 hchk
    obtain ⟨SL, hSL⟩ : ∃ SL, x.shape.length = SL := ⟨_, rfl⟩
    obtain ⟨CL, hCL⟩ : ∃ CL, x.cells.length = CL := ⟨_, rfl⟩
    rw [hSL, hCL] at HX4 hW4 y0 y1 ⊢
    have HSL := hide (And.intro hSL hCL)
    clear hSL hCL
    by_cases h0 : SL = 0
    · have HR : Hid (redR op t last x = (x, 0)) := by
        unfold Hid redR
        rw [if_neg (by rw [HEC.out]; simp), if_pos (by rw [HSL.out.1]; exact h0)]
      subst h0
      have HT2' := hide (set_two r0 r1 (.slice (some ⟨bs, 0, none⟩) 0 0) (.slice (some ⟨bc, 0, none⟩) CL CL))
      go_wp2
      have hbf := below_set2 (v0 := .slice (some ⟨bs, 0, none⟩) 0 0) (v1 := .slice (some ⟨bc, 0, none⟩) CL CL) HS4.out.bel (by omega : w.heap.size ≤ w.heap.size + 2)
      have HTT := set_two HS4.out.r0 HS4.out.r1 (.slice (some ⟨bs, 0, none⟩) 0 0) (.slice (some ⟨bc, 0, none⟩) CL CL)
      have HT2 := HT2'.out
      exact bodyPost_ret (v := .tuple #[.agg #[.slice (some ⟨bs, 0, none⟩) 0 0, .slice (some ⟨bc, 0, none⟩) CL CL], .int .i64 0]) (by simp [results, Tryd.results12, go_sem, HTT.1, HTT.2, HT2.1, HT2.2]) rfl ⟨⟨_, by rw [HR.out], by rw [HR.out]; exact HS4.out.give HX4.out (by omega) _ _⟩, hbf⟩
    · obtain ⟨b1, k1, b2, k2, he, RW, hcw⟩ := HX4.out.formC
      rw [HSL.out.1, HSL.out.2] at he
      simp only [Value.agg.injEq, Array.mk.injEq, List.cons.injEq, Value.slice.injEq, and_true, true_and] at he
      obtain ⟨⟨rfl, rfl⟩, ⟨rfl, rfl⟩⟩ := he
      obtain ⟨hsE, hsV, -, -⟩ := (chkA_iff 8 x).1 HCK.out
      have h8 := (fine_cases hsE).1
      have CW := without27 (lo := w1.heap.size) x.shape last (some ⟨bs, 0, none⟩) SL W4 RW (by rw [HSL.out.1]; omega) (by omega) (by rw [HSL.out.1]; omega)
      rw [HSL.out.1] at CW
      have hz : ¬ ((SL : Int) = 0) := by omega
      have hOL := outS_len last x.shape
      rw [HSL.out.1] at hOL
      go_wp2_with fail
      refine CW.mono ?_
      rintro e w5 ⟨⟨ao, co, rfl, hown⟩, hb5⟩
      have RO := hown.2.2
      have CZ := size_any (outS last x.shape) ao co w5 RO
      rw [hOL] at CZ
      have S5 := HS4.out.next hb5
      have Y0 := (hb5.cell (p := ⟨w2.heap.size, 0, none⟩) hl4).trans y0
      have Y1 := (hb5.cell (p := ⟨w2.heap.size, 1, none⟩) hl4).trans y1
      have HX5 := hide (HX4.out.next hb5)
      have HRO := hide RO
      have hl5 : w2.heap.size < w5.heap.size := Nat.lt_of_lt_of_le hl4 hb5.size
      have hl45 := hb5.size
      clear CW y0 y1 p0 p1 r0 r1 f0 f1 hown hb5 RO RW hcw HX4
      have p0 := S5.p0
      have p1 := S5.p1
      have r0 := S5.r0
      have r1 := S5.r1
      have f0 := S5.f0
      have f1 := S5.f1
      have HS5 := hide S5
      clear S5
      obtain ⟨V, hV⟩ : ∃ V, sizeV (outS last x.shape) = V := ⟨_, rfl⟩
      obtain ⟨EE, hEE⟩ : ∃ EE, sizeE (outS last x.shape) = EE := ⟨_, rfl⟩
      rw [hV, hEE] at CZ
      have HVE := hide (And.intro hV hEE)
      clear hV hEE
      go_wp2_with fail
      refine CZ.mono ?_
      rintro e w6 ⟨rfl, hw6⟩
      subst hw6
      clear CZ
      by_cases hE5 : EE = 0
      · subst hE5
        obtain ⟨m, rfl⟩ : ∃ m : Nat, V = (m : Int) := ⟨V.toNat, by have := (sizeV_le HVE.out.2).1; rw [HVE.out.1] at this; omega⟩
        have hm16 : m ≤ 16384 := by have := (sizeV_le HVE.out.2).2; rw [HVE.out.1] at this; omega
        obtain ⟨b1, k1, b2, k2, he, RW, hcw⟩ := HX5.out.formC
        rw [HSL.out.1, HSL.out.2] at he
        simp only [Value.agg.injEq, Array.mk.injEq, List.cons.injEq, Value.slice.injEq, and_true, true_and] at he
        obtain ⟨⟨rfl, rfl⟩, ⟨rfl, rfl⟩⟩ := he
        have CLn := linesOf29 (CA := CL) (c1 := SL) (c2 := CL) x.shape last (m : Int) (some ⟨bs, 0, none⟩) (some ⟨bc, 0, none⟩) w6 RW (by rw [HSL.out.1]; omega) (by omega)
        rw [HSL.out.1] at CLn
        have hl0 := lgI_nonneg (last := last) (fine_cases hsE).2.1 (by rw [HSL.out.1]; omega)
        have elg : lgI last x.shape = ((lgN last x.shape : Nat) : Int) := by unfold lgN; omega
        have est : stI last (m : Int) = ((stN last m : Nat) : Int) := by unfold stI stN; cases last <;> rfl
        have enx : nxI last x.shape = ((nxN last x.shape : Nat) : Int) := by
          have e : nxI last x.shape = if last then lgI last x.shape else 1 := by cases last <;> rfl
          rw [e, elg]
          unfold nxN lgN
          cases last <;> simp
        rw [elg, est, enx] at CLn
        have HRD : Hid (redR op t last x = filR (outS last x.shape) m (redG op t last x)) := by
          unfold Hid redR
          rw [if_neg (by rw [HEC.out]; simp), if_neg (by rw [HSL.out.1]; exact h0), if_neg (by rw [HVE.out.2]; simp), HVE.out.1]
          rfl
        have HGG : Hid (∀ i, redG op t last x i = rowR op t (lnC x.cells (lgN last x.shape) (stN last m) (nxN last x.shape) i)) := fun i => by
          unfold redG
          rw [HVE.out.1]
          rfl
        have HLI : Hid (0 < m → lgN last x.shape ≤ 16384 ∧ ∀ i k, i < m → k < lgN last x.shape → i * nxN last x.shape + k * stN last m < CL) := fun h => lines_in (by rw [HSL.out.1]; omega) hsE (by rw [hsV, HSL.out.2]) HVE.out.2 HVE.out.1 h
        have hc16 : CL ≤ 16384 := by have := (sizeV_le hsE).2; rw [hsV, HSL.out.2] at this; omega
        clear hl0 elg est enx RW hcw
        generalize lgN last x.shape = lg at *
        generalize stN last m = st at *
        generalize nxN last x.shape = nx at *
        go_wp2_with fail
        refine CLn.mono ?_
        rintro e w7 ⟨rfl, hb7⟩
        clear CLn
        have hb8 := one_alloc w7 (.cells #[.slice (some ⟨bc, 0, none⟩) CL CL, .int .i64 (lg : Int), .int .i64 (st : Int), .int .i64 (nx : Int)] 60)
        have z0 := cell_new0 w7 #[.slice (some ⟨bc, 0, none⟩) CL CL, .int .i64 (lg : Int), .int .i64 (st : Int), .int .i64 (nx : Int)] 60 0 _ rfl
        have z1 := cell_new0 w7 #[.slice (some ⟨bc, 0, none⟩) CL CL, .int .i64 (lg : Int), .int .i64 (st : Int), .int .i64 (nx : Int)] 60 1 _ rfl
        have z2 := cell_new0 w7 #[.slice (some ⟨bc, 0, none⟩) CL CL, .int .i64 (lg : Int), .int .i64 (st : Int), .int .i64 (nx : Int)] 60 2 _ rfl
        have z3 := cell_new0 w7 #[.slice (some ⟨bc, 0, none⟩) CL CL, .int .i64 (lg : Int), .int .i64 (st : Int), .int .i64 (nx : Int)] 60 3 _ rfl
        obtain ⟨W8, hW8⟩ : ∃ W8, w7.alloc (.cells #[.slice (some ⟨bc, 0, none⟩) CL CL, .int .i64 (lg : Int), .int .i64 (st : Int), .int .i64 (nx : Int)] 60) = W8 := ⟨_, rfl⟩
        rw [hW8] at hb8 z0 z1 z2 z3
        have hl8 : w7.heap.size < W8.heap.size := by rw [← hW8]; simp
        have h67 := hb7.size
        have hB8 := hb7.trans (hb8.mono hb7.size)
        have S8 := HS5.out.next hB8
        have hX8 := HX5.out.next hB8
        have RO8 := HRO.out.next hB8
        obtain ⟨b1, k1, b2, k2, he, RW, hcw⟩ := hX8.formC
        rw [HSL.out.1, HSL.out.2] at he
        simp only [Value.agg.injEq, Array.mk.injEq, List.cons.injEq, Value.slice.injEq, and_true, true_and] at he
        obtain ⟨⟨rfl, rfl⟩, ⟨rfl, rfl⟩⟩ := he
        have CF := fill31 (n := n) (lo := w1.heap.size) (N := m) (S := SL - 1) (c1 := co) (s := outS last x.shape) (a1 := ao) (p1 := .pointer (some ⟨w.heap.size, 0, none⟩)) (p2 := .pointer (some ⟨w7.heap.size, 0, none⟩)) (G := redG op t last x) (w0 := W8) (w := W8) (Below.refl _ _) (RO8.low (by omega)) hOL (by omega) hm16 (fun W hW i hi => by
          rw [HGG.out i]
          have hs8 := S8.lt
          obtain ⟨g1, g2⟩ := HLI.out (by omega)
          refine red31 (c := CL) (bF := w.heap.size) (bL := w7.heap.size) hW (CellsO.next (CellsIn.old hcw) hW) HSL.out.2 (by have := hW.size; omega) hc16 g1 (fun k hk => g2 i k hi hk) (fun k hk => HIN.out k (by rw [HSL.out.2]; exact hk)) (HT.out.next (S8.bel.trans (hW.mono S8.bel.size))) (by have := hW.size; omega) ((hW.cell (p := ⟨w.heap.size, 0, none⟩) (by show w.heap.size < _; omega)).trans S8.p0) ((hW.cell (p := ⟨w.heap.size, 1, none⟩) (by show w.heap.size < _; omega)).trans S8.p1) (by have := hW.size; omega) ((hW.cell (p := ⟨w7.heap.size, 0, none⟩) hl8).trans z0) ((hW.cell (p := ⟨w7.heap.size, 1, none⟩) hl8).trans z1) ((hW.cell (p := ⟨w7.heap.size, 2, none⟩) hl8).trans z2) ((hW.cell (p := ⟨w7.heap.size, 3, none⟩) hl8).trans z3))
        rw [← HRD.out] at CF
        have HS8 := hide S8
        clear S8 hX8 RO8 RW hcw z0 z1 z2 z3 HGG HLI HX5 HRO hb7 hb8 hB8 p0 p1 r0 r1 f0 f1 Y0 Y1
        go_wp2_with fail
        refine CF.mono ?_
        rintro e w9 ⟨⟨v, rfl, hxr⟩, hb9⟩
        obtain ⟨a3, c3, a4, c4, rfl, -, -⟩ := hxr.formC
        have S9 := HS8.out.next hb9
        have HXR := hide hxr
        clear hxr hb9 CF HRD HS8
        obtain ⟨RR, hRR⟩ : ∃ RR, redR op t last x = RR := ⟨_, rfl⟩
        rw [hRR] at HXR ⊢
        have HRR := hide hRR
        clear hRR
        generalize RR.1.shape.length = l3 at *
        generalize RR.1.cells.length = l4 at *
        have r0 := S9.r0
        have r1 := S9.r1
        have f0 := S9.f0
        have f1 := S9.f1
        have HS9 := hide S9
        clear S9
        go_wp2
        have hbf := below_set2 (v0 := .slice a3 l3 c3) (v1 := .slice a4 l4 c4) HS9.out.bel (by omega : w.heap.size ≤ w.heap.size + 2)
        have HTT := set_two HS9.out.r0 HS9.out.r1 (.slice a3 l3 c3) (.slice a4 l4 c4)
        exact bodyPost_ret (v := .tuple #[.agg #[.slice a3 l3 c3, .slice a4 l4 c4], .int .i64 RR.2]) (by simp [results, Tryd.results12, go_sem, HTT.1, HTT.2]) rfl ⟨⟨_, by rw [HRR.out], by rw [HRR.out]; exact HS9.out.give HXR.out (by omega) _ _⟩, hbf⟩
      · have gE : (EE == 0) = false := beq_eq_false_iff_ne.2 hE5
        have HR : Hid (redR op t last x = (zeroA, EE)) := by
          unfold Hid redR
          rw [if_neg (by rw [HEC.out]; simp), if_neg (by rw [HSL.out.1]; exact h0), if_pos (by rw [HVE.out.2]; exact hE5), HVE.out.2]
        go_wp2
        have hbf := below_set2 (v0 := .slice none 0 0) (v1 := .slice none 0 0) HS5.out.bel (by omega : w.heap.size ≤ w.heap.size + 2)
        have HTT := set_two HS5.out.r0 HS5.out.r1 (.slice none 0 0) (.slice none 0 0)
        exact bodyPost_ret (v := .tuple #[.agg #[.slice none 0 0, .slice none 0 0], .int .i64 EE]) (by simp [results, Tryd.results12, go_sem, HTT.1, HTT.2]) rfl ⟨⟨_, by rw [HR.out], by rw [HR.out]; exact zeroA_in _ _ _⟩, hbf⟩
  · have gE : (EC == 0) = false := beq_eq_false_iff_ne.2 hE
    have HR : Hid (redR op t last x = (zeroA, EC)) := by
      unfold Hid redR
      rw [if_pos (by rw [HEC.out]; exact hE), HEC.out]
    go_wp2
    have hbf := below_set2 (v0 := .slice none 0 0) (v1 := .slice none 0 0) HS1.out.bel (by omega : w.heap.size ≤ w.heap.size + 2)
    have HTT := set_two HS1.out.r0 HS1.out.r1 (.slice none 0 0) (.slice none 0 0)
    exact bodyPost_ret (v := .tuple #[.agg #[.slice none 0 0, .slice none 0 0], .int .i64 EC]) (by simp [results, Tryd.results12, go_sem, HTT.1, HTT.2]) rfl ⟨⟨_, by rw [HR.out], by rw [HR.out]; exact zeroA_in _ _ _⟩, hbf⟩
end Go.Proofs.YtlfacpclihmnnaaDoor
namespace Go.Proofs.YtlfacpclihmnnaaDoor
open Go.ChangeShapes Go.WideShapes Go.ChangeAt Go.RowKit
open Num (resV resE In64 sgnI absI)
set_option linter.unusedVariables false
set_option linter.unusedSimpArgs false
set_option maxRecDepth 100000
/-- What Copy tells: its shape in block bs, its cells in block bc, all boxes from lo on. -/
def GivesU (n : Nat) (x : Ar) (w : World) (e : Ending) (w' : World) : Prop :=
  ∃ (bs bc lo : Nat) (F : Nat → Value), e = .returned (.agg #[.slice (some ⟨bs, 0, none⟩) x.shape.length x.shape.length, .slice (some ⟨bc, 0, none⟩) x.cells.length x.cells.length]) ∧ w.heap.size ≤ bs ∧ w.heap.size ≤ bc ∧ bs < lo ∧ bc < lo ∧ bs ≠ bc ∧ lo ≤ w'.heap.size ∧ Row w.heap.size w' (some ⟨bs, 0, none⟩) x.shape ∧ w'.rowIs bc 43 (x.cells.length * 3) F ∧
    (∀ i, i < x.cells.length → CeIn (ArIn n lo w') lo w' (cAt x.cells i) (F (i * 3)) (F (i * 3 + 1)) (F (i * 3 + 2))) ∧ Below w.heap.size w w'
/-- Cells anywhere whose boxes lie from lo on, in an elder world. -/
def LineO (N lo : Nat) (w0 w : World) (cs : List Ce) (a : Option Addr) : Prop := ∃ (ab : Nat → Option Addr) (cb : Nat → Nat), 0 < cs.length → ∃ b off, a = some ⟨b, off, none⟩ ∧ 0 ≤ b ∧ b < w.heap.size ∧ ∀ i, i < cs.length → w.cell? ⟨b, off + i * 3, none⟩ = some (.int .i64 (cAt cs i).1) ∧ w.cell? ⟨b, off + i * 3 + 1, none⟩ = some (.int .i64 (cAt cs i).2.1) ∧ w.cell? ⟨b, off + i * 3 + 2, none⟩ = some (.slice (ab i) (cAt cs i).2.2.length (cb i)) ∧
    CeIn (ArIn N lo w0) lo w0 (cAt cs i) (.int .i64 (cAt cs i).1) (.int .i64 (cAt cs i).2.1) (.slice (ab i) (cAt cs i).2.2.length (cb i))
set_option maxHeartbeats 8000000 in
theorem copy_apart (n : Nat) (IH : CopyC n) : ∀ r x lo va w, chkA r x = 0 → ArIn (n + 1) lo w x va → Calls Tryd.prog 26 #[va] w fun e w' => GivesU n x w e w' := by
  intro r x lo va w hchk hx
  obtain ⟨a1, c1, a2, c2, rfl, R, hl, hc⟩ := hx
  obtain ⟨f, hf, hS8, hC16, hcs⟩ := chk_ok hchk
  have mk1 := run_make_row' (P := Tryd.prog) 22 3 (.int .i64 0) 8 Tryd.underlying22 int3 rfl .i64 .i64 x.shape.length (by omega) (by omega)
  have mk2 := make_cells x.cells.length hl
  obtain ⟨W2, e2⟩ : ∃ W2, W2 = (w.alloc (.cells #[.slice a1 x.shape.length c1, .slice a2 x.cells.length c2] 25)).alloc (.cells #[.slice none 0 0, .slice none 0 0] 25) := ⟨_, rfl⟩
  have B2 : BelowS w.heap.size w W2 := by rw [e2]; exact two_allocsS _ _ _
  have s2 : W2.heap.size = w.heap.size + 2 := by rw [e2]; exact size_two _ _ _
  have q0 : W2.cell? ⟨w.heap.size, 0, none⟩ = some (.slice a1 x.shape.length c1) := by rw [e2]; exact cell_new1 w _ 25 (0, 0) _ 0 _ rfl
  have q1 : W2.cell? ⟨w.heap.size, 1, none⟩ = some (.slice a2 x.cells.length c2) := by rw [e2]; exact cell_new1 w _ 25 (0, 0) _ 1 _ rfl
  have p0 : W2.cell? ⟨w.heap.size + 1, 0, none⟩ = some (.slice none 0 0) := by rw [e2]; exact cell_new2 w _ 25 (0, 0) _ 0 _ rfl
  have p1 : W2.cell? ⟨w.heap.size + 1, 1, none⟩ = some (.slice none 0 0) := by rw [e2]; exact cell_new2 w _ 25 (0, 0) _ 1 _ rfl
  have pf : ∀ i, W2.frozen? ⟨w.heap.size + 1, i, none⟩ = false := by
    intro i
    have := frozen_new (w.alloc (.cells #[.slice a1 x.shape.length c1, .slice a2 x.cells.length c2] 25)) #[.slice none 0 0, .slice none 0 0] 25 i
    have s1 : (w.alloc (.cells #[.slice a1 x.shape.length c1, .slice a2 x.cells.length c2] 25)).heap.size = w.heap.size + 1 := by simp
    rw [s1] at this
    rw [e2]
    exact this
  have HX : Hid (Row lo w a1 x.shape) := R
  have HCS : Hid (∀ i, i < x.cells.length → ∃ b off z0 z1 ab nb cb, a2 = some ⟨b, off, none⟩ ∧ ∀ wr, BelowS w.heap.size w wr → (wr.cell? ⟨b, off + i * 3, none⟩ = some (.int .i64 z0) ∧ wr.cell? ⟨b, off + i * 3 + 1, none⟩ = some (.int .i64 z1) ∧ wr.cell? ⟨b, off + i * 3 + 2, none⟩ = some (.slice ab nb cb)) ∧ Calls Tryd.prog 58 #[.agg #[.int .i64 z0, .int .i64 z1, .slice ab nb cb]] wr fun e w' => (∃ a' cap', e = .returned (.agg #[.int .i64 z0, .int .i64 z1, .slice a' nb cap']) ∧ CeIn (ArIn n wr.heap.size w') wr.heap.size w' (cAt x.cells i) (.int .i64 z0) (.int .i64 z1) (.slice a' nb cap')) ∧ BelowS wr.heap.size wr w') := by
    intro i hi
    obtain ⟨b, off, z0, z1, ab, nb, cb, ha, h⟩ := cells_at hc i hi
    refine ⟨b, off, z0, z1, ab, nb, cb, ha, fun wr hw => ?_⟩
    obtain ⟨g0, g1, g2, g3⟩ := h wr hw.b
    refine ⟨⟨g0, g1, g2⟩, (copyCell_any n IH f hf _ (hcs i hi) lo wr _ _ _ g3).mono ?_⟩
    obtain ⟨h0, h1, a', cap', h2, -⟩ := g3
    simp only [Value.int.injEq, true_and, Value.slice.injEq] at h0 h1 h2
    obtain ⟨-, rfl, -⟩ := h2
    subst h0 h1
    exact fun e w' h => h
  have HL := hide R.1
  clear R hc IH hcs hchk hf
  have HAR : Hid (∀ (W : World) (a1' a2' : Option Addr) (k1 k2 : Nat), Row w.heap.size W a1' x.shape → CellsIn n w.heap.size W x.cells a2' → ArIn (n + 1) w.heap.size W x (.agg #[.slice a1' x.shape.length k1, .slice a2' x.cells.length k2])) := fun W a1' a2' k1 k2 hr hcc => arIn_mk hr hl hcc rfl rfl
  generalize hSA : x.shape.length = SA at *
  generalize hCA : x.cells.length = CA at *
  go_enter Tryd.func26, Tryd.ntmps26
  go_wp2
  go_cut [3] from 6 (fun s3 wx => ∃ bs bc bo, s3 = .pointer (some ⟨bo, 0, none⟩) ∧ Pre w W2 SA CA bs bc bo wx)
  case first =>
    have AL := fun o1 o2 o3 => alloc3 W2 o1 o2 o3
    rw [s2] at AL
    have HAL := hide AL
    clear AL
    go_region
    all_goals
      go_wp2
      go_meet
    all_goals
      case rel =>
        rw [← e2]
        obtain ⟨A, B, C, D, E⟩ := HAL.out _ _ _
        first
          | exact ⟨w.heap.size + 2, w.heap.size + 3, w.heap.size + 4, rfl, D, E rfl rfl rfl, by omega, A, B, C⟩
          | exact ⟨w.heap.size + 2, w.heap.size + 4, w.heap.size + 3, rfl, D, E rfl rfl rfl, by omega, A, C, B⟩
          | exact ⟨w.heap.size + 3, w.heap.size + 2, w.heap.size + 4, rfl, D, E rfl rfl rfl, by omega, B, A, C⟩
          | exact ⟨w.heap.size + 4, w.heap.size + 2, w.heap.size + 3, rfl, D, E rfl rfl rfl, by omega, C, A, B⟩
          | exact ⟨w.heap.size + 3, w.heap.size + 4, w.heap.size + 2, rfl, D, E rfl rfl rfl, by omega, B, C, A⟩
          | exact ⟨w.heap.size + 4, w.heap.size + 3, w.heap.size + 2, rfl, D, E rfl rfl rfl, by omega, C, B, A⟩
  case rest =>
    obtain ⟨bs, bc, bo, rfl, hz, E, ⟨⟨i1, i2⟩, ⟨i3, i4⟩, ⟨i5, i6⟩, i7, i8, i9⟩, hbs, hbc, hbo⟩ := hcut
    have cellof : ∀ (b i : Nat) (cs : Array Value) (t : TypeId) (v : Value), wc.heap[b]? = some (.cells cs t) → cs[i]? = some v → wc.cell? ⟨b, i, none⟩ = some v := by
      intro b i cs t v h hi
      unfold World.cell?
      simp only [h, hi]
      rfl
    have Q0 : wc.cell? ⟨w.heap.size, 0, none⟩ = some (.slice a1 SA c1) := (E.cell (p := ⟨w.heap.size, 0, none⟩) (by show w.heap.size < _; omega)).trans q0
    have O0 : wc.cell? ⟨bo, 0, none⟩ = some (.slice (some ⟨bs, 0, none⟩) SA SA) := cellof _ _ _ _ _ hbo rfl
    have RB : wc.rowIs bs 3 SA (fun _ => .int .i64 0) := ⟨_, hbs, size_madeCells _ _, fun i hi => by simp [madeCells, hi, Nat.mod_one]⟩
    have BW : BelowS w.heap.size w wc := B2.trans (E.mono (by omega))
    have HSRC : Hid (0 < (x.shape.map (Value.int .i64)).length → ∃ ad, a1 = some ad ∧ ∀ j v, (x.shape.map (Value.int .i64))[j]? = some v → wc.cell? (ad.add j) = some v) := by
      intro h0
      rcases HX.out.2 with h | ⟨b, off, ha, hlo, hb, hcell⟩
      · rw [h] at h0; simp at h0
      · refine ⟨⟨b, off, none⟩, ha, fun j v hv => ?_⟩
        have hj : j < x.shape.length := by
          rcases Nat.lt_or_ge j x.shape.length with h' | h'
          · exact h'
          · simp [List.getElem?_eq_none h'] at hv
        have ea : (⟨b, off, none⟩ : Addr).add j = ⟨b, off + j, none⟩ := by
          unfold Addr.add
          split
          · subst_vars; rfl
          · rfl
        rw [ea]
        refine (BW.cell (p := ⟨b, off + j, none⟩) hb).trans ((hcell j hj).trans ?_)
        rw [List.getElem?_map, List.getElem?_eq_getElem hj] at hv
        rw [List.getElem?_eq_getElem hj]
        simpa using hv
    have hml : (x.shape.map (Value.int .i64)).length = SA := by rw [List.length_map]; exact hSA
    have HC1 : Hid (∀ j, j < (x.shape.map (Value.int .i64)).length → (wc.cell? ⟨bs, 0 + j, none⟩).isSome = true) := by
      intro j hj
      rw [Nat.zero_add, RB.cell (by omega)]; rfl
    have HF1 : Hid (∀ j, j < (x.shape.map (Value.int .i64)).length → wc.frozen? ⟨bs, 0 + j, none⟩ = false) := by
      intro j hj
      rw [Nat.zero_add]; exact RB.frozen j
    have HO1 : Hid (∀ v ∈ x.shape.map (Value.int .i64), v.oneCell' = true) := by
      intro v hv
      obtain ⟨z, _, rfl⟩ := List.mem_map.1 hv
      rfl
    have hrun := run_copy_any (P := Tryd.prog) (w := wc) 3 Tryd.underlying22 size3 bs SA SA a1 c1 (x.shape.map (Value.int .i64)) hml HSRC.out HC1.out HF1.out HO1.out
    have SB := setCells_block bs (x.shape.map (Value.int .i64)) 0 wc
    have SIN := World.cell?_setCells_in bs (x.shape.map (Value.int .i64)) 0 wc (fun j hj => HC1.out j hj)
    have BB := below_setCells bs (show w.heap.size ≤ bs by omega) (x.shape.map (Value.int .i64)) 0 wc BW
    have hROW : ∀ i, i < x.shape.length → (wc.setCells bs 0 (x.shape.map (Value.int .i64))).cell? ⟨bs, i, none⟩ = some (.int .i64 (x.shape[i]?.getD 0)) := by
      intro i hi
      have := SIN i (by simpa using hi)
      rw [Nat.zero_add] at this
      rw [this]
      simp [hi]
    generalize wc.setCells bs 0 (x.shape.map (Value.int .i64)) = w3 at hrun SB BB hROW
    have HROW := hide hROW
    have tr3 : ∀ b i v, b ≠ bs → wc.cell? ⟨b, i, none⟩ = some v → w3.cell? ⟨b, i, none⟩ = some v := fun b i v hne hv => by
      rw [World.cell?_of_block (w := wc) (SB.2 b hne)]; exact hv
    have tf3 : ∀ b i, b ≠ bs → wc.frozen? ⟨b, i, none⟩ = false → w3.frozen? ⟨b, i, none⟩ = false := fun b i hne hv => by
      rw [World.frozen?_of_block (w := wc) (SB.2 b hne)]; exact hv
    have Q1 : w3.cell? ⟨w.heap.size, 1, none⟩ = some (.slice a2 CA c2) := tr3 _ _ _ (by omega) ((E.cell (p := ⟨w.heap.size, 1, none⟩) (by show w.heap.size < _; omega)).trans q1)
    have O3 : w3.cell? ⟨bo, 0, none⟩ = some (.slice (some ⟨bs, 0, none⟩) SA SA) := tr3 _ _ _ (by omega) O0
    have O4 : w3.cell? ⟨bo, 1, none⟩ = some (.slice (some ⟨bc, 0, none⟩) CA CA) := tr3 _ _ _ (by omega) (cellof _ _ _ _ _ hbo rfl)
    have P3 : w3.cell? ⟨w.heap.size + 1, 0, none⟩ = some (.slice none 0 0) := tr3 _ _ _ (by omega) ((E.cell (p := ⟨w.heap.size + 1, 0, none⟩) (by show w.heap.size + 1 < _; omega)).trans p0)
    have P4 : w3.cell? ⟨w.heap.size + 1, 1, none⟩ = some (.slice none 0 0) := tr3 _ _ _ (by omega) ((E.cell (p := ⟨w.heap.size + 1, 1, none⟩) (by show w.heap.size + 1 < _; omega)).trans p1)
    have P5 : ∀ i, w3.frozen? ⟨w.heap.size + 1, i, none⟩ = false := fun i => tf3 _ _ (by omega) ((E.frozen (p := ⟨w.heap.size + 1, i, none⟩) (by show w.heap.size + 1 < _; omega)).trans (pf i))
    have hz3 : w3.heap.size = w.heap.size + 5 := SB.1.trans hz
    have RC : w3.rowIs bc 43 (CA * 3) zero3 := by
      have h0 : wc.rowIs bc 43 (CA * 3) zero3 := by
        obtain ⟨c, h1, h2, h3⟩ := rowIs_made3 wc (CA * 3)
        have e : c = madeCells #[.int .i64 0, .int .i64 0, .slice none 0 0] (CA * 3) := by
          have h4 : (wc.alloc (.cells (madeCells #[.int .i64 0, .int .i64 0, .slice none 0 0] (CA * 3)) 43)).heap[wc.heap.size]? = some (.cells (madeCells #[.int .i64 0, .int .i64 0, .slice none 0 0] (CA * 3)) 43) := by
            show (wc.heap.push _)[wc.heap.size]? = _
            simp
          rw [h4] at h1
          simp only [Option.some.injEq, Obj.cells.injEq, true_and] at h1
          exact h1.1.symm
        exact ⟨c, by rw [e]; exact hbc, h2, h3⟩
      exact h0.of_block (SB.2 bc (fun h => i7 h.symm))
    /- What a world in the loop still holds of the memory that was made before. -/
    have HKP : Hid (∀ wr : World, (∀ k, k < w.heap.size + 5 → k ≠ bc → wr.heap[k]? = w3.heap[k]?) → wr.cell? ⟨bo, 0, none⟩ = some (.slice (some ⟨bs, 0, none⟩) SA SA) ∧ wr.cell? ⟨bo, 1, none⟩ = some (.slice (some ⟨bc, 0, none⟩) CA CA) ∧ wr.cell? ⟨w.heap.size + 1, 0, none⟩ = some (.slice none 0 0) ∧ wr.cell? ⟨w.heap.size + 1, 1, none⟩ = some (.slice none 0 0) ∧ (∀ i, wr.frozen? ⟨w.heap.size + 1, i, none⟩ = false) ∧ ∀ i, i < x.shape.length → wr.cell? ⟨bs, i, none⟩ = some (.int .i64 (x.shape[i]?.getD 0))) := by
      intro wr h
      have t : ∀ b i v, b < w.heap.size + 5 → b ≠ bc → w3.cell? ⟨b, i, none⟩ = some v → wr.cell? ⟨b, i, none⟩ = some v := fun b i v h1 h2 h3 => by
        rw [World.cell?_of_block (w := w3) (h b h1 h2)]; exact h3
      exact ⟨t _ _ _ (by omega) (by omega) O3, t _ _ _ (by omega) (by omega) O4, t _ _ _ (by omega) (by omega) P3, t _ _ _ (by omega) (by omega) P4, fun i => by
        rw [World.frozen?_of_block (w := w3) (h (w.heap.size + 1) (by omega) (by omega))]; exact P5 i, fun i hi => t _ _ _ (by omega) (by omega) (HROW.out i hi)⟩
    have HBB := hide BB
    have HZ3 := hide hz3
    have HRC := hide RC
    have HLT : Hid (w.heap.size + 2 ≤ bs ∧ w.heap.size + 2 ≤ bc ∧ bs < w.heap.size + 5 ∧ bc < w.heap.size + 5 ∧ bo < w.heap.size + 5 ∧ bs ≠ bc ∧ bo ≠ bc ∧ w.heap.size + 2 ≤ bo) := ⟨i1, i3, i2, i4, i6, i7, fun h => i9 h.symm, i5⟩
    clear cellof RB BW HSRC hml HC1 HF1 HO1 SB SIN BB hROW tr3 tf3 O3 O4 P3 P4 P5 hz3 RC HROW HX E hbs hbc hbo q0 q1 p0 p1 pf B2 s2 e2 mk1 mk2 hz
    go_wp2
    go_loopw [23] (fun i wr => ∃ j : Nat, j ≤ CA ∧ i = .int .i64 (j : Int) ∧ BelowS w.heap.size w wr ∧ w.heap.size + 5 ≤ wr.heap.size ∧ (∀ k, k < w.heap.size + 5 → k ≠ bc → wr.heap[k]? = w3.heap[k]?) ∧ ∃ F, wr.rowIs bc 43 (CA * 3) F ∧ ∀ i, i < j → CeIn (ArIn n (w.heap.size + 5) wr) (w.heap.size + 5) wr (cAt x.cells i) (F (i * 3)) (F (i * 3 + 1)) (F (i * 3 + 2))) (fun i _ => CA - (intOf i).toNat)
    case atStart => exact ⟨0, Nat.zero_le _, rfl, HBB.out, by rw [HZ3.out]; exact Nat.le_refl _, fun _ _ _ => rfl, zero3, HRC.out, fun i hi => absurd hi (by omega)⟩
    case round =>
      obtain ⟨j, hj, rfl, hnx, hsz, hkeep, F, hr, hF⟩ := hrel
      obtain ⟨t0, t1, t2, t3, t4, t5⟩ := HKP.out wr hkeep
      by_cases hlt : j < CA
      · obtain ⟨b, off, z0, z1, ab, nb, cb, rfl, hcs⟩ := HCS.out j hlt
        obtain ⟨⟨k0, k1, k2⟩, -⟩ := hcs wr hnx
        have hal := hnx.alloc hnx.size (.cells #[.int .i64 z0, .int .i64 z1, .slice ab nb cb] 43)
        have hsa : ((wr.alloc (.cells #[.int .i64 z0, .int .i64 z1, .slice ab nb cb] 43)).drew).heap.size = wr.heap.size + 1 := by
          have : (wr.alloc (.cells #[.int .i64 z0, .int .i64 z1, .slice ab nb cb] 43)).heap.size = wr.heap.size + 1 := by simp
          exact this
        have C : Hid (Calls Tryd.prog 58 #[.agg #[.int .i64 z0, .int .i64 z1, .slice ab nb cb]] (wr.alloc (.cells #[.int .i64 z0, .int .i64 z1, .slice ab nb cb] 43)).drew fun e w' => (∃ a' cap', e = .returned (.agg #[.int .i64 z0, .int .i64 z1, .slice a' nb cap']) ∧ CeIn (ArIn n (w.heap.size + 5) w') (w.heap.size + 5) w' (cAt x.cells j) (.int .i64 z0) (.int .i64 z1) (.slice a' nb cap')) ∧ BelowS wr.heap.size wr w' ∧ w'.cell? ⟨wr.heap.size, 0, none⟩ = some (.int .i64 z0) ∧ w'.cell? ⟨wr.heap.size, 1, none⟩ = some (.int .i64 z1) ∧ w'.cell? ⟨wr.heap.size, 2, none⟩ = some (.slice ab nb cb)) := by
          refine ((hcs _ hal.drew).2).mono ?_
          rintro e w' ⟨⟨a', cap', he, hce⟩, hb'⟩
          rw [hsa] at hce hb'
          have tr : ∀ i v, #[Value.int .i64 z0, .int .i64 z1, .slice ab nb cb][i]? = some v → w'.cell? ⟨wr.heap.size, i, none⟩ = some v := fun i v hi => (hb'.cell (p := ⟨wr.heap.size, i, none⟩) (by show wr.heap.size < _; omega)).trans (cell_new0 wr _ 43 i v hi)
          exact ⟨⟨a', cap', he, hce.mono (by omega) (Below.refl _ _) fun x v hx => hx.mono (by omega) (Below.refl _ _)⟩, ((one_allocS wr _).drew).trans (hb'.mono (by omega)), tr 0 _ rfl, tr 1 _ rfl, tr 2 _ rfl⟩
        have hbcw : bc < wr.heap.size := by have := HLT.out; omega
        have HD : Hid (∀ w1 : World, BelowS wr.heap.size wr w1 → w1.cell? ⟨bc, j * 3, none⟩ = some (F (j * 3)) ∧ w1.cell? ⟨bc, j * 3 + 1, none⟩ = some (F (j * 3 + 1)) ∧ w1.cell? ⟨bc, j * 3 + 2, none⟩ = some (F (j * 3 + 2)) ∧ w1.frozen? ⟨bc, j * 3, none⟩ = false ∧ w1.frozen? ⟨bc, j * 3 + 1, none⟩ = false ∧ w1.frozen? ⟨bc, j * 3 + 2, none⟩ = false) := by
          intro w1 h
          have r1 : w1.rowIs bc 43 (CA * 3) F := hr.of_block (h.block bc hbcw)
          exact ⟨r1.cell (by omega), r1.cell (by omega), r1.cell (by omega), r1.frozen _, r1.frozen _, r1.frozen _⟩
        have KS : Hid (∀ w1 : World, BelowS wr.heap.size wr w1 → w1.cell? ⟨wr.heap.size, 0, none⟩ = some (.int .i64 z0) → w1.cell? ⟨wr.heap.size, 1, none⟩ = some (.int .i64 z1) → w1.cell? ⟨wr.heap.size, 2, none⟩ = some (.slice ab nb cb) → (w1.cell? ⟨bo, 1, none⟩ = some (.slice (some ⟨bc, 0, none⟩) CA CA) ∧ w1.cell? ⟨wr.heap.size, 0, none⟩ = some (.int .i64 z0) ∧ w1.cell? ⟨wr.heap.size, 1, none⟩ = some (.int .i64 z1) ∧ w1.cell? ⟨wr.heap.size, 2, none⟩ = some (.slice ab nb cb))) := fun w1 h x0 x1 x2 => ⟨(h.cell (p := ⟨bo, 1, none⟩) (by have := HLT.out; show bo < _; omega)).trans t1, x0, x1, x2⟩
        have D0 : Hid (BelowS wr.heap.size wr (wr.alloc (.cells #[.int .i64 z0, .int .i64 z1, .slice ab nb cb] 43)).drew ∧ (wr.alloc (.cells #[.int .i64 z0, .int .i64 z1, .slice ab nb cb] 43)).drew.cell? ⟨wr.heap.size, 0, none⟩ = some (.int .i64 z0) ∧ (wr.alloc (.cells #[.int .i64 z0, .int .i64 z1, .slice ab nb cb] 43)).drew.cell? ⟨wr.heap.size, 1, none⟩ = some (.int .i64 z1) ∧ (wr.alloc (.cells #[.int .i64 z0, .int .i64 z1, .slice ab nb cb] 43)).drew.cell? ⟨wr.heap.size, 2, none⟩ = some (.slice ab nb cb)) := ⟨(one_allocS _ _).drew, cell_new0 wr _ 43 0 _ rfl, cell_new0 wr _ 43 1 _ rfl, cell_new0 wr _ 43 2 _ rfl⟩
        have KT : Hid (∀ (w1 : World) (v0 v1 v2 : Value), (w1.cell? ⟨bo, 1, none⟩ = some (.slice (some ⟨bc, 0, none⟩) CA CA) ∧ w1.cell? ⟨wr.heap.size, 0, none⟩ = some (.int .i64 z0) ∧ w1.cell? ⟨wr.heap.size, 1, none⟩ = some (.int .i64 z1) ∧ w1.cell? ⟨wr.heap.size, 2, none⟩ = some (.slice ab nb cb)) → ((((w1.setCell ⟨bc, j * 3, none⟩ v0).setCell ⟨bc, j * 3 + 1, none⟩ v1).setCell ⟨bc, j * 3 + 2, none⟩ v2).cell? ⟨bo, 1, none⟩ = some (.slice (some ⟨bc, 0, none⟩) CA CA) ∧ (((w1.setCell ⟨bc, j * 3, none⟩ v0).setCell ⟨bc, j * 3 + 1, none⟩ v1).setCell ⟨bc, j * 3 + 2, none⟩ v2).cell? ⟨wr.heap.size, 0, none⟩ = some (.int .i64 z0) ∧ (((w1.setCell ⟨bc, j * 3, none⟩ v0).setCell ⟨bc, j * 3 + 1, none⟩ v1).setCell ⟨bc, j * 3 + 2, none⟩ v2).cell? ⟨wr.heap.size, 1, none⟩ = some (.int .i64 z1) ∧ (((w1.setCell ⟨bc, j * 3, none⟩ v0).setCell ⟨bc, j * 3 + 1, none⟩ v1).setCell ⟨bc, j * 3 + 2, none⟩ v2).cell? ⟨wr.heap.size, 2, none⟩ = some (.slice ab nb cb))) := by
          rintro w1 v0 v1 v2 ⟨g0, g1, g2, g3⟩
          have ap : ∀ (b i : Nat) (v : Value), b ≠ bc → w1.cell? ⟨b, i, none⟩ = some v → (((w1.setCell ⟨bc, j * 3, none⟩ v0).setCell ⟨bc, j * 3 + 1, none⟩ v1).setCell ⟨bc, j * 3 + 2, none⟩ v2).cell? ⟨b, i, none⟩ = some v := fun b i v hne hv => cell_apart (p := ⟨b, i, none⟩) (q := ⟨bc, j * 3 + 2, none⟩) hne _ (cell_apart (p := ⟨b, i, none⟩) (q := ⟨bc, j * 3 + 1, none⟩) hne _ (cell_apart (p := ⟨b, i, none⟩) (q := ⟨bc, j * 3, none⟩) hne _ hv))
          have hl := HLT.out
          exact ⟨ap _ _ _ (by omega) g0, ap _ _ _ (by omega) g1, ap _ _ _ (by omega) g2, ap _ _ _ (by omega) g3⟩
        have HEND : Hid (∀ w1 v0 v1 v2, BelowS wr.heap.size wr w1 → CeIn (ArIn n (w.heap.size + 5) w1) (w.heap.size + 5) w1 (cAt x.cells j) v0 v1 v2 → BelowS w.heap.size w (((w1.setCell ⟨bc, j * 3, none⟩ v0).setCell ⟨bc, j * 3 + 1, none⟩ v1).setCell ⟨bc, j * 3 + 2, none⟩ v2) ∧ w.heap.size + 5 ≤ (((w1.setCell ⟨bc, j * 3, none⟩ v0).setCell ⟨bc, j * 3 + 1, none⟩ v1).setCell ⟨bc, j * 3 + 2, none⟩ v2).heap.size ∧ (∀ k, k < w.heap.size + 5 → k ≠ bc → (((w1.setCell ⟨bc, j * 3, none⟩ v0).setCell ⟨bc, j * 3 + 1, none⟩ v1).setCell ⟨bc, j * 3 + 2, none⟩ v2).heap[k]? = w3.heap[k]?) ∧ ∃ F', (((w1.setCell ⟨bc, j * 3, none⟩ v0).setCell ⟨bc, j * 3 + 1, none⟩ v1).setCell ⟨bc, j * 3 + 2, none⟩ v2).rowIs bc 43 (CA * 3) F' ∧ ∀ i, i < j + 1 → CeIn (ArIn n (w.heap.size + 5) (((w1.setCell ⟨bc, j * 3, none⟩ v0).setCell ⟨bc, j * 3 + 1, none⟩ v1).setCell ⟨bc, j * 3 + 2, none⟩ v2)) (w.heap.size + 5) (((w1.setCell ⟨bc, j * 3, none⟩ v0).setCell ⟨bc, j * 3 + 1, none⟩ v1).setCell ⟨bc, j * 3 + 2, none⟩ v2) (cAt x.cells i) (F' (i * 3)) (F' (i * 3 + 1)) (F' (i * 3 + 2))) := by
          intro w1 v0 v1 v2 hb hnew
          have hl := HLT.out
          have hlo : w.heap.size ≤ bc := by omega
          refine ⟨(((hnx.trans (hb.mono hnx.size)).setCell (p := ⟨bc, j * 3, none⟩) hlo v0).setCell (p := ⟨bc, j * 3 + 1, none⟩) hlo v1).setCell (p := ⟨bc, j * 3 + 2, none⟩) hlo v2, ?_, ?_, fam_step (by omega) hb.b hbcw hr hF v0 v1 v2 hnew⟩
          · have : (((w1.setCell ⟨bc, j * 3, none⟩ v0).setCell ⟨bc, j * 3 + 1, none⟩ v1).setCell ⟨bc, j * 3 + 2, none⟩ v2).heap.size = w1.heap.size := by simp
            rw [this]; exact Nat.le_trans hsz hb.size
          · intro k h1 h2
            rw [BelowS.heap_setCell _ _ _ _ h2, BelowS.heap_setCell _ _ _ _ h2, BelowS.heap_setCell _ _ _ _ h2, hb.block k (by omega)]
            exact hkeep k h1 h2
        clear hcs hal hsa hr hF hkeep t0 t2 t3 t4 t5
        go_wp2
        go_region_held3 (fun W => W.cell? ⟨bo, 1, none⟩ = some (.slice (some ⟨bc, 0, none⟩) CA CA) ∧ W.cell? ⟨wr.heap.size, 0, none⟩ = some (.int .i64 z0) ∧ W.cell? ⟨wr.heap.size, 1, none⟩ = some (.int .i64 z1) ∧ W.cell? ⟨wr.heap.size, 2, none⟩ = some (.slice ab nb cb))
          (first | exact KS.out _ D0.out.1 D0.out.2.1 D0.out.2.2.1 D0.out.2.2.2 | exact KS.out _ (by assumption) (by assumption) (by assumption) (by assumption) | exact KT.out _ _ _ _ (by assumption))
          (first
            | (go_at_call 58; refine C.out.mono ?_; rintro e w1 ⟨⟨a', cap', rfl, hce⟩, hb1, hq0, hq1, hq2⟩; obtain ⟨y0, y1, y2, y3, y4, y5⟩ := HD.out _ hb1))
        have HFIN := hide (HEND.out w1 _ _ _ hb1 hce)
        clear HEND KT KS D0 HD C y0 y1 y2 y3 y4 y5 hq0 hq1 hq2 hce hb1
        go_wp2
        go_roundw
        case rel => exact ⟨j + 1, by omega, by go_num, HFIN.out⟩
        case measure => simp [intOf]; omega
      · have hje : j = CA := by omega
        subst hje
        have HFIN : Hid (∀ u v, GivesU n x w (.returned (.agg #[.slice (some ⟨bs, 0, none⟩) SA SA, .slice (some ⟨bc, 0, none⟩) j j])) ((wr.setCell ⟨w.heap.size + 1, 0, none⟩ u).setCell ⟨w.heap.size + 1, 1, none⟩ v)) := by
          intro u v
          have hl := HLT.out
          have hk : Keeps (w.heap.size + 2) wr ((wr.setCell ⟨w.heap.size + 1, 0, none⟩ u).setCell ⟨w.heap.size + 1, 1, none⟩ v) := ((Keeps.refl _ _).setCell (p := ⟨w.heap.size + 1, 0, none⟩) (by show w.heap.size + 1 < _; omega) u).setCell (p := ⟨w.heap.size + 1, 1, none⟩) (by show w.heap.size + 1 < _; omega) v
          have hk5 : Keeps (w.heap.size + 5) wr ((wr.setCell ⟨w.heap.size + 1, 0, none⟩ u).setCell ⟨w.heap.size + 1, 1, none⟩ v) := ⟨hk.1, fun b h1 h2 => hk.2 b (by omega) h2⟩
          have hss : ((wr.setCell ⟨w.heap.size + 1, 0, none⟩ u).setCell ⟨w.heap.size + 1, 1, none⟩ v).heap.size = wr.heap.size := by simp
          refine ⟨bs, bc, w.heap.size + 5, F, by rw [hSA, hCA], by omega, by omega, by omega, by omega, by omega, by rw [hss]; exact hsz, ?_, ?_, fun i hi => ?_, (hnx.b.setCell (p := ⟨w.heap.size + 1, 0, none⟩) (by show w.heap.size ≤ w.heap.size + 1; omega) u).setCell (p := ⟨w.heap.size + 1, 1, none⟩) (by show w.heap.size ≤ w.heap.size + 1; omega) v⟩
          · have hrow : Row (w.heap.size + 2) wr (some ⟨bs, 0, none⟩) x.shape := ⟨by rw [hSA]; exact HL.out, Or.inr ⟨bs, 0, rfl, by omega, by omega, fun i hi => by rw [Nat.zero_add]; exact t5 i hi⟩⟩
            exact (hrow.keeps hk).low (by omega)
          · rw [hCA]
            exact hr.of_block (by rw [BelowS.heap_setCell _ _ _ _ (by show bc ≠ w.heap.size + 1; omega), BelowS.heap_setCell _ _ _ _ (by show bc ≠ w.heap.size + 1; omega)])
          · rw [hCA] at hi
            exact (hF i hi).keeps hk5 fun x v hx => hx.keeps hk5
        have HT := hide (set_two t2 t3 (.slice (some ⟨bs, 0, none⟩) SA SA) (.slice (some ⟨bc, 0, none⟩) j j))
        have f0 := t4 0
        have f1 := t4 1
        clear hr hF hkeep t4 t5 HCS HKP
        go_wp2
        exact bodyPost_ret (v := .agg #[.slice (some ⟨bs, 0, none⟩) SA SA, .slice (some ⟨bc, 0, none⟩) j j]) (by simp [results, Tryd.results26, go_sem, HT.out.1, HT.out.2]) rfl (HFIN.out _ _)
set_option maxHeartbeats 8000000 in
theorem line33L {N lo : Nat} {cs : List Ce} {a : Option Addr} {c lg st nx n : Nat} {w0 w : World} (hc : LineO N lo w0 w cs a) (hlo : lo ≤ w.heap.size) (h16 : cs.length ≤ 16384) (hlg : lg ≤ 16384) (hp : ∀ i, i < lg → n * nx + i * st < cs.length) :
    Calls Tryd.prog 33 #[.agg #[.slice a cs.length c, .int .i64 (lg : Int), .int .i64 (st : Int), .int .i64 (nx : Int)], .int .i64 (n : Int)] w fun e w' => (∃ a' c', e = .returned (.slice a' lg c') ∧ CellsO N lo w0 w' (lnC cs lg st nx n) a') ∧ Below w.heap.size w w' := by
  obtain ⟨ab, cb, hcf⟩ := id hc
  have mk1 := make_cells lg (by omega)
  obtain ⟨L, hL⟩ : ∃ L, cs.length = L := ⟨_, rfl⟩
  obtain ⟨W1, hW1⟩ : ∃ W1, w.alloc (.cells #[.slice a L c, .int .i64 (lg : Int), .int .i64 (st : Int), .int .i64 (nx : Int)] 60) = W1 := ⟨_, rfl⟩
  have z1 : W1.heap.size = w.heap.size + 1 := by rw [← hW1]; simp
  have B1 : Below w.heap.size w W1 := by rw [← hW1]; exact one_alloc _ _
  have p0 : W1.cell? ⟨w.heap.size, 0, none⟩ = some (.slice a L c) := by rw [← hW1]; exact cell_new0 w _ 60 0 _ rfl
  have p1 : W1.cell? ⟨w.heap.size, 1, none⟩ = some (.int .i64 (lg : Int)) := by rw [← hW1]; exact cell_new0 w _ 60 1 _ rfl
  have p2 : W1.cell? ⟨w.heap.size, 2, none⟩ = some (.int .i64 (st : Int)) := by rw [← hW1]; exact cell_new0 w _ 60 2 _ rfl
  have p3 : W1.cell? ⟨w.heap.size, 3, none⟩ = some (.int .i64 (nx : Int)) := by rw [← hW1]; exact cell_new0 w _ 60 3 _ rfl
  obtain ⟨W2, hW2⟩ : ∃ W2, W1.alloc (.cells (madeCells #[.int .i64 0, .int .i64 0, .slice none 0 0] (lg * 3)) 43) = W2 := ⟨_, rfl⟩
  have B2 : Below (w.heap.size + 1) W1 W2 := by rw [← hW2, ← z1]; exact one_alloc _ _
  obtain ⟨T, hT⟩ : ∃ T : Nat → Value × Value × Value, T = fun i => (.int .i64 (cAt cs (n * nx + i * st)).1, .int .i64 (cAt cs (n * nx + i * st)).2.1, .slice (ab (n * nx + i * st)) (cAt cs (n * nx + i * st)).2.2.length (cb (n * nx + i * st))) := ⟨_, rfl⟩
  have R2 : W2.rowIs (w.heap.size + 1) 43 (lg * 3) (gF T 0) := by
    have h := rowIs_made3 W1 (lg * 3)
    rw [hW2, z1] at h
    exact h.congr fun i hi => (gF_zero T i).symm
  have HP := hide (And.intro p0 (And.intro p1 (And.intro p2 p3)))
  have HS := hide (And.intro R2 (And.intro B2 (show w.heap.size + 1 < W2.heap.size by rw [← hW2]; simp; omega)))
  have HB1 := hide B1
  have HCF := hide hcf
  have HPP := hide hp
  have HTT := hide hT
  have HZ1 := hide z1
  rw [hL] at HCF HPP h16 ⊢
  clear hc hcf hp hT R2 B2 B1 p2 p3 z1
  go_enter Tryd.func33, Tryd.ntmps33
  go_wp2
  rw [HZ1.out]
  clear mk1 hW1 hW2 p0 p1
  go_loopg [12] lg (fun g iv wq => ∃ j : Nat, g + j = lg ∧ iv = .int .i64 (j : Int) ∧ wq.rowIs (w.heap.size + 1) 43 (lg * 3) (gF T j) ∧ Below (w.heap.size + 1) W1 wq ∧ w.heap.size + 1 < wq.heap.size)
  case atStart => exact ⟨0, rfl, rfl, HS.out⟩
  case round =>
    obtain ⟨j, hg, rfl, hrC, hbl, hsz⟩ := hrel
    clear HS
    have HBW : Hid (Below w.heap.size w wr) := HB1.out.trans (hbl.mono (by omega))
    by_cases hlt : j < lg
    · have hpj := HPP.out j hlt
      obtain ⟨b, off, rfl, -, hb, hcc⟩ := HCF.out (by omega)
      obtain ⟨d0, d1, d2, -⟩ := hcc _ hpj
      have HTj : Hid (T j = (.int .i64 (cAt cs (n * nx + j * st)).1, .int .i64 (cAt cs (n * nx + j * st)).2.1, .slice (ab (n * nx + j * st)) (cAt cs (n * nx + j * st)).2.2.length (cb (n * nx + j * st)))) := by unfold Hid; rw [HTT.out]
      obtain ⟨b1, b2⟩ : n * nx ≤ 16384 ∧ j * st ≤ 16384 := by omega
      obtain ⟨p, hp⟩ : ∃ p, n * nx + j * st = p := ⟨_, rfl⟩
      have hpz : (n : Int) * (nx : Int) + (j : Int) * (st : Int) = (p : Int) := by rw [← hp]; simp
      rw [hp] at hpj d0 d1 d2 HTj
      have CC : Hid (∀ W, Below wr.heap.size wr W → Calls Tryd.prog 42 #[.agg #[.slice (some ⟨b, off, none⟩) L c, .int .i64 (lg : Int), .int .i64 (st : Int), .int .i64 (nx : Int)], .int .i64 (n : Int), .int .i64 (j : Int)] W fun e w' => e = .returned (.int .i64 (p : Int)) ∧ Below wr.heap.size wr w') := fun W hW => by
        refine (place42 _ _ _ _ _ _ W (by rw [← Int.natCast_mul]; omega) (by rw [← Int.natCast_mul]; omega) (by rw [← Int.natCast_mul]; omega) (by rw [← Int.natCast_mul]; omega)).mono ?_
        rintro e w' ⟨rfl, hb'⟩
        exact ⟨by rw [hpz], hW.trans (hb'.mono hW.size)⟩
      obtain ⟨p0, p1, p2, p3⟩ := HP.out
      have y0 := (hbl.cell (p := ⟨w.heap.size, 0, none⟩) (by show w.heap.size < _; omega)).trans p0
      have y1 := (hbl.cell (p := ⟨w.heap.size, 1, none⟩) (by show w.heap.size < _; omega)).trans p1
      have y2 := (hbl.cell (p := ⟨w.heap.size, 2, none⟩) (by show w.heap.size < _; omega)).trans p2
      have y3 := (hbl.cell (p := ⟨w.heap.size, 3, none⟩) (by show w.heap.size < _; omega)).trans p3
      have x0 := (HBW.out.cell (p := ⟨b, off + p * 3, none⟩) hb).trans d0
      have x1 := (HBW.out.cell (p := ⟨b, off + p * 3 + 1, none⟩) hb).trans d1
      have x2 := (HBW.out.cell (p := ⟨b, off + p * 3 + 2, none⟩) hb).trans d2
      have hbw : b < wr.heap.size := by omega
      clear d0 d1 d2 p0 p1 p2 p3 hcc hp hpz b1 b2
      generalize (cAt cs p).2.2.length = nn at *
      generalize (cAt cs p).2.1 = y1' at *
      generalize (cAt cs p).1 = y0' at *
      generalize ab p = abp at *
      generalize cb p = cbp at *
      have KS : Hid (∀ W, Below wr.heap.size wr W → (W.cell? ⟨w.heap.size, 0, none⟩ = some (.slice (some ⟨b, off, none⟩) L c) ∧ W.cell? ⟨w.heap.size, 1, none⟩ = some (.int .i64 (lg : Int)) ∧ W.cell? ⟨w.heap.size, 2, none⟩ = some (.int .i64 (st : Int)) ∧ W.cell? ⟨w.heap.size, 3, none⟩ = some (.int .i64 (nx : Int)) ∧ W.cell? ⟨b, off + p * 3, none⟩ = some (.int .i64 y0') ∧ W.cell? ⟨b, off + p * 3 + 1, none⟩ = some (.int .i64 y1') ∧ W.cell? ⟨b, off + p * 3 + 2, none⟩ = some (.slice abp nn cbp))) := fun W h =>
        ⟨(h.cell (p := ⟨w.heap.size, 0, none⟩) (by show w.heap.size < _; omega)).trans y0, (h.cell (p := ⟨w.heap.size, 1, none⟩) (by show w.heap.size < _; omega)).trans y1, (h.cell (p := ⟨w.heap.size, 2, none⟩) (by show w.heap.size < _; omega)).trans y2, (h.cell (p := ⟨w.heap.size, 3, none⟩) (by show w.heap.size < _; omega)).trans y3, (h.cell (p := ⟨b, off + p * 3, none⟩) hbw).trans x0, (h.cell (p := ⟨b, off + p * 3 + 1, none⟩) hbw).trans x1, (h.cell (p := ⟨b, off + p * 3 + 2, none⟩) hbw).trans x2⟩
      have KT : Hid (∀ W, Below wr.heap.size wr W → ((((W.setCell ⟨w.heap.size + 1, j * 3, none⟩ (.int .i64 y0')).setCell ⟨w.heap.size + 1, j * 3 + 1, none⟩ (.int .i64 y1')).setCell ⟨w.heap.size + 1, j * 3 + 2, none⟩ (.slice abp nn cbp)).cell? ⟨w.heap.size, 0, none⟩ = some (.slice (some ⟨b, off, none⟩) L c) ∧ (((W.setCell ⟨w.heap.size + 1, j * 3, none⟩ (.int .i64 y0')).setCell ⟨w.heap.size + 1, j * 3 + 1, none⟩ (.int .i64 y1')).setCell ⟨w.heap.size + 1, j * 3 + 2, none⟩ (.slice abp nn cbp)).cell? ⟨w.heap.size, 1, none⟩ = some (.int .i64 (lg : Int)) ∧ (((W.setCell ⟨w.heap.size + 1, j * 3, none⟩ (.int .i64 y0')).setCell ⟨w.heap.size + 1, j * 3 + 1, none⟩ (.int .i64 y1')).setCell ⟨w.heap.size + 1, j * 3 + 2, none⟩ (.slice abp nn cbp)).cell? ⟨w.heap.size, 2, none⟩ = some (.int .i64 (st : Int)) ∧ (((W.setCell ⟨w.heap.size + 1, j * 3, none⟩ (.int .i64 y0')).setCell ⟨w.heap.size + 1, j * 3 + 1, none⟩ (.int .i64 y1')).setCell ⟨w.heap.size + 1, j * 3 + 2, none⟩ (.slice abp nn cbp)).cell? ⟨w.heap.size, 3, none⟩ = some (.int .i64 (nx : Int)) ∧ (((W.setCell ⟨w.heap.size + 1, j * 3, none⟩ (.int .i64 y0')).setCell ⟨w.heap.size + 1, j * 3 + 1, none⟩ (.int .i64 y1')).setCell ⟨w.heap.size + 1, j * 3 + 2, none⟩ (.slice abp nn cbp)).cell? ⟨b, off + p * 3, none⟩ = some (.int .i64 y0') ∧ (((W.setCell ⟨w.heap.size + 1, j * 3, none⟩ (.int .i64 y0')).setCell ⟨w.heap.size + 1, j * 3 + 1, none⟩ (.int .i64 y1')).setCell ⟨w.heap.size + 1, j * 3 + 2, none⟩ (.slice abp nn cbp)).cell? ⟨b, off + p * 3 + 1, none⟩ = some (.int .i64 y1') ∧ (((W.setCell ⟨w.heap.size + 1, j * 3, none⟩ (.int .i64 y0')).setCell ⟨w.heap.size + 1, j * 3 + 1, none⟩ (.int .i64 y1')).setCell ⟨w.heap.size + 1, j * 3 + 2, none⟩ (.slice abp nn cbp)).cell? ⟨b, off + p * 3 + 2, none⟩ = some (.slice abp nn cbp))) := fun W h => by
        have hw := KS.out W h
        have hs : Below (w.heap.size + 1) W (((W.setCell ⟨w.heap.size + 1, j * 3, none⟩ (.int .i64 y0')).setCell ⟨w.heap.size + 1, j * 3 + 1, none⟩ (.int .i64 y1')).setCell ⟨w.heap.size + 1, j * 3 + 2, none⟩ (.slice abp nn cbp)) := ((((Below.refl (w.heap.size + 1) W)).setCell (p := ⟨w.heap.size + 1, j * 3, none⟩) (Nat.le_refl _) _).setCell (p := ⟨w.heap.size + 1, j * 3 + 1, none⟩) (Nat.le_refl _) _).setCell (p := ⟨w.heap.size + 1, j * 3 + 2, none⟩) (Nat.le_refl _) _
        exact ⟨(hs.cell (p := ⟨w.heap.size, 0, none⟩) (by show w.heap.size < _; omega)).trans hw.1, (hs.cell (p := ⟨w.heap.size, 1, none⟩) (by show w.heap.size < _; omega)).trans hw.2.1, (hs.cell (p := ⟨w.heap.size, 2, none⟩) (by show w.heap.size < _; omega)).trans hw.2.2.1, (hs.cell (p := ⟨w.heap.size, 3, none⟩) (by show w.heap.size < _; omega)).trans hw.2.2.2.1, (hs.cell (p := ⟨b, off + p * 3, none⟩) (by show b < _; omega)).trans hw.2.2.2.2.1, (hs.cell (p := ⟨b, off + p * 3 + 1, none⟩) (by show b < _; omega)).trans hw.2.2.2.2.2.1, (hs.cell (p := ⟨b, off + p * 3 + 2, none⟩) (by show b < _; omega)).trans hw.2.2.2.2.2.2⟩
      have HZ : Hid (∀ W, Below wr.heap.size wr W → ((W.cell? ⟨w.heap.size + 1, j * 3, none⟩ = some (gF T j (j * 3)) ∧ W.cell? ⟨w.heap.size + 1, j * 3 + 1, none⟩ = some (gF T j (j * 3 + 1)) ∧ W.cell? ⟨w.heap.size + 1, j * 3 + 2, none⟩ = some (gF T j (j * 3 + 2))) ∧ W.frozen? ⟨w.heap.size + 1, j * 3, none⟩ = false ∧ W.frozen? ⟨w.heap.size + 1, j * 3 + 1, none⟩ = false ∧ W.frozen? ⟨w.heap.size + 1, j * 3 + 2, none⟩ = false)) := fun W h =>
        ⟨⟨(h.cell (p := ⟨w.heap.size + 1, j * 3, none⟩) hsz).trans (hrC.cell (i := j * 3) (by omega)), (h.cell (p := ⟨w.heap.size + 1, j * 3 + 1, none⟩) hsz).trans (hrC.cell (i := j * 3 + 1) (by omega)), (h.cell (p := ⟨w.heap.size + 1, j * 3 + 2, none⟩) hsz).trans (hrC.cell (i := j * 3 + 2) (by omega))⟩, (h.frozen (p := ⟨w.heap.size + 1, j * 3, none⟩) hsz).trans (hrC.frozen (j * 3)), (h.frozen (p := ⟨w.heap.size + 1, j * 3 + 1, none⟩) hsz).trans (hrC.frozen (j * 3 + 1)), (h.frozen (p := ⟨w.heap.size + 1, j * 3 + 2, none⟩) hsz).trans (hrC.frozen (j * 3 + 2))⟩
      have HF : Hid (∀ W, Below wr.heap.size wr W → ((((W.setCell ⟨w.heap.size + 1, j * 3, none⟩ (.int .i64 y0')).setCell ⟨w.heap.size + 1, j * 3 + 1, none⟩ (.int .i64 y1')).setCell ⟨w.heap.size + 1, j * 3 + 2, none⟩ (.slice abp nn cbp)).rowIs (w.heap.size + 1) 43 (lg * 3) (gF T (j + 1)) ∧ Below (w.heap.size + 1) W1 (((W.setCell ⟨w.heap.size + 1, j * 3, none⟩ (.int .i64 y0')).setCell ⟨w.heap.size + 1, j * 3 + 1, none⟩ (.int .i64 y1')).setCell ⟨w.heap.size + 1, j * 3 + 2, none⟩ (.slice abp nn cbp)) ∧ w.heap.size + 1 < (((W.setCell ⟨w.heap.size + 1, j * 3, none⟩ (.int .i64 y0')).setCell ⟨w.heap.size + 1, j * 3 + 1, none⟩ (.int .i64 y1')).setCell ⟨w.heap.size + 1, j * 3 + 2, none⟩ (.slice abp nn cbp)).heap.size)) := fun W h => by
        have hr' : W.rowIs (w.heap.size + 1) 43 (lg * 3) (gF T j) := hrC.of_block (h.block _ hsz)
        refine ⟨(((hr'.set (j * 3) (.int .i64 y0')).set (j * 3 + 1) (.int .i64 y1')).set (j * 3 + 2) (.slice abp nn cbp)).congr (g := gF T (j + 1)) (fun i _ => by rw [gF_step T j i, HTj.out]), ?_, by have := h.size; simp; omega⟩
        exact (((hbl.trans (h.mono (by omega))).setCell (p := ⟨w.heap.size + 1, j * 3, none⟩) (Nat.le_refl _) _).setCell (p := ⟨w.heap.size + 1, j * 3 + 1, none⟩) (Nat.le_refl _) _).setCell (p := ⟨w.heap.size + 1, j * 3 + 2, none⟩) (Nat.le_refl _) _
      have HD0 : Hid (Below wr.heap.size wr wr.drew) := (Below.refl _ _).drew
      have hjz : (j : Int) < (lg : Int) := by omega
      have hpz : (p : Int) < (L : Int) := by omega
      clear x0 x1 x2 y0 y1 y2 y3 hrC hbl HCF HPP HTT HTj HP HBW
      generalize gF T j (j * 3) = g0 at *
      generalize gF T j (j * 3 + 1) = g1 at *
      generalize gF T j (j * 3 + 2) = g2 at *
      go_upto_region 5 with fail
      go_region_held3 (fun W => W.cell? ⟨w.heap.size, 0, none⟩ = some (.slice (some ⟨b, off, none⟩) L c) ∧ W.cell? ⟨w.heap.size, 1, none⟩ = some (.int .i64 (lg : Int)) ∧ W.cell? ⟨w.heap.size, 2, none⟩ = some (.int .i64 (st : Int)) ∧ W.cell? ⟨w.heap.size, 3, none⟩ = some (.int .i64 (nx : Int)) ∧ W.cell? ⟨b, off + p * 3, none⟩ = some (.int .i64 y0') ∧ W.cell? ⟨b, off + p * 3 + 1, none⟩ = some (.int .i64 y1') ∧ W.cell? ⟨b, off + p * 3 + 2, none⟩ = some (.slice abp nn cbp))
        (first | with_reducible exact KS.out _ HD0.out | with_reducible exact KS.out _ (by with_reducible assumption) | with_reducible exact KT.out _ (by with_reducible assumption))
        (first | (go_at_call 42; (with_reducible refine (CC.out _ HD0.out).mono ?_); rintro e w5 ⟨rfl, g5⟩; obtain ⟨⟨n0, n1, n2⟩, n3, n4, n5⟩ := HZ.out w5 g5))
      all_goals
        have HFF := hide (HF.out w5 g5)
        clear HF HZ KS KT CC HD0 n0 n1 n2 n3 n4 n5 g5
        go_wp2
        go_roundg (lg - (j + 1))
        case rel => exact ⟨j + 1, by omega, by go_num, HFF.out⟩
        case measure => omega
    · have hje : j = lg := by omega
      subst hje
      have HFIN : Hid (CellsO N lo w0 wr (lnC cs j st nx n) (some ⟨w.heap.size + 1, 0, none⟩)) := by
        refine cells_gF hrC hsz (by omega) fun i hi => ?_
        obtain ⟨b, off, -, -, hb, hcc⟩ := HCF.out (by have := HPP.out i hi; omega)
        rw [HTT.out]
        exact (hcc _ (HPP.out i hi)).2.2.2
      clear hrC hbl HCF HPP HTT HP
      go_wp2
      go_ret
      exact ⟨⟨_, _, rfl, HFIN.out⟩, HBW.out⟩

theorem copy_u (n : Nat) : ∀ r x lo va w, chkA r x = 0 → ArIn (n + 1) lo w x va → Calls Tryd.prog 26 #[va] w fun e w' => GivesU n x w e w' := copy_apart n (copy_any n)
/-- Only block bc has changed, and new ones came. -/
structure Off (bc : Nat) (W W' : World) : Prop where
  io : Below 0 W W'
  keep : ∀ b, b < W.heap.size → b ≠ bc → W'.heap[b]? = W.heap[b]?
theorem Off.refl (bc : Nat) (W : World) : Off bc W W := ⟨Below.refl _ _, fun _ _ _ => rfl⟩
theorem Off.trans {bc : Nat} {A B C : World} (h : Off bc A B) (k : Off bc B C) : Off bc A C := ⟨h.io.trans k.io, fun b h1 h2 => (k.keep b (Nat.lt_of_lt_of_le h1 h.io.size) h2).trans (h.keep b h1 h2)⟩
theorem Off.next {bc : Nat} {W A B : World} (h : Off bc W A) (hb : Below A.heap.size A B) : Off bc W B := ⟨h.io.trans (hb.mono (Nat.zero_le _)), fun b h1 h2 => (hb.block b (Nat.lt_of_lt_of_le h1 h.io.size)).trans (h.keep b h1 h2)⟩
theorem Off.put {bc k : Nat} {W A : World} (h : Off bc W A) (v0 v1 v2 : Value) : Off bc W (((A.setCell ⟨bc, k * 3, none⟩ v0).setCell ⟨bc, k * 3 + 1, none⟩ v1).setCell ⟨bc, k * 3 + 2, none⟩ v2) :=
  ⟨below_put h.io (Nat.zero_le _), fun b h1 h2 => by rw [Below.heap_setCell _ _ _ _ (by show b ≠ bc; exact h2), Below.heap_setCell _ _ _ _ (by show b ≠ bc; exact h2), Below.heap_setCell _ _ _ _ (by show b ≠ bc; exact h2)]; exact h.keep b h1 h2⟩
theorem Off.cell {bc b i : Nat} {W A : World} {u : Value} (h : Off bc W A) (hb : b < W.heap.size) (hne : b ≠ bc) (hc : W.cell? ⟨b, i, none⟩ = some u) : A.cell? ⟨b, i, none⟩ = some u := by
  rw [World.cell?_of_block (w := W) (h.keep b hb hne)]; exact hc
theorem Off.frozen {bc b i : Nat} {W A : World} (h : Off bc W A) (hb : b < W.heap.size) (hne : b ≠ bc) (hc : W.frozen? ⟨b, i, none⟩ = false) : A.frozen? ⟨b, i, none⟩ = false := by
  rw [World.frozen?_of_block (w := W) (h.keep b hb hne)]; exact hc
theorem Off.keeps {bc lo : Nat} {W A : World} (h : Off bc W A) (hl : bc < lo) : Keeps lo W A := ⟨h.io.size, fun b h1 h2 => h.keep b h2 (by omega)⟩
theorem Off.below {bc B : Nat} {w W A : World} (h : Off bc W A) (hb : Below B w W) (hB : B ≤ W.heap.size) (hc : B ≤ bc) : Below B w A :=
  hb.trans ⟨h.io.os, h.io.tape, h.io.output, h.io.size, fun k hk => h.keep k (by omega) (by omega)⟩
theorem Off.reds {bc : Nat} {w W A : World} {op : Int} {t : Bool} {v0 v1 : Value} (h : Off bc W A) (hs : RedS w op t v0 v1 W) (hc : w.heap.size + 3 ≤ bc) : RedS w op t v0 v1 A := by
  have hl := hs.lt
  exact ⟨h.below hs.bel hs.bel.size (by omega), Nat.lt_of_lt_of_le hl h.io.size, h.cell (by omega) (by omega) hs.p0, h.cell (by omega) (by omega) hs.p1, h.cell (by omega) (by omega) hs.q0, h.cell (by omega) (by omega) hs.q1, h.cell (by omega) (by omega) hs.r0, h.cell (by omega) (by omega) hs.r1, h.frozen (by omega) (by omega) hs.f0, h.frozen (by omega) (by omega) hs.f1⟩
theorem RowT.lines {n lo bc C : Nat} {w0 W : World} {T : Nat → Value × Value × Value} {cs : List Ce} (h : RowT W bc C T) (hl : cs.length = C) (hT : ∀ i, i < C → CeIn (ArIn n lo w0) lo w0 (cAt cs i) (T i).1 (T i).2.1 (T i).2.2) : LineO n lo w0 W cs (some ⟨bc, 0, none⟩) := by
  have : ∀ i, ∃ (p : Option Addr × Nat), i < C → T i = (.int .i64 (cAt cs i).1, .int .i64 (cAt cs i).2.1, .slice p.1 (cAt cs i).2.2.length p.2) := by
    intro i
    by_cases hi : i < C
    · obtain ⟨e0, e1, a, c, e2, -⟩ := hT i hi
      exact ⟨(a, c), fun _ => Prod.ext e0 (Prod.ext e1 e2)⟩
    · exact ⟨(none, 0), fun h => absurd h hi⟩
  obtain ⟨f, hf⟩ := Classical.axiomOfChoice this
  refine ⟨fun i => (f i).1, fun i => (f i).2, fun _ => ⟨bc, 0, rfl, Nat.zero_le _, h.lt, fun i hi => ?_⟩⟩
  have hi' : i < C := by omega
  have e := hf i hi'
  have c0 := h.c0 i hi'
  have c1 := h.c1 i hi'
  have c2 := h.c2 i hi'
  have ht := hT i hi'
  rw [e] at c0 c1 c2 ht
  rw [Nat.zero_add]
  exact ⟨c0, c1, c2, ht⟩
theorem rowT_of_is {W : World} {bc C : Nat} {F : Nat → Value} (h : W.rowIs bc 43 (C * 3) F) (hl : bc < W.heap.size) : RowT W bc C (fun i => (F (i * 3), F (i * 3 + 1), F (i * 3 + 2))) :=
  ⟨hl, fun i hi => h.cell (by omega), fun i hi => h.cell (by omega), fun i hi => h.cell (by omega), fun m => h.frozen m⟩
end Go.Proofs.YtlfacpclihmnnaaDoor
namespace Go.Proofs.YtlfacpclihmnnaaDoor
open Num (resV resE In64 sgnI absI)
set_option linter.unusedVariables false
set_option linter.unusedSimpArgs false
/-- Which line a cell stands in, and where in it. -/
def lnO (last : Bool) (lg m p : Nat) : Nat := if last then p / lg else p % m
def psO (last : Bool) (lg m p : Nat) : Nat := if last then p % lg else p / m
def mN (last : Bool) (s : List Int) : Nat := (sizeV (outS last s)).toNat
/-- What line j of an array comes to as far as place i. -/
def scG (op : Int) (t last : Bool) (x : Ar) (j i : Nat) : Ce × Int := rowP op t (lnC x.cells (lgN last x.shape) (stN last (mN last x.shape)) (nxN last x.shape) j) i
def scE (op : Int) (t last : Bool) (x : Ar) (j : Nat) : Int := firstUp (fun i => (scG op t last x j i).2) (lgN last x.shape)
/-- An array folded as far as each place (8.3). -/
def scanR (op : Int) (t last : Bool) (x : Ar) : Ar × Int :=
  if fchk op (fun _ => chkA 8 x) 1 ≠ 0 then (zeroA, fchk op (fun _ => chkA 8 x) 1) else if x.shape.length = 0 ∨ x.cells.length = 0 then (x, 0)
  else if firstUp (scE op t last x) (mN last x.shape) ≠ 0 then (zeroA, firstUp (scE op t last x) (mN last x.shape))
  else (.mk x.shape (mkCs x.cells.length fun p => (scG op t last x (lnO last (lgN last x.shape) (mN last x.shape) p) (psO last (lgN last x.shape) (mN last x.shape) p)).1), 0)
theorem ax_lt' {last : Bool} {S : Nat} (h : 0 < S) : (if last then S - 1 else 0) < S := by cases last <;> simp <;> omega
theorem lgI_ax' (last : Bool) (s : List Int) : lgI last s = s[if last then s.length - 1 else 0]?.getD 0 := by cases last <;> simp [lgI, gI]
/-- What the lines of an array with cells are. -/
theorem lines_all {last : Bool} {s : List Int} {C : Nat} (h1 : 0 < s.length) (hs : sizeE s = 0) (hC : sizeV s = (C : Int)) (h0 : 0 < C) :
    sizeE (outS last s) = 0 ∧ sizeV (outS last s) = (mN last s : Int) ∧ 0 < mN last s ∧ 0 < lgN last s ∧ mN last s * lgN last s = C ∧ lgN last s ≤ 16384 := by
  have hpos : ∀ z ∈ s, 0 < z := by
    rcases (fine_cases hs).2.2 with ⟨-, h⟩ | ⟨h, -⟩
    · omega
    · exact h
  have hC16 := (sizeV_le hs).2
  have hp := prodL_out last s h1
  rw [← sizeV_prod hs, hC] at hp
  have ho : ∀ z ∈ outS last s, 0 < z := fun z hz => by
    unfold outS at hz
    cases last
    · exact hpos z (List.mem_of_mem_drop hz)
    · exact hpos z (List.mem_of_mem_take hz)
  have hl : 0 < lgI last s := by
    rw [lgI_ax']
    exact hpos _ (getD_mem (ax_lt' h1))
  have hpo := prodL_pos ho
  have hle : prodL (outS last s) ≤ 16384 := by
    have h2 : prodL (outS last s) * 1 ≤ prodL (outS last s) * lgI last s := Int.mul_le_mul_of_nonneg_left (by omega) (by omega)
    omega
  obtain ⟨e1, e2⟩ := fine_mk (l := outS last s) (by rw [outS_len]; have := (fine_cases hs).1; omega) (fun z hz => Int.le_of_lt (ho z hz)) (Or.inr hle)
  have em : (mN last s : Int) = prodL (outS last s) := by unfold mN; rw [e2]; omega
  have el : (lgN last s : Int) = lgI last s := by unfold lgN; omega
  refine ⟨e1, by rw [em, e2], by omega, by omega, ?_, ?_⟩
  · have : ((mN last s * lgN last s : Nat) : Int) = (C : Int) := by push_cast; rw [em, el, ← hp]
    exact_mod_cast this
  · have h2 : 1 * lgI last s ≤ prodL (outS last s) * lgI last s := Int.mul_le_mul_of_nonneg_right (by omega) (by omega)
    omega
theorem lnO_at {last : Bool} {s : List Int} {m j i : Nat} (hj : j < m) (hi : i < lgN last s) : lnO last (lgN last s) m (j * nxN last s + i * stN last m) = j ∧ psO last (lgN last s) m (j * nxN last s + i * stN last m) = i := by
  cases last with
  | true =>
    have e1 : nxN true s = lgN true s := rfl
    have e2 : stN true m = 1 := rfl
    simp only [lnO, psO, e1, e2, Nat.mul_one, if_true]
    refine ⟨?_, ?_⟩
    · rw [Nat.mul_comm, Nat.mul_add_div (by omega), Nat.div_eq_of_lt hi]; omega
    · rw [Nat.mul_comm, Nat.mul_add_mod, Nat.mod_eq_of_lt hi]
  | false =>
    have e1 : nxN false s = 1 := rfl
    have e2 : stN false m = m := rfl
    simp only [lnO, psO, e1, e2, Nat.mul_one, Bool.false_eq_true, if_false]
    refine ⟨?_, ?_⟩
    · rw [Nat.add_mul_mod_self_right, Nat.mod_eq_of_lt hj]
    · rw [Nat.add_mul_div_right _ _ (by omega), Nat.div_eq_of_lt hj]; omega
theorem lnO_back {last : Bool} {s : List Int} {m p : Nat} (h : p < m * lgN last s) : lnO last (lgN last s) m p < m ∧ psO last (lgN last s) m p < lgN last s ∧ lnO last (lgN last s) m p * nxN last s + psO last (lgN last s) m p * stN last m = p := by
  have hl : 0 < lgN last s := by
    rcases Nat.eq_zero_or_pos (lgN last s) with h0 | h0
    · rw [h0] at h; omega
    · exact h0
  have hm : 0 < m := by
    rcases Nat.eq_zero_or_pos m with h0 | h0
    · rw [h0] at h; omega
    · exact h0
  cases last with
  | true =>
    have e1 : nxN true s = lgN true s := rfl
    have e2 : stN true m = 1 := rfl
    simp only [lnO, psO, e1, e2, Nat.mul_one, if_true]
    exact ⟨(Nat.div_lt_iff_lt_mul hl).2 h, Nat.mod_lt _ hl, Nat.div_add_mod' p _⟩
  | false =>
    have e1 : nxN false s = 1 := rfl
    have e2 : stN false m = m := rfl
    simp only [lnO, psO, e1, e2, Nat.mul_one, Bool.false_eq_true, if_false]
    refine ⟨Nat.mod_lt _ hm, (Nat.div_lt_iff_lt_mul hm).2 (by rw [Nat.mul_comm]; exact h), ?_⟩
    rw [Nat.add_comm, Nat.mul_comm]
    exact Nat.div_add_mod p m
/-- What the cells are when the lines ahead of j are done, and of line j the first i places. -/
def curC (op : Int) (t last : Bool) (x : Ar) (j i p : Nat) : Ce :=
  if lnO last (lgN last x.shape) (mN last x.shape) p < j ∨ (lnO last (lgN last x.shape) (mN last x.shape) p = j ∧ psO last (lgN last x.shape) (mN last x.shape) p < i) then (scG op t last x (lnO last (lgN last x.shape) (mN last x.shape) p) (psO last (lgN last x.shape) (mN last x.shape) p)).1 else cAt x.cells p
theorem curC_zero (op : Int) (t last : Bool) (x : Ar) (p : Nat) : curC op t last x 0 0 p = cAt x.cells p := by unfold curC; rw [if_neg (by omega)]
theorem curC_line {op : Int} {t last : Bool} {x : Ar} {j p : Nat} (h : psO last (lgN last x.shape) (mN last x.shape) p < lgN last x.shape) : curC op t last x j (lgN last x.shape) p = curC op t last x (j + 1) 0 p := by
  unfold curC
  by_cases h1 : lnO last (lgN last x.shape) (mN last x.shape) p < j ∨ (lnO last (lgN last x.shape) (mN last x.shape) p = j ∧ psO last (lgN last x.shape) (mN last x.shape) p < lgN last x.shape)
  · rw [if_pos h1, if_pos (by omega)]
  · rw [if_neg h1, if_neg (by omega)]
theorem curC_step {op : Int} {t last : Bool} {x : Ar} {j i p : Nat} (h1 : lnO last (lgN last x.shape) (mN last x.shape) p = j) (h2 : psO last (lgN last x.shape) (mN last x.shape) p = i) : curC op t last x j (i + 1) p = (scG op t last x j i).1 := by
  unfold curC
  rw [if_pos (by omega), h1, h2]
theorem curC_other {op : Int} {t last : Bool} {x : Ar} {j i p : Nat} (h : ¬ (lnO last (lgN last x.shape) (mN last x.shape) p = j ∧ psO last (lgN last x.shape) (mN last x.shape) p = i)) : curC op t last x j (i + 1) p = curC op t last x j i p := by
  unfold curC
  by_cases h1 : lnO last (lgN last x.shape) (mN last x.shape) p < j ∨ (lnO last (lgN last x.shape) (mN last x.shape) p = j ∧ psO last (lgN last x.shape) (mN last x.shape) p < i)
  · rw [if_pos h1, if_pos (by omega)]
  · rw [if_neg h1, if_neg (by omega)]
theorem curC_fresh {op : Int} {t last : Bool} {x : Ar} {j p : Nat} (h : lnO last (lgN last x.shape) (mN last x.shape) p = j) : curC op t last x j 0 p = cAt x.cells p := by
  unfold curC
  rw [if_neg (by omega)]
end Go.Proofs.YtlfacpclihmnnaaDoor
namespace Go.Proofs.YtlfacpclihmnnaaDoor
open Go.ChangeShapes Go.WideShapes Go.ChangeAt Go.RowKit
open Num (resV resE In64 sgnI absI)
set_option linter.unusedVariables false
set_option linter.unusedSimpArgs false
set_option maxRecDepth 100000
set_option maxHeartbeats 16000000 in
theorem scan15 {n lo S C c1 c2 : Nat} {x : Ar} {a1 a2 : Option Addr} {op : Int} {t last : Bool} {w : World} (hx : ArIn (n + 1) lo w x (.agg #[.slice a1 S c1, .slice a2 C c2])) (hin : ∀ k, k < x.cells.length → In64 (cAt x.cells k).2.1) (T : Tab w) :
    Calls Tryd.prog 15 #[.agg #[.int .i64 op, .bool t], .agg #[.slice a1 S c1, .slice a2 C c2], .bool last] w fun e w' => GivesR (n + 1) w.heap.size (scanR op t last x) w e w' := by
  have RS := redS_new w op t (.slice a1 S c1) (.slice a2 C c2)
  obtain ⟨W3, hW3⟩ : ∃ W3, ((w.alloc (.cells #[.int .i64 op, .bool t] 32)).alloc (.cells #[.slice a1 S c1, .slice a2 C c2] 25)).alloc (.cells #[.slice none 0 0, .slice none 0 0] 25) = W3 := ⟨_, rfl⟩
  rw [hW3] at RS
  have CK : Calls Tryd.prog 25 #[.agg #[.int .i64 op, .bool t], .slice (some ⟨W3.heap.size, 0, none⟩) 1 1] (W3.alloc (.cells #[.slice a1 S c1, .slice a2 C c2] 25)) fun e w' => e = .returned (.int .i64 (fchk op (fun _ => chkA 8 x) 1)) ∧ Below W3.heap.size W3 w' := by
    have hb4 := one_alloc W3 (.cells #[.slice a1 S c1, .slice a2 C c2] 25)
    have hx4 := hx.next (RS.bel.trans (hb4.mono RS.bel.size))
    refine (check25 (n := n + 1) (lo := lo) (bA := W3.heap.size) (k := 1) (c := 1) (op := op) (t := t) (X := fun _ => x) (A1 := fun _ => a1) (A2 := fun _ => a2) (M1 := fun _ => S) (C1 := fun _ => c1) (M2 := fun _ => C) (C2 := fun _ => c2) (by omega) (by simp) (fun i hi => ?_)).mono ?_
    · have : i = 0 := by omega
      subst this
      exact ⟨cell_new0 W3 _ 25 0 _ rfl, cell_new0 W3 _ 25 1 _ rfl, hx4⟩
    · rintro e w' ⟨rfl, hb'⟩
      exact ⟨rfl, hb4.trans (hb'.mono hb4.size)⟩
  have HRED : Hid (scanR op t last x = if fchk op (fun _ => chkA 8 x) 1 ≠ 0 then (zeroA, fchk op (fun _ => chkA 8 x) 1) else if x.shape.length = 0 ∨ x.cells.length = 0 then (x, 0)
      else if firstUp (scE op t last x) (mN last x.shape) ≠ 0 then (zeroA, firstUp (scE op t last x) (mN last x.shape))
      else (.mk x.shape (mkCs x.cells.length fun p => (scG op t last x (lnO last (lgN last x.shape) (mN last x.shape) p) (psO last (lgN last x.shape) (mN last x.shape) p)).1), 0)) := rfl
  have HCK : Hid (fchk op (fun _ => chkA 8 x) 1 = 0 → chkA 8 x = 0 ∧ isOp op = true) := fun h => ⟨fchk_zero h, by
    have h2 := fchk_zero h
    simp [fchk, firstUp, h2, opE] at h
    exact h⟩
  obtain ⟨RR, hRR⟩ : ∃ RR, scanR op t last x = RR := ⟨_, rfl⟩
  rw [hRR] at HRED ⊢
  generalize fchk op (fun _ => chkA 8 x) 1 = EC at *
  have p0 := RS.p0
  have p1 := RS.p1
  have q0 := RS.q0
  have q1 := RS.q1
  have HRS := hide RS
  have HX := hide hx
  have HIN := hide hin
  have HT := hide T
  clear hx hin T RS hRR
  go_enter Tryd.func15, Tryd.ntmps15
  go_wp2_with fail
  refine CK.mono ?_
  rintro e w1 ⟨rfl, hb1⟩
  clear CK p0 p1 q0 q1 hW3
  have RS1 := HRS.out.next hb1
  have q0 := RS1.q0
  have q1 := RS1.q1
  have r0 : w1.cell? ⟨w.heap.size + 1 + 1, 0, none⟩ = some (.slice none 0 0) := RS1.r0
  have r1 : w1.cell? ⟨w.heap.size + 1 + 1, 1, none⟩ = some (.slice none 0 0) := RS1.r1
  have f0 : w1.frozen? ⟨w.heap.size + 1 + 1, 0, none⟩ = false := RS1.f0
  have f1 : w1.frozen? ⟨w.heap.size + 1 + 1, 1, none⟩ = false := RS1.f1
  have HS1 := hide RS1
  clear RS1 hb1 HRS
  by_cases hE : ¬ EC = 0
  · have gE : (EC == 0) = false := beq_eq_false_iff_ne.2 hE
    have HE : Hid (RR = (zeroA, EC)) := HRED.out.trans (if_pos hE)
    have HT2 := hide (set_two r0 r1 (.slice none 0 0) (.slice none 0 0))
    clear HCK HIN HX HRED HT
    go_wp2
    have hbf := below_set2 (v0 := .slice none 0 0) (v1 := .slice none 0 0) HS1.out.bel (by omega : w.heap.size ≤ w.heap.size + 2)
    have HTT := set_two HS1.out.r0 HS1.out.r1 (.slice none 0 0) (.slice none 0 0)
    have HT2 := HT2.out
    exact bodyPost_ret (v := .tuple #[.agg #[.slice none 0 0, .slice none 0 0], .int .i64 EC]) (by simp [results, Tryd.results15, go_sem, HTT.1, HTT.2, HT2.1, HT2.2]) rfl ⟨⟨_, by rw [HE.out], by rw [HE.out]; exact zeroA_in _ _ _⟩, hbf⟩
  have hE0 : EC = 0 := Classical.not_not.1 hE
  clear hE
  subst hE0
  obtain ⟨hchk, hop⟩ := HCK.out rfl
  have HRED2 := hide (HRED.out.trans (if_neg (fun h => h rfl)))
  have CP := copy_u n 8 x lo _ w1 hchk (HX.out.next HS1.out.bel)
  have hlt1 := HS1.out.lt
  clear HRED HCK r0 r1 f0 f1
  go_wp2_with fail
  refine CP.mono ?_
  rintro e w2 ⟨bs, bc, LO, F, rfl, gs, gc, hsL, hcL, hsc, hLw, RW, hrow, hce, hb2⟩
  clear CP
  have hA := one_alloc w2 (.cells #[.slice (some ⟨bs, 0, none⟩) x.shape.length x.shape.length, .slice (some ⟨bc, 0, none⟩) x.cells.length x.cells.length] 25)
  have y0 := cell_new0 w2 #[.slice (some ⟨bs, 0, none⟩) x.shape.length x.shape.length, .slice (some ⟨bc, 0, none⟩) x.cells.length x.cells.length] 25 0 _ rfl
  have y1 := cell_new0 w2 #[.slice (some ⟨bs, 0, none⟩) x.shape.length x.shape.length, .slice (some ⟨bc, 0, none⟩) x.cells.length x.cells.length] 25 1 _ rfl
  have S4 := (HS1.out.next hb2).next hA
  have T4 := (rowT_of_is hrow (by omega : bc < w2.heap.size)).next hA
  have ce4 : ∀ i, i < x.cells.length → CeIn (ArIn n LO (w2.alloc (.cells #[.slice (some ⟨bs, 0, none⟩) x.shape.length x.shape.length, .slice (some ⟨bc, 0, none⟩) x.cells.length x.cells.length] 25))) LO (w2.alloc (.cells #[.slice (some ⟨bs, 0, none⟩) x.shape.length x.shape.length, .slice (some ⟨bc, 0, none⟩) x.cells.length x.cells.length] 25)) (cAt x.cells i) (F (i * 3)) (F (i * 3 + 1)) (F (i * 3 + 2)) := fun i hi => (hce i hi).mono (Nat.le_refl _) hA fun y v hy => hy.next hA
  have R4 := RW.next hA
  obtain ⟨W4, e4⟩ : ∃ W4, w2.alloc (.cells #[.slice (some ⟨bs, 0, none⟩) x.shape.length x.shape.length, .slice (some ⟨bc, 0, none⟩) x.cells.length x.cells.length] 25) = W4 := ⟨_, rfl⟩
  rw [e4] at y0 y1 S4 T4 ce4 R4
  obtain ⟨ob, hob⟩ : ∃ ob, w2.heap.size = ob := ⟨_, rfl⟩
  have hz4 : W4.heap.size = ob + 1 := by rw [← e4, ← hob]; simp
  rw [hob] at y0 y1
  obtain ⟨SL, hSL⟩ : ∃ SL, x.shape.length = SL := ⟨_, rfl⟩
  obtain ⟨CL, hCL⟩ : ∃ CL, x.cells.length = CL := ⟨_, rfl⟩
  rw [hSL, hCL] at y0 y1 e4 ⊢
  rw [hCL] at T4 ce4
  have HSL := hide (And.intro hSL hCL)
  have HE4 := hide (And.intro e4 hob)
  have HG := hide (show w.heap.size + 3 ≤ bs ∧ w.heap.size + 3 ≤ bc ∧ bs < LO ∧ bc < LO ∧ bs ≠ bc ∧ LO ≤ ob ∧ W4.heap.size = ob + 1 ∧ w.heap.size + 3 ≤ LO by omega)
  have HS4 := hide S4
  have HR4 := hide R4
  have HT4 := hide (And.intro T4 ce4)
  have HCH := hide (And.intro hchk hop)
  have r0 : W4.cell? ⟨w.heap.size + 1 + 1, 0, none⟩ = some (.slice none 0 0) := S4.r0
  have r1 : W4.cell? ⟨w.heap.size + 1 + 1, 1, none⟩ = some (.slice none 0 0) := S4.r1
  have f0 : W4.frozen? ⟨w.heap.size + 1 + 1, 0, none⟩ = false := S4.f0
  have f1 : W4.frozen? ⟨w.heap.size + 1 + 1, 1, none⟩ = false := S4.f1
  clear S4 R4 T4 ce4 hA hb2 hce hrow RW gs gc hsL hcL hsc hLw hchk hop e4 hob hSL hCL HS1 q0 q1 hz4
  go_upto_region 5 with fail
  rw [HE4.out.1, HE4.out.2]
  clear HE4
  have HARX : Hid (∀ u v, ArIn (n + 1) w.heap.size ((W4.setCell ⟨w.heap.size + 2, 0, none⟩ u).setCell ⟨w.heap.size + 2, 1, none⟩ v) x (.agg #[.slice (some ⟨bs, 0, none⟩) SL SL, .slice (some ⟨bc, 0, none⟩) CL CL])) := fun u v => by
    have hg := HG.out
    have K : Keeps (w.heap.size + 3) W4 ((W4.setCell ⟨w.heap.size + 2, 0, none⟩ u).setCell ⟨w.heap.size + 2, 1, none⟩ v) := ((Keeps.refl _ _).setCell (p := ⟨w.heap.size + 2, 0, none⟩) (by show w.heap.size + 2 < _; omega) u).setCell (p := ⟨w.heap.size + 2, 1, none⟩) (by show w.heap.size + 2 < _; omega) v
    have hlc := HT4.out.1.lt
    have hA : ArIn (n + 1) (w.heap.size + 3) W4 x (.agg #[.slice (some ⟨bs, 0, none⟩) SL SL, .slice (some ⟨bc, 0, none⟩) CL CL]) := by
      refine arIn_mk (HR4.out.low (by omega)) ?_ ?_ HSL.out.1 HSL.out.2
      · have := (chk_size HCH.out.1)
        have h2 := (sizeV_le this.1).2
        rw [this.2] at h2
        omega
      · refine Or.inr ⟨bc, 0, rfl, by omega, hlc, fun i hi => ?_⟩
        rw [HSL.out.2] at hi
        rw [Nat.zero_add]
        exact ⟨_, _, _, HT4.out.1.c0 i hi, HT4.out.1.c1 i hi, HT4.out.1.c2 i hi, (HT4.out.2 i hi).mono (by omega) (Below.refl _ _) fun y v hy => hy.mono (by omega) (Below.refl _ _)⟩
    exact (hA.keeps K).mono (by omega) (Below.refl _ _)
  have hFA : ∀ (hR : RR = (x, 0)), GivesR (n + 1) w.heap.size RR w (.returned (.tuple #[.agg #[.slice (some ⟨bs, 0, none⟩) SL SL, .slice (some ⟨bc, 0, none⟩) CL CL], .int .i64 0])) ((W4.setCell ⟨w.heap.size + 2, 0, none⟩ (.slice (some ⟨bs, 0, none⟩) SL SL)).setCell ⟨w.heap.size + 2, 1, none⟩ (.slice (some ⟨bc, 0, none⟩) CL CL)) := fun hR => by
    have hbf := below_set2 (v0 := .slice (some ⟨bs, 0, none⟩) SL SL) (v1 := .slice (some ⟨bc, 0, none⟩) CL CL) HS4.out.bel (by omega : w.heap.size ≤ w.heap.size + 2)
    exact ⟨⟨_, by rw [hR], by rw [hR]; exact HARX.out _ _⟩, hbf⟩
  have HFA := hide hFA
  have HTX := hide (set_two HS4.out.r0 HS4.out.r1 (.slice (some ⟨bs, 0, none⟩) SL SL) (.slice (some ⟨bc, 0, none⟩) CL CL))
  have HT2X := hide (set_two r0 r1 (.slice (some ⟨bs, 0, none⟩) SL SL) (.slice (some ⟨bc, 0, none⟩) CL CL))
  clear hFA
  by_cases h0 : SL = 0
  · have HR0 : Hid (RR = (x, 0)) := HRED2.out.trans (if_pos (Or.inl (by rw [HSL.out.1]; exact h0)))
    subst h0
    clear HRED2 HIN HX HCH HT4 HR4 HARX
    go_wp2
    have HTT := HTX.out
    have HT2 := HT2X.out
    exact bodyPost_ret (v := .tuple #[.agg #[.slice (some ⟨bs, 0, none⟩) 0 0, .slice (some ⟨bc, 0, none⟩) CL CL], .int .i64 0]) (by simp [results, Tryd.results15, go_sem, HTT.1, HTT.2, HT2.1, HT2.2]) rfl (HFA.out HR0.out)
  have hSz : ((SL : Int) == 0) = false := beq_eq_false_iff_ne.2 (by omega)
  by_cases hc0 : CL = 0
  · have HR0 : Hid (RR = (x, 0)) := HRED2.out.trans (if_pos (Or.inr (by rw [HSL.out.2]; exact hc0)))
    subst hc0
    clear HRED2 HIN HX HCH HT4 HR4 HARX
    go_wp2
    have HTT := HTX.out
    have HT2 := HT2X.out
    exact bodyPost_ret (v := .tuple #[.agg #[.slice (some ⟨bs, 0, none⟩) SL SL, .slice (some ⟨bc, 0, none⟩) 0 0], .int .i64 0]) (by simp [results, Tryd.results15, go_sem, HTT.1, HTT.2, HT2.1, HT2.2]) rfl (HFA.out HR0.out)
  have hCz : ((CL : Int) == 0) = false := beq_eq_false_iff_ne.2 (by omega)
  have HRED3 := hide (HRED2.out.trans (if_neg (by rw [HSL.out.1, HSL.out.2]; omega)))
  obtain ⟨hsE, hsV⟩ := chk_size HCH.out.1
  have hS8 : SL ≤ 8 := by rw [← HSL.out.1]; exact (fine_cases hsE).1
  have hC16 : CL ≤ 16384 := by have := (sizeV_le hsE).2; rw [hsV, HSL.out.2] at this; omega
  obtain ⟨hoE, hoV, hm0, hl0, hml, hl16⟩ := lines_all (last := last) (s := x.shape) (C := CL) (by rw [HSL.out.1]; omega) hsE (by rw [hsV, HSL.out.2]) (by omega)
  have hlin := lines_in (last := last) (s := x.shape) (m := mN last x.shape) (C := CL) (by rw [HSL.out.1]; omega) hsE (by rw [hsV, HSL.out.2]) hoE hoV hm0
  have CW := without27 (lo := w1.heap.size) x.shape last (some ⟨bs, 0, none⟩) SL W4 HR4.out (by rw [HSL.out.1]; omega) (by rw [HSL.out.1]; omega) (by rw [HSL.out.1]; omega)
  rw [HSL.out.1] at CW
  have hOL := outS_len last x.shape
  rw [HSL.out.1] at hOL
  have HMM := hide (And.intro hoE (And.intro hoV (And.intro hm0 (And.intro hl0 (And.intro hml hlin)))))
  have hm16 : mN last x.shape ≤ 16384 := by have := (sizeV_le hoE).2; rw [hoV] at this; omega
  clear HRED2 HFA HTX HT2X HARX hsE hsV hoE hoV hm0 hl0 hml hlin r0 r1 f0 f1
  go_wp2_with fail
  refine CW.mono ?_
  rintro e w5 ⟨⟨ao, co, rfl, hown⟩, hb5⟩
  have RO := hown.2.2
  have CZ := size_any (outS last x.shape) ao co w5 RO
  rw [hOL, HMM.out.1, HMM.out.2.1] at CZ
  have hg := HG.out
  have S5 := HS4.out.next hb5
  have Y0 := (hb5.cell (p := ⟨ob, 0, none⟩) (by show ob < _; omega)).trans y0
  have Y1 := (hb5.cell (p := ⟨ob, 1, none⟩) (by show ob < _; omega)).trans y1
  have T5 := HT4.out.1.next hb5
  have R5 := HR4.out.next hb5
  have HC5 : Hid (∀ i, i < CL → CeIn (ArIn n LO w5) LO w5 (cAt x.cells i) (F (i * 3)) (F (i * 3 + 1)) (F (i * 3 + 2))) := fun i hi => (HT4.out.2 i hi).mono (Nat.le_refl _) hb5 fun y v hy => hy.next hb5
  have CLn := linesOf29 (CA := CL) (c1 := SL) (c2 := CL) x.shape last (mN last x.shape : Int) (some ⟨bs, 0, none⟩) (some ⟨bc, 0, none⟩) w5 R5 (by rw [HSL.out.1]; omega) (by rw [HSL.out.1]; omega)
  rw [HSL.out.1] at CLn
  have elg : lgI last x.shape = ((lgN last x.shape : Nat) : Int) := by have := HMM.out.2.2.2.1; unfold lgN at this ⊢; omega
  have est : stI last (mN last x.shape : Int) = ((stN last (mN last x.shape) : Nat) : Int) := by unfold stI stN; cases last <;> rfl
  have enx : nxI last x.shape = ((nxN last x.shape : Nat) : Int) := by
    have e : nxI last x.shape = if last then lgI last x.shape else 1 := by cases last <;> rfl
    rw [e, elg]
    unfold nxN lgN
    cases last <;> simp
  rw [elg, est, enx] at CLn
  have hb45 := hb5.size
  have HS5 := hide S5
  have HT5 := hide T5
  have HR5 := hide R5
  clear CW y0 y1 hown hb5 RO S5 T5 R5 HT4 HR4 HS4 elg est enx
  go_wp2_with fail
  refine CZ.mono ?_
  rintro e w6 ⟨rfl, hw6⟩
  subst hw6
  clear CZ
  go_wp2_with fail
  refine CLn.mono ?_
  rintro e w7 ⟨rfl, hb7⟩
  clear CLn
  have hA8 := one_alloc w7 (.cells #[.slice (some ⟨bc, 0, none⟩) CL CL, .int .i64 (lgN last x.shape : Int), .int .i64 (stN last (mN last x.shape) : Int), .int .i64 (nxN last x.shape : Int)] 60)
  have hB8 := hb7.trans (hA8.mono hb7.size)
  have z0 := cell_new0 w7 #[.slice (some ⟨bc, 0, none⟩) CL CL, .int .i64 (lgN last x.shape : Int), .int .i64 (stN last (mN last x.shape) : Int), .int .i64 (nxN last x.shape : Int)] 60 0 _ rfl
  have z1 := cell_new0 w7 #[.slice (some ⟨bc, 0, none⟩) CL CL, .int .i64 (lgN last x.shape : Int), .int .i64 (stN last (mN last x.shape) : Int), .int .i64 (nxN last x.shape : Int)] 60 1 _ rfl
  have z2 := cell_new0 w7 #[.slice (some ⟨bc, 0, none⟩) CL CL, .int .i64 (lgN last x.shape : Int), .int .i64 (stN last (mN last x.shape) : Int), .int .i64 (nxN last x.shape : Int)] 60 2 _ rfl
  have z3 := cell_new0 w7 #[.slice (some ⟨bc, 0, none⟩) CL CL, .int .i64 (lgN last x.shape : Int), .int .i64 (stN last (mN last x.shape) : Int), .int .i64 (nxN last x.shape : Int)] 60 3 _ rfl
  obtain ⟨W8, e8⟩ : ∃ W8, w7.alloc (.cells #[.slice (some ⟨bc, 0, none⟩) CL CL, .int .i64 (lgN last x.shape : Int), .int .i64 (stN last (mN last x.shape) : Int), .int .i64 (nxN last x.shape : Int)] 60) = W8 := ⟨_, rfl⟩
  rw [e8] at hB8 z0 z1 z2 z3
  obtain ⟨lb, hlb⟩ : ∃ lb, w7.heap.size = lb := ⟨_, rfl⟩
  have hz8 : W8.heap.size = lb + 1 := by rw [← e8, ← hlb]; simp
  rw [hlb] at z0 z1 z2 z3
  have h67 := hb7.size
  have HE8 := hide (And.intro e8 hlb)
  have hg8 : W8.heap.size = lb + 1 ∧ LO ≤ ob ∧ ob < lb ∧ bc < LO ∧ w.heap.size + 3 ≤ bc ∧ bs < LO ∧ bs ≠ bc ∧ w.heap.size + 3 ≤ bs := by omega
  have HG8 := hide hg8
  have S8 := HS5.out.next hB8
  have T8 := HT5.out.next hB8
  have O0 := (hB8.cell (p := ⟨ob, 0, none⟩) (by show ob < _; omega)).trans Y0
  have O1 := (hB8.cell (p := ⟨ob, 1, none⟩) (by show ob < _; omega)).trans Y1
  have HC8 : Hid (∀ i, i < CL → CeIn (ArIn n LO W8) LO W8 (cAt x.cells i) (F (i * 3)) (F (i * 3 + 1)) (F (i * 3 + 2))) := fun i hi => (HC5.out i hi).mono (Nat.le_refl _) hB8 fun y v hy => hy.next hB8
  have HS8 := hide S8
  have HT8 := hide T8
  have HRW8 : Hid (Row w1.heap.size W8 (some ⟨bs, 0, none⟩) x.shape) := HR5.out.next hB8
  have HB8 := hide (And.intro O0 (And.intro O1 (And.intro z0 (And.intro z1 (And.intro z2 z3)))))
  have HGD : Hid (∀ j i, scG op t last x j i = rowP op t (lnC x.cells (lgN last x.shape) (stN last (mN last x.shape)) (nxN last x.shape) j) i) := fun j i => rfl
  have HED : Hid (∀ j, scE op t last x j = firstUp (fun i => (scG op t last x j i).2) (lgN last x.shape)) := fun j => rfl
  have HAT : Hid (∀ j i, j < mN last x.shape → i < lgN last x.shape → lnO last (lgN last x.shape) (mN last x.shape) (j * nxN last x.shape + i * stN last (mN last x.shape)) = j ∧ psO last (lgN last x.shape) (mN last x.shape) (j * nxN last x.shape + i * stN last (mN last x.shape)) = i) := fun j i hj hi => lnO_at hj hi
  have HBK : Hid (∀ p, p < CL → lnO last (lgN last x.shape) (mN last x.shape) p < mN last x.shape ∧ psO last (lgN last x.shape) (mN last x.shape) p < lgN last x.shape ∧ lnO last (lgN last x.shape) (mN last x.shape) p * nxN last x.shape + psO last (lgN last x.shape) (mN last x.shape) p * stN last (mN last x.shape) = p) := fun p hp => lnO_back (by rw [HMM.out.2.2.2.2.1]; exact hp)
  have HCZ : Hid (∀ p, curC op t last x 0 0 p = cAt x.cells p) := fun p => curC_zero op t last x p
  have HCL : Hid (∀ j p, p < CL → curC op t last x j (lgN last x.shape) p = curC op t last x (j + 1) 0 p) := fun j p hp => curC_line (HBK.out p hp).2.1
  have HCS : Hid (∀ j i p, p < CL → j < mN last x.shape → i < lgN last x.shape → curC op t last x j (i + 1) p = if p = j * nxN last x.shape + i * stN last (mN last x.shape) then (scG op t last x j i).1 else curC op t last x j i p) := fun j i p hp hj hi => by
    by_cases h : p = j * nxN last x.shape + i * stN last (mN last x.shape)
    · rw [if_pos h]
      subst h
      exact curC_step (HAT.out j i hj hi).1 (HAT.out j i hj hi).2
    · rw [if_neg h]
      refine curC_other (fun k => h ?_)
      have := (HBK.out p hp).2.2
      rw [k.1, k.2] at this
      exact this.symm
  have HCF : Hid (∀ j i, j < mN last x.shape → i < lgN last x.shape → curC op t last x j 0 (j * nxN last x.shape + i * stN last (mN last x.shape)) = cAt x.cells (j * nxN last x.shape + i * stN last (mN last x.shape))) := fun j i hj hi => curC_fresh (HAT.out j i hj hi).1
  have HCE2 : Hid (∀ p, p < CL → curC op t last x (mN last x.shape) 0 p = (scG op t last x (lnO last (lgN last x.shape) (mN last x.shape) p) (psO last (lgN last x.shape) (mN last x.shape) p)).1) := fun p hp => by
    unfold curC
    rw [if_pos (Or.inl (HBK.out p hp).1)]
  have HMS := hide (And.intro HMM.out.2.2.2.1 (And.intro HMM.out.2.2.2.2.2.1 HMM.out.2.2.2.2.2.2))
  obtain ⟨cur, hcur⟩ : ∃ cur, curC op t last x = cur := ⟨_, rfl⟩
  rw [hcur] at HCZ HCL HCS HCF HCE2
  obtain ⟨G, hG⟩ : ∃ G, scG op t last x = G := ⟨_, rfl⟩
  rw [hG] at HGD HED HCS HCE2 HRED3
  obtain ⟨EG, hEG⟩ : ∃ EG, scE op t last x = EG := ⟨_, rfl⟩
  rw [hEG] at HED HRED3
  generalize mN last x.shape = m at *
  generalize lgN last x.shape = lg at *
  generalize stN last m = st at *
  generalize nxN last x.shape = nx at *
  clear hA8 hB8 z0 z1 z2 z3 e8 hlb hz8 S8 T8 O0 O1 Y0 Y1 HS5 HT5 HC5 HR5 hb7 h67 hcur hG hEG HAT HBK HMM hg8 HG hg
  go_wp2
  rw [HE8.out.1, HE8.out.2]
  clear HE8
  go_loopg [52] m (fun gg iv wq => ∃ (j : Nat) (T : Nat → Value × Value × Value), gg + j = m ∧ iv = .int .i64 (j : Int) ∧ Off bc W8 wq ∧ RowT wq bc CL T ∧ (∀ p, p < CL → CeIn (ArIn n LO wq) LO wq (cur j 0 p) (T p).1 (T p).2.1 (T p).2.2) ∧ firstUp EG j = 0)
  case atStart => exact ⟨0, _, rfl, rfl, Off.refl _ _, HT8.out, fun p hp => by rw [HCZ.out]; exact HC8.out p hp, rfl⟩
  case round =>
  clear HT8 HC8 HCZ
  obtain ⟨j, T, hgj, rfl, hoff, hrow, hce, hfu⟩ := hrel
  have hg := HG8.out
  have SW := hoff.reds HS8.out hg.2.2.2.2.1
  have o0 := hoff.cell (by omega : ob < W8.heap.size) (by omega) HB8.out.1
  have o1 := hoff.cell (by omega : ob < W8.heap.size) (by omega) HB8.out.2.1
  have l0 := hoff.cell (by omega : lb < W8.heap.size) (by omega) HB8.out.2.2.1
  have l1 := hoff.cell (by omega : lb < W8.heap.size) (by omega) HB8.out.2.2.2.1
  have l2 := hoff.cell (by omega : lb < W8.heap.size) (by omega) HB8.out.2.2.2.2.1
  have l3 := hoff.cell (by omega : lb < W8.heap.size) (by omega) HB8.out.2.2.2.2.2
  have hsz : W8.heap.size ≤ wr.heap.size := hoff.io.size
  by_cases hlt : ¬ j < m
  · have hte : j = m := by omega
    subst hte
    have HE : Hid (RR = (.mk x.shape (mkCs CL fun p => cur j 0 p), 0)) := by
      have h3 := HRED3.out
      rw [if_neg (fun h => h hfu)] at h3
      rw [h3, HSL.out.2]
      congr 2
      refine cs_ext (by rw [mkCs_len, mkCs_len]) (fun i hi => ?_)
      rw [mkCs_len] at hi
      rw [mkCs_at _ _ _ hi, mkCs_at _ _ _ hi, HCE2.out i hi]
    have r0 : wr.cell? ⟨w.heap.size + 1 + 1, 0, none⟩ = some (.slice none 0 0) := SW.r0
    have r1 : wr.cell? ⟨w.heap.size + 1 + 1, 1, none⟩ = some (.slice none 0 0) := SW.r1
    have f0 : wr.frozen? ⟨w.heap.size + 1 + 1, 0, none⟩ = false := SW.f0
    have f1 : wr.frozen? ⟨w.heap.size + 1 + 1, 1, none⟩ = false := SW.f1
    have HARX : Hid (ArIn (n + 1) w.heap.size ((wr.setCell ⟨w.heap.size + 2, 0, none⟩ (.slice (some ⟨bs, 0, none⟩) SL SL)).setCell ⟨w.heap.size + 2, 1, none⟩ (.slice (some ⟨bc, 0, none⟩) CL CL)) (.mk x.shape (mkCs CL fun p => cur j 0 p)) (.agg #[.slice (some ⟨bs, 0, none⟩) SL SL, .slice (some ⟨bc, 0, none⟩) CL CL])) := by
      have K : Keeps (w.heap.size + 3) wr ((wr.setCell ⟨w.heap.size + 2, 0, none⟩ (.slice (some ⟨bs, 0, none⟩) SL SL)).setCell ⟨w.heap.size + 2, 1, none⟩ (.slice (some ⟨bc, 0, none⟩) CL CL)) := ((Keeps.refl _ _).setCell (p := ⟨w.heap.size + 2, 0, none⟩) (by show w.heap.size + 2 < _; omega) _).setCell (p := ⟨w.heap.size + 2, 1, none⟩) (by show w.heap.size + 2 < _; omega) _
      have hA : ArIn (n + 1) (w.heap.size + 3) wr (.mk x.shape (mkCs CL fun p => cur j 0 p)) (.agg #[.slice (some ⟨bs, 0, none⟩) SL SL, .slice (some ⟨bc, 0, none⟩) CL CL]) := by
        refine arIn_mk (x := .mk x.shape (mkCs CL fun p => cur j 0 p)) ?_ (by show (mkCs _ _).length ≤ _; rw [mkCs_len]; omega) ?_ HSL.out.1 (by show (mkCs _ _).length = _; rw [mkCs_len])
        · obtain ⟨h1, h2⟩ := HRW8.out
          refine ⟨h1, ?_⟩
          rcases h2 with h2 | ⟨b, off, hb, h3, h4, h5⟩
          · exact Or.inl h2
          · simp only [Option.some.injEq, Addr.mk.injEq, and_true] at hb
            obtain ⟨rfl, rfl⟩ := hb
            exact Or.inr ⟨bs, 0, rfl, by omega, Nat.lt_of_lt_of_le h4 hsz, fun i hi => hoff.cell h4 (by omega) (h5 i hi)⟩
        · refine Or.inr ⟨bc, 0, rfl, by omega, hrow.lt, fun i hi => ?_⟩
          have hi' : i < CL := by have h : (mkCs CL fun p => cur j 0 p).length = CL := mkCs_len _ _; simp only [Ar.cells] at hi; omega
          rw [Nat.zero_add]
          refine ⟨_, _, _, hrow.c0 i hi', hrow.c1 i hi', hrow.c2 i hi', ?_⟩
          show CeIn _ _ _ (cAt (mkCs CL fun p => cur j 0 p) i) _ _ _
          rw [mkCs_at _ _ _ hi']
          exact (hce i hi').mono (by omega) (Below.refl _ _) fun y v hy => hy.mono (by omega) (Below.refl _ _)
      exact (hA.keeps K).mono (by omega) (Below.refl _ _)
    have HT2 := hide (set_two r0 r1 (.slice (some ⟨bs, 0, none⟩) SL SL) (.slice (some ⟨bc, 0, none⟩) CL CL))
    have HSW := hide SW
    clear hoff hrow hce hfu SW l0 l1 l2 l3 HRED3 HIN HX HCH HGD HED HCL HCS HCF HCE2 HMS HRW8 HB8 HS8
    go_wp2
    have hbf := below_set2 (v0 := .slice (some ⟨bs, 0, none⟩) SL SL) (v1 := .slice (some ⟨bc, 0, none⟩) CL CL) HSW.out.bel (by omega : w.heap.size ≤ w.heap.size + 2)
    have HTT := set_two HSW.out.r0 HSW.out.r1 (.slice (some ⟨bs, 0, none⟩) SL SL) (.slice (some ⟨bc, 0, none⟩) CL CL)
    have HT2 := HT2.out
    exact bodyPost_ret (v := .tuple #[.agg #[.slice (some ⟨bs, 0, none⟩) SL SL, .slice (some ⟨bc, 0, none⟩) CL CL], .int .i64 0]) (by simp [results, Tryd.results15, go_sem, HTT.1, HTT.2, HT2.1, HT2.2]) rfl ⟨⟨_, by rw [HE.out], by rw [HE.out]; exact HARX.out⟩, hbf⟩
  have hlt := Classical.not_not.1 hlt
  obtain ⟨LN, hLN⟩ : ∃ LN, lnC x.cells lg st nx j = LN := ⟨_, rfl⟩
  have hLNl : LN.length = lg := by rw [← hLN]; exact lnC_len _ _ _ _ _
  have hlg := HMS.out
  have hcurL : lnC (mkCs CL (cur j 0)) lg st nx j = LN := by
    rw [← hLN]
    unfold lnC
    refine cs_ext (by rw [mkCs_len, mkCs_len]) (fun i hi => ?_)
    rw [mkCs_len] at hi
    rw [mkCs_at _ _ _ hi, mkCs_at _ _ _ hi, mkCs_at _ _ _ (hlg.2.2 j i hlt hi), HCF.out j i hlt hi]
  have hLin : ∀ i, i < lg → In64 (cAt LN i).2.1 := fun i hi => by
    rw [← hLN]
    unfold lnC
    rw [mkCs_at _ _ _ hi]
    exact HIN.out _ (by rw [HSL.out.2]; exact hlg.2.2 j i hlt hi)
  have CA : Hid (∀ W, Below wr.heap.size wr W → Calls Tryd.prog 33 #[.agg #[.slice (some ⟨bc, 0, none⟩) CL CL, .int .i64 (lg : Int), .int .i64 (st : Int), .int .i64 (nx : Int)], .int .i64 (j : Int)] W fun e w' => (∃ a' c', e = .returned (.slice a' lg c') ∧ CellsO n LO wr w' LN a') ∧ Below wr.heap.size wr w' ∧ Below W.heap.size W w') := fun W hW => by
    have hl := (hrow.next hW).lines (n := n) (lo := LO) (w0 := wr) (cs := mkCs CL (cur j 0)) (mkCs_len _ _) (fun i hi => by rw [mkCs_at _ _ _ hi]; exact hce i hi)
    have C := line33L (c := CL) (lg := lg) (st := st) (nx := nx) (n := j) hl (by have := hW.size; omega) (by rw [mkCs_len]; exact hC16) hl16 (fun i hi => by rw [mkCs_len]; exact hlg.2.2 j i hlt hi)
    rw [mkCs_len, hcurL] at C
    refine C.mono ?_
    rintro e w' ⟨h1, hb'⟩
    exact ⟨h1, hW.trans (hb'.mono hW.size), hb'⟩
  have hED := HED.out j
  have hGD : (fun i => (G j i).2) = fun i => (rowP op t LN i).2 := by funext i; rw [HGD.out, hLN]
  rw [hGD] at hED
  have CB : Hid (∀ W a' c', Below wr.heap.size wr W → CellsO n LO wr W LN a' → Calls Tryd.prog 41 #[.agg #[.int .i64 op, .bool t], .slice a' lg c'] W fun e w' => ((EG j = 0 → ∃ g c2, e = .returned (.tuple #[.slice (some ⟨g, 0, none⟩) lg c2, .int .i64 0]) ∧ CellsO n LO wr w' (mkCs lg fun i => (G j i).1) (some ⟨g, 0, none⟩)) ∧ (EG j ≠ 0 → e = .returned (.tuple #[.slice none 0 0, .int .i64 (EG j)]))) ∧ Below wr.heap.size wr w') := fun W a' c' hW hO => by
    refine (scanned41 (cap := c') (t := t) HCH.out.2 hO hW hLNl hlg.1 hl16 (by have := hW.size; omega) hLin (HT.out.next (SW.bel.trans (hW.mono SW.bel.size)))).mono ?_
    rintro e w' ⟨h1, h2, hb'⟩
    rw [← hED] at h1 h2
    have e1 : (fun i => (rowP op t LN i).1) = fun i => (G j i).1 := by funext i; rw [HGD.out, hLN]
    rw [e1] at h1
    exact ⟨⟨h1, h2⟩, hW.trans (hb'.mono hW.size)⟩
  have hlw : w.heap.size < wr.heap.size := by have := SW.lt; omega
  have KS : Hid (∀ W, Below wr.heap.size wr W → (Below wr.heap.size wr W ∧ W.cell? ⟨w.heap.size, 0, none⟩ = some (.int .i64 op) ∧ W.cell? ⟨w.heap.size, 1, none⟩ = some (.bool t) ∧ W.cell? ⟨lb, 0, none⟩ = some (.slice (some ⟨bc, 0, none⟩) CL CL) ∧ W.cell? ⟨lb, 1, none⟩ = some (.int .i64 (lg : Int)) ∧ W.cell? ⟨lb, 2, none⟩ = some (.int .i64 (st : Int)) ∧ W.cell? ⟨lb, 3, none⟩ = some (.int .i64 (nx : Int)))) := fun W h =>
    ⟨h, (h.cell (p := ⟨w.heap.size, 0, none⟩) hlw).trans SW.p0, (h.cell (p := ⟨w.heap.size, 1, none⟩) hlw).trans SW.p1, (h.cell (p := ⟨lb, 0, none⟩) (by show lb < _; omega)).trans l0, (h.cell (p := ⟨lb, 1, none⟩) (by show lb < _; omega)).trans l1, (h.cell (p := ⟨lb, 2, none⟩) (by show lb < _; omega)).trans l2, (h.cell (p := ⟨lb, 3, none⟩) (by show lb < _; omega)).trans l3⟩
  have HD0 : Hid (Below wr.heap.size wr wr.drew) := (Below.refl _ _).drew
  have HST := hide (And.intro hoff (And.intro hrow (And.intro hce (And.intro hfu SW))))
  clear hoff hrow hce hfu SW o0 o1 l0 l1 l2 l3 hcurL hLin hLN hLNl hED hGD hlw
  by_cases hEj : ¬ EG j = 0
  · obtain ⟨EE, hEE⟩ : ∃ EE, EG j = EE := ⟨_, rfl⟩
    have HE : Hid (RR = (zeroA, EE)) := by
      have h := firstUp_hit (f := EG) HST.out.2.2.2.1 hEj m hlt
      have h3 := HRED3.out
      rw [h, if_pos hEj, hEE] at h3
      exact h3
    rw [hEE] at CB hEj
    have gE : (EE == 0) = false := beq_eq_false_iff_ne.2 hEj
    go_upto_region 12 with fail
    go_region_held3 (fun W => Below wr.heap.size wr W ∧ W.cell? ⟨w.heap.size, 0, none⟩ = some (.int .i64 op) ∧ W.cell? ⟨w.heap.size, 1, none⟩ = some (.bool t) ∧ W.cell? ⟨lb, 0, none⟩ = some (.slice (some ⟨bc, 0, none⟩) CL CL) ∧ W.cell? ⟨lb, 1, none⟩ = some (.int .i64 (lg : Int)) ∧ W.cell? ⟨lb, 2, none⟩ = some (.int .i64 (st : Int)) ∧ W.cell? ⟨lb, 3, none⟩ = some (.int .i64 (nx : Int)))
      (first | with_reducible exact KS.out _ HD0.out | with_reducible exact KS.out _ (by with_reducible assumption))
      (first | (go_at_call 33; (with_reducible refine (CA.out _ HD0.out).mono ?_); rintro e wa ⟨⟨a', c', rfl, hO⟩, ga, hba⟩) | (go_at_call 41; (with_reducible refine (CB.out _ _ _ ga hO).mono ?_); rintro e wb ⟨⟨r1, r2⟩, gb⟩; obtain rfl := r2 hEj))
    all_goals
      have SB := HST.out.2.2.2.2.next gb
      have r0 : wb.cell? ⟨w.heap.size + 1 + 1, 0, none⟩ = some (.slice none 0 0) := SB.r0
      have r1' : wb.cell? ⟨w.heap.size + 1 + 1, 1, none⟩ = some (.slice none 0 0) := SB.r1
      have f0 : wb.frozen? ⟨w.heap.size + 1 + 1, 0, none⟩ = false := SB.f0
      have f1 : wb.frozen? ⟨w.heap.size + 1 + 1, 1, none⟩ = false := SB.f1
      have HT2 := hide (set_two r0 r1' (.slice none 0 0) (.slice none 0 0))
      have HSB := hide SB
      clear r1 r2 gb ga hba hO SB CA CB KS HD0 HST HRED3 HIN HX HCH HGD HED HCL HCS HCF HCE2 HMS HRW8 HB8 HS8
      go_wp2
      have hbf := below_set2 (v0 := .slice none 0 0) (v1 := .slice none 0 0) HSB.out.bel (by omega : w.heap.size ≤ w.heap.size + 2)
      have HTT := set_two HSB.out.r0 HSB.out.r1 (.slice none 0 0) (.slice none 0 0)
      have HT2 := HT2.out
      exact bodyPost_ret (v := .tuple #[.agg #[.slice none 0 0, .slice none 0 0], .int .i64 EE]) (by simp [results, Tryd.results15, go_sem, HTT.1, HTT.2, HT2.1, HT2.2]) rfl ⟨⟨_, by rw [HE.out], by rw [HE.out]; exact zeroA_in _ _ _⟩, hbf⟩
  have hEj := Classical.not_not.1 hEj
  go_upto_region 12 with fail
  go_region_held3 (fun W => Below wr.heap.size wr W ∧ W.cell? ⟨w.heap.size, 0, none⟩ = some (.int .i64 op) ∧ W.cell? ⟨w.heap.size, 1, none⟩ = some (.bool t) ∧ W.cell? ⟨lb, 0, none⟩ = some (.slice (some ⟨bc, 0, none⟩) CL CL) ∧ W.cell? ⟨lb, 1, none⟩ = some (.int .i64 (lg : Int)) ∧ W.cell? ⟨lb, 2, none⟩ = some (.int .i64 (st : Int)) ∧ W.cell? ⟨lb, 3, none⟩ = some (.int .i64 (nx : Int)))
    (first | with_reducible exact KS.out _ HD0.out | with_reducible exact KS.out _ (by with_reducible assumption))
    (first | (go_at_call 33; (with_reducible refine (CA.out _ HD0.out).mono ?_); rintro e wa ⟨⟨a', c', rfl, hO⟩, ga, hba⟩) | (go_at_call 41; (with_reducible refine (CB.out _ _ _ ga hO).mono ?_); rintro e wb ⟨⟨r1, r2⟩, gb⟩; obtain ⟨g, c2, rfl, hsc⟩ := r1 hEj))
  all_goals
    have hge : LO ≤ g := by
      rcases hsc with h | ⟨b, off, hb, h1, -⟩
      · exfalso
        have := congrArg List.length h
        rw [mkCs_len] at this
        have := hlg.1
        simp at *
        omega
      · simp only [Option.some.injEq, Addr.mk.injEq, and_true] at hb
        rw [hb.1]; exact h1
    obtain ⟨abg, cbg, hgf⟩ := cellsO_fn hsc
    have hgc : ∀ i, i < lg → g < wb.heap.size ∧ wb.cell? ⟨g, i * 3, none⟩ = some (.int .i64 (G j i).1.1) ∧ wb.cell? ⟨g, i * 3 + 1, none⟩ = some (.int .i64 (G j i).1.2.1) ∧ wb.cell? ⟨g, i * 3 + 2, none⟩ = some (.slice (abg i) (G j i).1.2.2.length (cbg i)) ∧ CeIn (ArIn n LO wb) LO wb (G j i).1 (.int .i64 (G j i).1.1) (.int .i64 (G j i).1.2.1) (.slice (abg i) (G j i).1.2.2.length (cbg i)) := fun i hi => by
      obtain ⟨b, off, hb, -, hbl, hcc⟩ := hgf (by rw [mkCs_len]; omega)
      simp only [Option.some.injEq, Addr.mk.injEq, and_true] at hb
      obtain ⟨rfl, rfl⟩ := hb
      obtain ⟨e0, e1, e2, e3⟩ := hcc i (by rw [mkCs_len]; exact hi)
      rw [mkCs_at _ _ _ hi, Nat.zero_add] at *
      exact ⟨hbl, e0, e1, e2, e3.mono (Nat.le_refl _) gb fun y v hy => hy.next gb⟩
    have HGC := hide hgc
    have HWB : Hid (Off bc W8 wb ∧ RowT wb bc CL T ∧ (∀ p, p < CL → CeIn (ArIn n LO wb) LO wb (cur j 0 p) (T p).1 (T p).2.1 (T p).2.2) ∧ firstUp EG (j + 1) = 0 ∧ LO ≤ g ∧ W8.heap.size ≤ wb.heap.size) := ⟨HST.out.1.next gb, HST.out.2.1.next gb, fun p hp => (HST.out.2.2.1 p hp).mono (Nat.le_refl _) gb fun y v hy => hy.next gb, by rw [firstUp_step HST.out.2.2.2.1]; exact hEj, hge, (HST.out.1.next gb).io.size⟩
    clear hgc hgf hsc r1 r2 gb ga hba hO CA CB KS HD0 HST hge hEj
    go_wp2
    go_loopg [69] lg (fun gg iv wq => ∃ (i : Nat) (T : Nat → Value × Value × Value), gg + i = lg ∧ iv = .int .i64 (i : Int) ∧ Off bc wb wq ∧ RowT wq bc CL T ∧ (∀ p, p < CL → CeIn (ArIn n LO wb) LO wb (cur j i p) (T p).1 (T p).2.1 (T p).2.2))
    case atStart => exact ⟨0, _, rfl, rfl, Off.refl _ _, HWB.out.2.1, HWB.out.2.2.1⟩
    case round =>
    obtain ⟨i, T2, hgi, rfl, hoff, hrow, hce⟩ := hrel
    by_cases hli : ¬ i < lg
    · have hie : i = lg := by omega
      subst hie
      have HN : Hid (Off bc W8 wr ∧ RowT wr bc CL T2 ∧ (∀ p, p < CL → CeIn (ArIn n LO wr) LO wr (cur (j + 1) 0 p) (T2 p).1 (T2 p).2.1 (T2 p).2.2) ∧ firstUp EG (j + 1) = 0) := by
        refine ⟨HWB.out.1.trans hoff, hrow, fun p hp => ?_, HWB.out.2.2.2.1⟩
        have K := hoff.keeps (lo := LO) (by omega)
        rw [← HCL.out j p hp]
        exact (hce p hp).keeps K fun y v hy => hy.keeps K
      clear hoff hrow hce HWB HGC
      go_wp2
      go_roundg (m - (j + 1))
      case rel => exact ⟨j + 1, T2, by omega, by go_num, HN.out⟩
      case measure => omega
    have hli := Classical.not_not.1 hli
    obtain ⟨p, hp⟩ : ∃ p, j * nx + i * st = p := ⟨_, rfl⟩
    have hpC : p < CL := by rw [← hp]; exact hlg.2.2 j i hlt hli
    obtain ⟨hgl, g0, g1, g2, hceg⟩ := HGC.out i hli
    have hgne : g ≠ bc := by have := HWB.out.2.2.2.2.1; omega
    have G0 := hoff.cell hgl hgne g0
    have G1 := hoff.cell hgl hgne g1
    have G2 := hoff.cell hgl hgne g2
    have hOO := HWB.out.1.trans hoff
    have o1 := hOO.cell (by omega : ob < W8.heap.size) (by omega) HB8.out.2.1
    have l0 := hOO.cell (by omega : lb < W8.heap.size) (by omega) HB8.out.2.2.1
    have l1 := hOO.cell (by omega : lb < W8.heap.size) (by omega) HB8.out.2.2.2.1
    have l2 := hOO.cell (by omega : lb < W8.heap.size) (by omega) HB8.out.2.2.2.2.1
    have l3 := hOO.cell (by omega : lb < W8.heap.size) (by omega) HB8.out.2.2.2.2.2
    have hsw : W8.heap.size ≤ wr.heap.size := hOO.io.size
    have HCEG := hide hceg
    have HCUR : Hid (∀ q, q < CL → cur j (i + 1) q = if q = p then (G j i).1 else cur j i q) := fun q hq => by rw [← hp]; exact HCS.out j i q hq hlt hli
    obtain ⟨v0, hv0⟩ : ∃ v0, (G j i).1.1 = v0 := ⟨_, rfl⟩
    obtain ⟨v1, hv1⟩ : ∃ v1, (G j i).1.2.1 = v1 := ⟨_, rfl⟩
    obtain ⟨v2, hv2⟩ : ∃ v2, (G j i).1.2.2.length = v2 := ⟨_, rfl⟩
    rw [hv0, hv1, hv2] at HCEG
    rw [hv0] at G0
    rw [hv1] at G1
    rw [hv2] at G2
    generalize abg i = aG at *
    generalize cbg i = cG at *
    have B5 := one_alloc wr (.cells #[.int .i64 v0, .int .i64 v1, .slice aG v2 cG] 43)
    have Z5 := Zc.new wr (.int .i64 v0) (.int .i64 v1) (.slice aG v2 cG)
    obtain ⟨W5, e5⟩ : ∃ W5, wr.alloc (.cells #[.int .i64 v0, .int .i64 v1, .slice aG v2 cG] 43) = W5 := ⟨_, rfl⟩
    rw [e5] at B5 Z5
    have hz5 : wr.heap.size < W5.heap.size := Z5.lt
    have hpz : (p : Int) = (j : Int) * (nx : Int) + (i : Int) * (st : Int) := by rw [← hp]; push_cast; rfl
    have hjn : (0 : Int) ≤ (j : Int) * (nx : Int) := Int.mul_nonneg (by omega) (by omega)
    have hin' : (0 : Int) ≤ (i : Int) * (st : Int) := Int.mul_nonneg (by omega) (by omega)
    have CP : Hid (∀ W, Below W5.heap.size W5 W → Calls Tryd.prog 42 #[.agg #[.slice (some ⟨bc, 0, none⟩) CL CL, .int .i64 (lg : Int), .int .i64 (st : Int), .int .i64 (nx : Int)], .int .i64 (j : Int), .int .i64 (i : Int)] W fun e w' => e = .returned (.int .i64 (p : Int)) ∧ Below W5.heap.size W5 w') := fun W hW => by
      refine (place42 _ (lg : Int) (st : Int) (nx : Int) (j : Int) (i : Int) W hjn (by omega) hin' (by omega)).mono ?_
      rintro e w' ⟨rfl, hb'⟩
      exact ⟨by rw [hpz], hW.trans (hb'.mono hW.size)⟩
    have hS5 : ∀ W, Below W5.heap.size W5 W → (W.cell? ⟨ob, 1, none⟩ = some (.slice (some ⟨bc, 0, none⟩) CL CL) ∧ W.cell? ⟨lb, 0, none⟩ = some (.slice (some ⟨bc, 0, none⟩) CL CL) ∧ W.cell? ⟨lb, 1, none⟩ = some (.int .i64 (lg : Int)) ∧ W.cell? ⟨lb, 2, none⟩ = some (.int .i64 (st : Int)) ∧ W.cell? ⟨lb, 3, none⟩ = some (.int .i64 (nx : Int)) ∧ W.cell? ⟨wr.heap.size, 0, none⟩ = some (.int .i64 v0) ∧ W.cell? ⟨wr.heap.size, 1, none⟩ = some (.int .i64 v1) ∧ W.cell? ⟨wr.heap.size, 2, none⟩ = some (.slice aG v2 cG)) := fun W h => by
      have hw := B5.trans (h.mono B5.size)
      exact ⟨(hw.cell (p := ⟨ob, 1, none⟩) (by show ob < _; omega)).trans o1, (hw.cell (p := ⟨lb, 0, none⟩) (by show lb < _; omega)).trans l0, (hw.cell (p := ⟨lb, 1, none⟩) (by show lb < _; omega)).trans l1, (hw.cell (p := ⟨lb, 2, none⟩) (by show lb < _; omega)).trans l2, (hw.cell (p := ⟨lb, 3, none⟩) (by show lb < _; omega)).trans l3, (Z5.next h).c0, (Z5.next h).c1, (Z5.next h).c2⟩
    have KS := hide hS5
    have hbcw : bc < wr.heap.size := hrow.lt
    have KT : Hid (∀ W, Below W5.heap.size W5 W → ((((W.setCell ⟨bc, p * 3, none⟩ (.int .i64 v0)).setCell ⟨bc, p * 3 + 1, none⟩ (.int .i64 v1)).setCell ⟨bc, p * 3 + 2, none⟩ (.slice aG v2 cG)).cell? ⟨ob, 1, none⟩ = some (.slice (some ⟨bc, 0, none⟩) CL CL) ∧ (((W.setCell ⟨bc, p * 3, none⟩ (.int .i64 v0)).setCell ⟨bc, p * 3 + 1, none⟩ (.int .i64 v1)).setCell ⟨bc, p * 3 + 2, none⟩ (.slice aG v2 cG)).cell? ⟨lb, 0, none⟩ = some (.slice (some ⟨bc, 0, none⟩) CL CL) ∧ (((W.setCell ⟨bc, p * 3, none⟩ (.int .i64 v0)).setCell ⟨bc, p * 3 + 1, none⟩ (.int .i64 v1)).setCell ⟨bc, p * 3 + 2, none⟩ (.slice aG v2 cG)).cell? ⟨lb, 1, none⟩ = some (.int .i64 (lg : Int)) ∧ (((W.setCell ⟨bc, p * 3, none⟩ (.int .i64 v0)).setCell ⟨bc, p * 3 + 1, none⟩ (.int .i64 v1)).setCell ⟨bc, p * 3 + 2, none⟩ (.slice aG v2 cG)).cell? ⟨lb, 2, none⟩ = some (.int .i64 (st : Int)) ∧ (((W.setCell ⟨bc, p * 3, none⟩ (.int .i64 v0)).setCell ⟨bc, p * 3 + 1, none⟩ (.int .i64 v1)).setCell ⟨bc, p * 3 + 2, none⟩ (.slice aG v2 cG)).cell? ⟨lb, 3, none⟩ = some (.int .i64 (nx : Int)) ∧ (((W.setCell ⟨bc, p * 3, none⟩ (.int .i64 v0)).setCell ⟨bc, p * 3 + 1, none⟩ (.int .i64 v1)).setCell ⟨bc, p * 3 + 2, none⟩ (.slice aG v2 cG)).cell? ⟨wr.heap.size, 0, none⟩ = some (.int .i64 v0) ∧ (((W.setCell ⟨bc, p * 3, none⟩ (.int .i64 v0)).setCell ⟨bc, p * 3 + 1, none⟩ (.int .i64 v1)).setCell ⟨bc, p * 3 + 2, none⟩ (.slice aG v2 cG)).cell? ⟨wr.heap.size, 1, none⟩ = some (.int .i64 v1) ∧ (((W.setCell ⟨bc, p * 3, none⟩ (.int .i64 v0)).setCell ⟨bc, p * 3 + 1, none⟩ (.int .i64 v1)).setCell ⟨bc, p * 3 + 2, none⟩ (.slice aG v2 cG)).cell? ⟨wr.heap.size, 2, none⟩ = some (.slice aG v2 cG))) := fun W h => by
      have hs := hS5 W h
      have ap : ∀ (b m : Nat) (v : Value), b ≠ bc → W.cell? ⟨b, m, none⟩ = some v → (((W.setCell ⟨bc, p * 3, none⟩ (.int .i64 v0)).setCell ⟨bc, p * 3 + 1, none⟩ (.int .i64 v1)).setCell ⟨bc, p * 3 + 2, none⟩ (.slice aG v2 cG)).cell? ⟨b, m, none⟩ = some v := fun b m v hne hv => by
        rw [World.cell?_setCell_other _ _ _ _ (by simp [hne]), World.cell?_setCell_other _ _ _ _ (by simp [hne]), World.cell?_setCell_other _ _ _ _ (by simp [hne])]
        exact hv
      exact ⟨ap _ _ _ (by omega) hs.1, ap _ _ _ (by omega) hs.2.1, ap _ _ _ (by omega) hs.2.2.1, ap _ _ _ (by omega) hs.2.2.2.1, ap _ _ _ (by omega) hs.2.2.2.2.1, ap _ _ _ (by omega) hs.2.2.2.2.2.1, ap _ _ _ (by omega) hs.2.2.2.2.2.2.1, ap _ _ _ (by omega) hs.2.2.2.2.2.2.2⟩
    have HD0 : Hid (Below W5.heap.size W5 W5.drew) := (Below.refl _ _).drew
    have HROW : Hid (∀ W, Below W5.heap.size W5 W → RowT W bc CL T2 ∧ Off bc wb W) := fun W h => ⟨(hrow.next B5).next h, (hoff.next B5).next h⟩
    have HCE := hide hce
    have hp0 : (0 : Int) ≤ (p : Int) := by omega
    have hpL : (p : Int) < (CL : Int) := by omega
    have HE5 := hide e5
    clear hoff hrow hce hceg hOO o1 l0 l1 l2 l3 B5 Z5 e5 hS5 hpz hjn hin' hp hv0 hv1 hv2 g0 g1 g2 hgl
    go_upto_region 18 with fail
    rw [HE5.out]
    clear HE5 G0 G1 G2
    go_region_held3 (fun W => W.cell? ⟨ob, 1, none⟩ = some (.slice (some ⟨bc, 0, none⟩) CL CL) ∧ W.cell? ⟨lb, 0, none⟩ = some (.slice (some ⟨bc, 0, none⟩) CL CL) ∧ W.cell? ⟨lb, 1, none⟩ = some (.int .i64 (lg : Int)) ∧ W.cell? ⟨lb, 2, none⟩ = some (.int .i64 (st : Int)) ∧ W.cell? ⟨lb, 3, none⟩ = some (.int .i64 (nx : Int)) ∧ W.cell? ⟨wr.heap.size, 0, none⟩ = some (.int .i64 v0) ∧ W.cell? ⟨wr.heap.size, 1, none⟩ = some (.int .i64 v1) ∧ W.cell? ⟨wr.heap.size, 2, none⟩ = some (.slice aG v2 cG))
      (first | with_reducible exact KS.out _ HD0.out | with_reducible exact KS.out _ (by with_reducible assumption) | with_reducible exact KT.out _ (by with_reducible assumption))
      (first | (go_at_call 42; (with_reducible refine (CP.out _ HD0.out).mono ?_); rintro e w6 ⟨rfl, g6⟩; have t0 := (HROW.out _ g6).1.c0 p hpC; have t1 := (HROW.out _ g6).1.c1 p hpC; have t2 := (HROW.out _ g6).1.c2 p hpC; have t3 := (HROW.out _ g6).1.f (p * 3); have t4 := (HROW.out _ g6).1.f (p * 3 + 1); have t5 := (HROW.out _ g6).1.f (p * 3 + 2)))
    all_goals
      have HN : Hid (Off bc wb (((w6.setCell ⟨bc, p * 3, none⟩ (.int .i64 v0)).setCell ⟨bc, p * 3 + 1, none⟩ (.int .i64 v1)).setCell ⟨bc, p * 3 + 2, none⟩ (.slice aG v2 cG)) ∧ RowT (((w6.setCell ⟨bc, p * 3, none⟩ (.int .i64 v0)).setCell ⟨bc, p * 3 + 1, none⟩ (.int .i64 v1)).setCell ⟨bc, p * 3 + 2, none⟩ (.slice aG v2 cG)) bc CL (setT T2 p (.int .i64 v0, .int .i64 v1, .slice aG v2 cG)) ∧ ∀ q, q < CL → CeIn (ArIn n LO wb) LO wb (cur j (i + 1) q) (setT T2 p (.int .i64 v0, .int .i64 v1, .slice aG v2 cG) q).1 (setT T2 p (.int .i64 v0, .int .i64 v1, .slice aG v2 cG) q).2.1 (setT T2 p (.int .i64 v0, .int .i64 v1, .slice aG v2 cG) q).2.2) := by
        refine ⟨(HROW.out _ g6).2.put _ _ _, (HROW.out _ g6).1.put hpC _ _ _, fun q hq => ?_⟩
        rw [HCUR.out q hq]
        unfold setT
        by_cases h : q = p
        · rw [if_pos h, if_pos h]; exact HCEG.out
        · rw [if_neg h, if_neg h]; exact HCE.out q hq
      clear t0 t1 t2 t3 t4 t5 g6 KS KT CP HD0 HROW HCE HCUR HCEG
      go_wp2
      go_roundg (lg - (i + 1))
      case rel => exact ⟨i + 1, _, by omega, by go_num, HN.out⟩
      case measure => omega
end Go.Proofs.YtlfacpclihmnnaaDoor
namespace Go.Proofs.YtlfacpclihmnnaaDoor
open Go.ChangeShapes Go.WideShapes Go.ChangeAt Go.RowKit
open Num (resV resE In64 sgnI absI)
set_option linter.unusedVariables false
set_option linter.unusedSimpArgs false
set_option maxRecDepth 100000
set_option maxHeartbeats 8000000 in
theorem fill46 {n lo N S c1 : Nat} {s : List Int} {a1 : Option Addr} {p1 p2 p3 p4 : Value} {G : Nat → Ce × Int} {w0 w : World} (hb0 : Below w0.heap.size w0 w) (R : Row lo w a1 s) (hS : s.length = S) (hlo : lo ≤ w.heap.size) (h16 : N ≤ 16384)
    (K : ∀ W, Below w.heap.size w W → ∀ i, i < N → Calls Tryd.prog 46 #[.int .i64 (i : Int), p1, p2, p3, p4] W fun e w' => GivesF n lo w0 (G i) W e w') :
    Calls Tryd.prog 30 #[.slice a1 S c1, .int .i64 (N : Int), .func (.func 46) #[] #[p1, p2, p3, p4]] w fun e w' => GivesR (n + 1) lo (filR s N G) w e w' := by
  have mk1 := make_cells N (by omega)
  obtain ⟨W1, hW1⟩ : ∃ W1, w.alloc (.cells #[.slice none 0 0, .slice none 0 0] 25) = W1 := ⟨_, rfl⟩
  have z1 : W1.heap.size = w.heap.size + 1 := by rw [← hW1]; simp
  obtain ⟨W2, hW2⟩ : ∃ W2, W1.alloc (.cells (madeCells #[.int .i64 0, .int .i64 0, .slice none 0 0] (N * 3)) 43) = W2 := ⟨_, rfl⟩
  have S0 : FillS n lo N w0 w G (fun _ => (.int .i64 0, .int .i64 0, .slice none 0 0)) 0 W2 := by
    have B1 : Below w.heap.size w W1 := by rw [← hW1]; exact one_alloc _ _
    have B2 : Below W1.heap.size W1 W2 := by rw [← hW2]; exact one_alloc _ _
    have hr := rowIs_made3 W1 (N * 3)
    rw [hW2, z1] at hr
    have hB : w.heap.size < W1.heap.size := by omega
    refine ⟨hr.congr fun i hi => (gF_zero _ i).symm, B1.trans (B2.mono (by omega)), by rw [← hW2]; simp; omega, (B2.cell (p := ⟨w.heap.size, 0, none⟩) hB).trans ?_, (B2.cell (p := ⟨w.heap.size, 1, none⟩) hB).trans ?_, (B2.frozen (p := ⟨w.heap.size, 0, none⟩) hB).trans ?_, (B2.frozen (p := ⟨w.heap.size, 1, none⟩) hB).trans ?_, rfl, fun i hi => absurd hi (by omega)⟩
    · rw [← hW1]; exact cell_new0 w _ 25 0 _ rfl
    · rw [← hW1]; exact cell_new0 w _ 25 1 _ rfl
    · rw [← hW1]; simp
    · rw [← hW1]; simp
  have HS0 := hide S0
  have HK := hide K
  have HR := hide R
  have HZ1 := hide z1
  have HB0 := hide hb0
  clear S0 K R z1 hb0
  go_enter Tryd.func30, Tryd.ntmps30
  go_wp2
  rw [HZ1.out]
  clear mk1 hW1 hW2
  go_loopg [16] N (fun g iv wq => ∃ (j : Nat) (T : Nat → Value × Value × Value), g + j = N ∧ iv = .int .i64 (j : Int) ∧ FillS n lo N w0 w G T j wq)
  case atStart => exact ⟨0, _, rfl, rfl, HS0.out⟩
  case round =>
    obtain ⟨j, T, hg, rfl, hst⟩ := hrel
    clear HS0
    have HST := hide hst
    by_cases hlt : j < N
    · have CC := HK.out wr hst.bel j hlt
      have hjz : (j : Int) < (N : Int) := by omega
      clear hst
      go_wp2_with fail
      refine CC.mono ?_
      rintro e w1 ⟨⟨v0, v1, v2, rfl, hce⟩, hb1⟩
      clear CC
      obtain ⟨rfl, rfl, ab0, cb0, rfl, -⟩ := id hce
      have S1 := HST.out.next hb1
      have HCE := hide hce
      obtain ⟨EE, hEE⟩ : ∃ EE, (G j).2 = EE := ⟨_, rfl⟩
      rw [hEE]
      obtain ⟨k0, hk0⟩ : ∃ k0, (G j).1.1 = k0 := ⟨_, rfl⟩
      obtain ⟨k1, hk1⟩ : ∃ k1, (G j).1.2.1 = k1 := ⟨_, rfl⟩
      obtain ⟨k2, hk2⟩ : ∃ k2, (G j).1.2.2.length = k2 := ⟨_, rfl⟩
      rw [hk0, hk1, hk2] at HCE ⊢
      have S2 := S1.next (one_alloc w1 (.cells #[.int .i64 k0, .int .i64 k1, .slice ab0 k2 cb0] 43))
      have ZN := Zc.new w1 (.int .i64 k0) (.int .i64 k1) (.slice ab0 k2 cb0)
      obtain ⟨w2, hw2⟩ : ∃ w2, w1.alloc (.cells #[.int .i64 k0, .int .i64 k1, .slice ab0 k2 cb0] 43) = w2 := ⟨_, rfl⟩
      rw [hw2] at S2 ZN
      have hl12 : w.heap.size + 1 < w1.heap.size := S1.lt
      have m0 := ZN.c0
      have m1 := ZN.c1
      have m2 := ZN.c2
      have r0 := S2.c0
      have r1 := S2.c1
      have t0 := S2.f0
      have t1 := S2.f1
      have z0 := S2.row.cell (i := j * 3) (by omega)
      have z1 := S2.row.cell (i := j * 3 + 1) (by omega)
      have z2 := S2.row.cell (i := j * 3 + 2) (by omega)
      have y0 := S2.row.frozen (j * 3)
      have y1 := S2.row.frozen (j * 3 + 1)
      have y2 := S2.row.frozen (j * 3 + 2)
      have HEE := hide hEE
      have HS2 := hide S2
      clear S1 S2 ZN hce hk0 hk1 hk2 hEE hb1 HST
      generalize gF T j (j * 3) = g0 at *
      generalize gF T j (j * 3 + 1) = g1 at *
      generalize gF T j (j * 3 + 2) = g2 at *
      by_cases hE0 : EE = 0
      · subst hE0
        have HPUT := hide (HS2.out.put HEE.out HCE.out)
        go_wp2
        obtain ⟨T', HN⟩ := HPUT.out
        go_roundg (N - (j + 1))
        case rel => exact ⟨j + 1, T', by omega, by go_num, HN⟩
        case measure => omega
      · have gE : (EE == 0) = false := beq_eq_false_iff_ne.2 hE0
        have HFR : Hid (filR s N G = (zeroA, EE)) := by
          unfold Hid filR
          have h1 : firstUp (fun i => (G i).2) N = EE := by
            rw [firstUp_hit HS2.out.e0 (by show (G j).2 ≠ 0; rw [HEE.out]; exact hE0) N hlt]
            exact HEE.out
          rw [h1, if_neg hE0]
        go_wp2
        have hbf := below_set2 (v0 := .slice none 0 0) (v1 := .slice none 0 0) HS2.out.bel (Nat.le_refl _)
        have HT := set_two HS2.out.c0 HS2.out.c1 (.slice none 0 0) (.slice none 0 0)
        exact bodyPost_ret (v := .tuple #[.agg #[.slice none 0 0, .slice none 0 0], .int .i64 EE]) (by simp [results, Tryd.results30, go_sem, HT.1, HT.2]) rfl ⟨⟨_, by rw [HFR.out], by rw [HFR.out]; exact zeroA_in _ _ _⟩, hbf⟩
    · have hje : j = N := by omega
      subst hje
      have r0 := hst.c0
      have r1 := hst.c1
      have t0 := hst.f0
      have t1 := hst.f1
      have hjz : ¬ ((j : Int) < (j : Int)) := by omega
      have HFR : Hid (filR s j G = (.mk s (mkCs j fun i => (G i).1), 0)) := by
        unfold Hid filR
        rw [if_pos hst.e0]
      clear HK hst
      go_wp2
      have hbf := below_set2 (v0 := .slice a1 S c1) (v1 := .slice (some ⟨w.heap.size + 1, 0, none⟩) j j) HST.out.bel (Nat.le_refl _)
      have HT := set_two HST.out.c0 HST.out.c1 (.slice a1 S c1) (.slice (some ⟨w.heap.size + 1, 0, none⟩) j j)
      refine bodyPost_ret (v := .tuple #[.agg #[.slice a1 S c1, .slice (some ⟨w.heap.size + 1, 0, none⟩) j j], .int .i64 0]) (by simp [results, Tryd.results30, go_sem, HT.1, HT.2]) rfl ⟨⟨_, by rw [HFR.out], ?_⟩, hbf⟩
      rw [HFR.out]
      refine arIn_mk (x := .mk s (mkCs j fun i => (G i).1)) (HR.out.next hbf) (by simp only [Ar.cells, mkCs_len]; omega) ?_ hS (by simp only [Ar.cells, mkCs_len])
      have hro : ((wr.setCell ⟨w.heap.size, 0, none⟩ (.slice a1 S c1)).setCell ⟨w.heap.size, 1, none⟩ (.slice (some ⟨w.heap.size + 1, 0, none⟩) j j)).rowIs (w.heap.size + 1) 43 (j * 3) (gF T j) := HST.out.row.of_block (by rw [Below.heap_setCell _ _ _ _ (by show w.heap.size + 1 ≠ w.heap.size; omega), Below.heap_setCell _ _ _ _ (by show w.heap.size + 1 ≠ w.heap.size; omega)])
      exact (cells_gF hro (by have := HST.out.lt; simpa using this) (by omega) HST.out.ce).now (HB0.out.trans (hbf.mono HB0.out.size))
set_option maxHeartbeats 8000000 in
theorem out4674 {n lo XC YC xc yc i bT bA bW bB : Nat} {xs ys : List Ce} {aX aY : Option Addr} {op : Int} {w0 w : World} (hX : CellsIn n lo w xs aX) (hY : CellsIn n lo w ys aY) (hXC : xs.length = XC) (hYC : ys.length = YC) (hX16 : XC ≤ 16384) (hY16 : YC ≤ 16384) (hi : i < XC * YC) (hi16 : i ≤ 16384)
    (hxin : ∀ k, k < XC → In64 (cAt xs k).2.1) (hyin : ∀ k, k < YC → In64 (cAt ys k).2.1) (T : Tab w)
    (lT : bT < w.heap.size) (T0 : w.cell? ⟨bT, 0, none⟩ = some (.func (.func 74) #[.agg #[.int .i64 op, .bool false]] #[])) (lA : bA < w.heap.size) (A1 : w.cell? ⟨bA, 1, none⟩ = some (.slice aX XC xc)) (lW : bW < w.heap.size) (W0 : w.cell? ⟨bW, 0, none⟩ = some (.int .i64 (YC : Int))) (lB : bB < w.heap.size) (B1 : w.cell? ⟨bB, 1, none⟩ = some (.slice aY YC yc)) :
    Calls Tryd.prog 46 #[.int .i64 (i : Int), .pointer (some ⟨bT, 0, none⟩), .pointer (some ⟨bA, 0, none⟩), .pointer (some ⟨bW, 0, none⟩), .pointer (some ⟨bB, 0, none⟩)] w fun e w' => GivesF n lo w0 ((0, tV op false (cAt xs (i / YC)) (cAt ys (i % YC)), []), tE op false (cAt xs (i / YC)) (cAt ys (i % YC))) w e w' := by
  have hY0 : 0 < YC := by
    rcases Nat.eq_zero_or_pos YC with h | h
    · rw [h] at hi; omega
    · exact h
  obtain ⟨q, hq⟩ : ∃ q, i / YC = q := ⟨_, rfl⟩
  obtain ⟨r, hr⟩ : ∃ r, i % YC = r := ⟨_, rfl⟩
  have hqX : q < XC := by rw [← hq]; exact (Nat.div_lt_iff_lt_mul hY0).2 hi
  have hrY : r < YC := by rw [← hr]; exact Nat.mod_lt _ hY0
  have tq : (i : Int).tdiv (YC : Int) = (q : Int) := by rw [Int.tdiv_eq_ediv_of_nonneg (by omega), ← hq, Int.natCast_ediv]
  have tr' : (i : Int).tmod (YC : Int) = (r : Int) := by rw [Int.tmod_eq_emod_of_nonneg (by omega), ← hr]; rfl
  have wq : IntKind.i64.wrap (q : Int) = (q : Int) := IntWalk.i64_in _ ⟨by omega, by omega⟩
  have wr' : IntKind.i64.wrap (r : Int) = (r : Int) := IntWalk.i64_in _ ⟨by omega, by omega⟩
  rw [hq, hr]
  obtain ⟨abx, cbx, hcx⟩ := cells_fn hX
  obtain ⟨aby, cby, hcy⟩ := cells_fn hY
  obtain ⟨pb, po, rfl, -, lp, hpc⟩ := hcx (by omega)
  obtain ⟨rb, ro, rfl, -, lr, hrc⟩ := hcy (by omega)
  obtain ⟨x0, x1, x2, -⟩ := hpc q (by omega)
  obtain ⟨y0, y1, y2, -⟩ := hrc r (by omega)
  obtain ⟨W1, hW1⟩ : ∃ W1, w.alloc (.cells #[.int .i64 0, .int .i64 0, .slice none 0 0] 43) = W1 := ⟨_, rfl⟩
  have B1' : Below w.heap.size w W1 := by rw [← hW1]; exact one_alloc _ _
  have ZR : Zc W1 w.heap.size (.int .i64 0) (.int .i64 0) (.slice none 0 0) := by rw [← hW1]; exact Zc.new w _ _ _
  have hs1 := ZR.lt
  have hV : tV op false (cAt xs q) (cAt ys r) = c2V op (cAt xs q) (cAt ys r) := rfl
  have hE : tE op false (cAt xs q) (cAt ys r) = c2E op (cAt xs q) (cAt ys r) := rfl
  have C1 : Hid (∀ W, Below W1.heap.size W1 W → Calls Tryd.prog 74 #[.agg #[.int .i64 op, .bool false], .agg #[.int .i64 (cAt xs q).1, .int .i64 (cAt xs q).2.1, .slice (abx q) (cAt xs q).2.2.length (cbx q)], .agg #[.int .i64 (cAt ys r).1, .int .i64 (cAt ys r).2.1, .slice (aby r) (cAt ys r).2.2.length (cby r)]] W fun e w' => e = .returned (.tuple #[.agg #[.int .i64 0, .int .i64 (tV op false (cAt xs q) (cAt ys r)), .slice none 0 0], .int .i64 (tE op false (cAt xs q) (cAt ys r))]) ∧ Below W1.heap.size W1 w') := fun W hW => by
    have hBW := B1'.trans (hW.mono B1'.size)
    refine (two74 op false _ _ _ _ _ _ _ _ _ _ (cAt xs q) (cAt ys r) ⟨rfl, rfl⟩ ⟨rfl, rfl⟩ (hxin q hqX) (hyin r hrY) W (T.next hBW)).mono ?_
    rintro e w' ⟨rfl, h2⟩
    exact ⟨by rw [hV, hE], hW.trans (h2.mono hW.size)⟩
  have HZ := hide (And.intro ZR B1')
  clear hV hE
  generalize tV op false (cAt xs q) (cAt ys r) = V at *
  generalize tE op false (cAt xs q) (cAt ys r) = E at *
  generalize (cAt xs q).1 = k1 at *
  generalize (cAt xs q).2.1 = n1 at *
  generalize (cAt xs q).2.2.length = m1 at *
  generalize (cAt ys r).1 = k2 at *
  generalize (cAt ys r).2.1 = n2 at *
  generalize (cAt ys r).2.2.length = m2 at *
  generalize abx q = a1 at *
  generalize aby r = a2 at *
  generalize cbx q = d1 at *
  generalize cby r = d2 at *
  have KS : Hid (∀ W, Below W1.heap.size W1 W → (W.cell? ⟨bT, 0, none⟩ = some (.func (.func 74) #[.agg #[.int .i64 op, .bool false]] #[]) ∧ W.cell? ⟨bA, 1, none⟩ = some (.slice (some ⟨pb, po, none⟩) XC xc) ∧ W.cell? ⟨bW, 0, none⟩ = some (.int .i64 (YC : Int)) ∧ W.cell? ⟨bB, 1, none⟩ = some (.slice (some ⟨rb, ro, none⟩) YC yc) ∧ W.cell? ⟨pb, po + q * 3, none⟩ = some (.int .i64 k1) ∧ W.cell? ⟨pb, po + q * 3 + 1, none⟩ = some (.int .i64 n1) ∧ W.cell? ⟨pb, po + q * 3 + 2, none⟩ = some (.slice a1 m1 d1) ∧ W.cell? ⟨rb, ro + r * 3, none⟩ = some (.int .i64 k2) ∧ W.cell? ⟨rb, ro + r * 3 + 1, none⟩ = some (.int .i64 n2) ∧ W.cell? ⟨rb, ro + r * 3 + 2, none⟩ = some (.slice a2 m2 d2))) := fun W h => by
    have hBW := B1'.trans (h.mono B1'.size)
    exact ⟨(hBW.cell (p := ⟨bT, 0, none⟩) lT).trans T0, (hBW.cell (p := ⟨bA, 1, none⟩) lA).trans A1, (hBW.cell (p := ⟨bW, 0, none⟩) lW).trans W0, (hBW.cell (p := ⟨bB, 1, none⟩) lB).trans B1, (hBW.cell (p := ⟨pb, po + q * 3, none⟩) lp).trans x0, (hBW.cell (p := ⟨pb, po + q * 3 + 1, none⟩) lp).trans x1, (hBW.cell (p := ⟨pb, po + q * 3 + 2, none⟩) lp).trans x2, (hBW.cell (p := ⟨rb, ro + r * 3, none⟩) lr).trans y0, (hBW.cell (p := ⟨rb, ro + r * 3 + 1, none⟩) lr).trans y1, (hBW.cell (p := ⟨rb, ro + r * 3 + 2, none⟩) lr).trans y2⟩
  have KT : Hid (∀ W, Below W1.heap.size W1 W → ((((W.setCell ⟨w.heap.size, 0, none⟩ (.int .i64 0)).setCell ⟨w.heap.size, 1, none⟩ (.int .i64 V)).setCell ⟨w.heap.size, 2, none⟩ (.slice none 0 0)).cell? ⟨bT, 0, none⟩ = some (.func (.func 74) #[.agg #[.int .i64 op, .bool false]] #[]) ∧ (((W.setCell ⟨w.heap.size, 0, none⟩ (.int .i64 0)).setCell ⟨w.heap.size, 1, none⟩ (.int .i64 V)).setCell ⟨w.heap.size, 2, none⟩ (.slice none 0 0)).cell? ⟨bA, 1, none⟩ = some (.slice (some ⟨pb, po, none⟩) XC xc) ∧ (((W.setCell ⟨w.heap.size, 0, none⟩ (.int .i64 0)).setCell ⟨w.heap.size, 1, none⟩ (.int .i64 V)).setCell ⟨w.heap.size, 2, none⟩ (.slice none 0 0)).cell? ⟨bW, 0, none⟩ = some (.int .i64 (YC : Int)) ∧ (((W.setCell ⟨w.heap.size, 0, none⟩ (.int .i64 0)).setCell ⟨w.heap.size, 1, none⟩ (.int .i64 V)).setCell ⟨w.heap.size, 2, none⟩ (.slice none 0 0)).cell? ⟨bB, 1, none⟩ = some (.slice (some ⟨rb, ro, none⟩) YC yc) ∧ (((W.setCell ⟨w.heap.size, 0, none⟩ (.int .i64 0)).setCell ⟨w.heap.size, 1, none⟩ (.int .i64 V)).setCell ⟨w.heap.size, 2, none⟩ (.slice none 0 0)).cell? ⟨pb, po + q * 3, none⟩ = some (.int .i64 k1) ∧ (((W.setCell ⟨w.heap.size, 0, none⟩ (.int .i64 0)).setCell ⟨w.heap.size, 1, none⟩ (.int .i64 V)).setCell ⟨w.heap.size, 2, none⟩ (.slice none 0 0)).cell? ⟨pb, po + q * 3 + 1, none⟩ = some (.int .i64 n1) ∧ (((W.setCell ⟨w.heap.size, 0, none⟩ (.int .i64 0)).setCell ⟨w.heap.size, 1, none⟩ (.int .i64 V)).setCell ⟨w.heap.size, 2, none⟩ (.slice none 0 0)).cell? ⟨pb, po + q * 3 + 2, none⟩ = some (.slice a1 m1 d1) ∧ (((W.setCell ⟨w.heap.size, 0, none⟩ (.int .i64 0)).setCell ⟨w.heap.size, 1, none⟩ (.int .i64 V)).setCell ⟨w.heap.size, 2, none⟩ (.slice none 0 0)).cell? ⟨rb, ro + r * 3, none⟩ = some (.int .i64 k2) ∧ (((W.setCell ⟨w.heap.size, 0, none⟩ (.int .i64 0)).setCell ⟨w.heap.size, 1, none⟩ (.int .i64 V)).setCell ⟨w.heap.size, 2, none⟩ (.slice none 0 0)).cell? ⟨rb, ro + r * 3 + 1, none⟩ = some (.int .i64 n2) ∧ (((W.setCell ⟨w.heap.size, 0, none⟩ (.int .i64 0)).setCell ⟨w.heap.size, 1, none⟩ (.int .i64 V)).setCell ⟨w.heap.size, 2, none⟩ (.slice none 0 0)).cell? ⟨rb, ro + r * 3 + 2, none⟩ = some (.slice a2 m2 d2))) := fun W h => by
    have hw := KS.out W h
    have hs : Below w.heap.size W (((W.setCell ⟨w.heap.size, 0, none⟩ (.int .i64 0)).setCell ⟨w.heap.size, 1, none⟩ (.int .i64 V)).setCell ⟨w.heap.size, 2, none⟩ (.slice none 0 0)) := below_set3 (Below.refl _ _) (Nat.le_refl _)
    exact ⟨(hs.cell (p := ⟨bT, 0, none⟩) lT).trans hw.1, (hs.cell (p := ⟨bA, 1, none⟩) lA).trans hw.2.1, (hs.cell (p := ⟨bW, 0, none⟩) lW).trans hw.2.2.1, (hs.cell (p := ⟨bB, 1, none⟩) lB).trans hw.2.2.2.1, (hs.cell (p := ⟨pb, po + q * 3, none⟩) lp).trans hw.2.2.2.2.1, (hs.cell (p := ⟨pb, po + q * 3 + 1, none⟩) lp).trans hw.2.2.2.2.2.1, (hs.cell (p := ⟨pb, po + q * 3 + 2, none⟩) lp).trans hw.2.2.2.2.2.2.1, (hs.cell (p := ⟨rb, ro + r * 3, none⟩) lr).trans hw.2.2.2.2.2.2.2.1, (hs.cell (p := ⟨rb, ro + r * 3 + 1, none⟩) lr).trans hw.2.2.2.2.2.2.2.2.1, (hs.cell (p := ⟨rb, ro + r * 3 + 2, none⟩) lr).trans hw.2.2.2.2.2.2.2.2.2⟩
  have HD0 : Hid (Below W1.heap.size W1 W1.drew) := (Below.refl _ _).drew
  have hqz : (q : Int) < (XC : Int) := by omega
  have hrz : (r : Int) < (YC : Int) := by omega
  have hq0 : (0 : Int) ≤ (q : Int) := by omega
  have hr0 : (0 : Int) ≤ (r : Int) := by omega
  have hyz : ((YC : Int) == 0) = false := beq_eq_false_iff_ne.2 (by omega)
  have hyn : ¬ ((YC : Int) = 0) := by omega
  have hynN : ¬ YC = 0 := by omega
  clear hX hY hcx hcy hpc hrc x0 x1 x2 y0 y1 y2 hXC hYC hxin hyin T T0 A1 W0 B1 B1' ZR hq hr hi
  go_enter Tryd.func46, Tryd.ntmps46
  go_upto_region 1 with fail
  go_region_held3 (fun W => W.cell? ⟨bT, 0, none⟩ = some (.func (.func 74) #[.agg #[.int .i64 op, .bool false]] #[]) ∧ W.cell? ⟨bA, 1, none⟩ = some (.slice (some ⟨pb, po, none⟩) XC xc) ∧ W.cell? ⟨bW, 0, none⟩ = some (.int .i64 (YC : Int)) ∧ W.cell? ⟨bB, 1, none⟩ = some (.slice (some ⟨rb, ro, none⟩) YC yc) ∧ W.cell? ⟨pb, po + q * 3, none⟩ = some (.int .i64 k1) ∧ W.cell? ⟨pb, po + q * 3 + 1, none⟩ = some (.int .i64 n1) ∧ W.cell? ⟨pb, po + q * 3 + 2, none⟩ = some (.slice a1 m1 d1) ∧ W.cell? ⟨rb, ro + r * 3, none⟩ = some (.int .i64 k2) ∧ W.cell? ⟨rb, ro + r * 3 + 1, none⟩ = some (.int .i64 n2) ∧ W.cell? ⟨rb, ro + r * 3 + 2, none⟩ = some (.slice a2 m2 d2))
    (first | with_reducible exact KS.out _ HD0.out | with_reducible exact KS.out _ (by with_reducible assumption) | with_reducible exact KT.out _ (by with_reducible assumption))
    (first | (go_at_call 74; (with_reducible refine (C1.out _ HD0.out).mono ?_); rintro e w6 ⟨rfl, g6⟩; obtain ⟨-, n0', n1', n2', n3, n4, n5⟩ := HZ.out.1.next g6))
  all_goals
    have ZF := (HZ.out.1.next g6).set (.int .i64 0) (.int .i64 V) (.slice none 0 0)
    have hbf := below_set3 (v0 := .int .i64 0) (v1 := .int .i64 V) (v2 := .slice none 0 0) (HZ.out.2.trans (g6.mono HZ.out.2.size)) (Nat.le_refl _)
    have HF := hide (And.intro ZF hbf)
    clear ZF hbf g6 KS KT C1 HD0 n0' n1' n2' n3 n4 n5 HZ
    go_wp2
    obtain ⟨ZF, hbf⟩ := HF.out
    exact bodyPost_ret (v := .tuple #[.agg #[.int .i64 0, .int .i64 V, .slice none 0 0], .int .i64 E]) (by simp [results, Tryd.results46, go_sem, ZF.c0, ZF.c1, ZF.c2]) rfl ⟨⟨_, _, _, rfl, ce_num _ _ _ _⟩, hbf⟩
set_option maxHeartbeats 8000000 in
theorem out4673 {n lo XC YC xc yc i bT bA bW bB : Nat} {xs ys : List Ce} {aX aY : Option Addr} {op : Int} {w0 w : World} (hX : CellsIn n lo w xs aX) (hY : CellsIn n lo w ys aY) (hXC : xs.length = XC) (hYC : ys.length = YC) (hX16 : XC ≤ 16384) (hY16 : YC ≤ 16384) (hi : i < XC * YC) (hi16 : i ≤ 16384)
    (hxin : ∀ k, k < XC → In64 (cAt xs k).2.1) (hyin : ∀ k, k < YC → In64 (cAt ys k).2.1) (T : Tab w)
    (lT : bT < w.heap.size) (T0 : w.cell? ⟨bT, 0, none⟩ = some (.func (.func 73) #[.agg #[.int .i64 op, .bool true]] #[])) (lA : bA < w.heap.size) (A1 : w.cell? ⟨bA, 1, none⟩ = some (.slice aX XC xc)) (lW : bW < w.heap.size) (W0 : w.cell? ⟨bW, 0, none⟩ = some (.int .i64 (YC : Int))) (lB : bB < w.heap.size) (B1 : w.cell? ⟨bB, 1, none⟩ = some (.slice aY YC yc)) :
    Calls Tryd.prog 46 #[.int .i64 (i : Int), .pointer (some ⟨bT, 0, none⟩), .pointer (some ⟨bA, 0, none⟩), .pointer (some ⟨bW, 0, none⟩), .pointer (some ⟨bB, 0, none⟩)] w fun e w' => GivesF n lo w0 ((0, tV op true (cAt xs (i / YC)) (cAt ys (i % YC)), []), tE op true (cAt xs (i / YC)) (cAt ys (i % YC))) w e w' := by
  have hY0 : 0 < YC := by
    rcases Nat.eq_zero_or_pos YC with h | h
    · rw [h] at hi; omega
    · exact h
  obtain ⟨q, hq⟩ : ∃ q, i / YC = q := ⟨_, rfl⟩
  obtain ⟨r, hr⟩ : ∃ r, i % YC = r := ⟨_, rfl⟩
  have hqX : q < XC := by rw [← hq]; exact (Nat.div_lt_iff_lt_mul hY0).2 hi
  have hrY : r < YC := by rw [← hr]; exact Nat.mod_lt _ hY0
  have tq : (i : Int).tdiv (YC : Int) = (q : Int) := by rw [Int.tdiv_eq_ediv_of_nonneg (by omega), ← hq, Int.natCast_ediv]
  have tr' : (i : Int).tmod (YC : Int) = (r : Int) := by rw [Int.tmod_eq_emod_of_nonneg (by omega), ← hr]; rfl
  have wq : IntKind.i64.wrap (q : Int) = (q : Int) := IntWalk.i64_in _ ⟨by omega, by omega⟩
  have wr' : IntKind.i64.wrap (r : Int) = (r : Int) := IntWalk.i64_in _ ⟨by omega, by omega⟩
  rw [hq, hr]
  obtain ⟨abx, cbx, hcx⟩ := cells_fn hX
  obtain ⟨aby, cby, hcy⟩ := cells_fn hY
  obtain ⟨pb, po, rfl, -, lp, hpc⟩ := hcx (by omega)
  obtain ⟨rb, ro, rfl, -, lr, hrc⟩ := hcy (by omega)
  obtain ⟨x0, x1, x2, -⟩ := hpc q (by omega)
  obtain ⟨y0, y1, y2, -⟩ := hrc r (by omega)
  obtain ⟨W1, hW1⟩ : ∃ W1, w.alloc (.cells #[.int .i64 0, .int .i64 0, .slice none 0 0] 43) = W1 := ⟨_, rfl⟩
  have B1' : Below w.heap.size w W1 := by rw [← hW1]; exact one_alloc _ _
  have ZR : Zc W1 w.heap.size (.int .i64 0) (.int .i64 0) (.slice none 0 0) := by rw [← hW1]; exact Zc.new w _ _ _
  have hs1 := ZR.lt
  have hV : tV op true (cAt xs q) (cAt ys r) = c2V op (cAt ys r) (cAt xs q) := rfl
  have hE : tE op true (cAt xs q) (cAt ys r) = c2E op (cAt ys r) (cAt xs q) := rfl
  have C1 : Hid (∀ W, Below W1.heap.size W1 W → Calls Tryd.prog 73 #[.agg #[.int .i64 op, .bool true], .agg #[.int .i64 (cAt xs q).1, .int .i64 (cAt xs q).2.1, .slice (abx q) (cAt xs q).2.2.length (cbx q)], .agg #[.int .i64 (cAt ys r).1, .int .i64 (cAt ys r).2.1, .slice (aby r) (cAt ys r).2.2.length (cby r)]] W fun e w' => e = .returned (.tuple #[.agg #[.int .i64 0, .int .i64 (tV op true (cAt xs q) (cAt ys r)), .slice none 0 0], .int .i64 (tE op true (cAt xs q) (cAt ys r))]) ∧ Below W1.heap.size W1 w') := fun W hW => by
    have hBW := B1'.trans (hW.mono B1'.size)
    refine (two73 op true _ _ _ _ _ _ _ _ _ _ (cAt xs q) (cAt ys r) ⟨rfl, rfl⟩ ⟨rfl, rfl⟩ (hxin q hqX) (hyin r hrY) W (T.next hBW)).mono ?_
    rintro e w' ⟨rfl, h2⟩
    exact ⟨by rw [hV, hE], hW.trans (h2.mono hW.size)⟩
  have HZ := hide (And.intro ZR B1')
  clear hV hE
  generalize tV op true (cAt xs q) (cAt ys r) = V at *
  generalize tE op true (cAt xs q) (cAt ys r) = E at *
  generalize (cAt xs q).1 = k1 at *
  generalize (cAt xs q).2.1 = n1 at *
  generalize (cAt xs q).2.2.length = m1 at *
  generalize (cAt ys r).1 = k2 at *
  generalize (cAt ys r).2.1 = n2 at *
  generalize (cAt ys r).2.2.length = m2 at *
  generalize abx q = a1 at *
  generalize aby r = a2 at *
  generalize cbx q = d1 at *
  generalize cby r = d2 at *
  have KS : Hid (∀ W, Below W1.heap.size W1 W → (W.cell? ⟨bT, 0, none⟩ = some (.func (.func 73) #[.agg #[.int .i64 op, .bool true]] #[]) ∧ W.cell? ⟨bA, 1, none⟩ = some (.slice (some ⟨pb, po, none⟩) XC xc) ∧ W.cell? ⟨bW, 0, none⟩ = some (.int .i64 (YC : Int)) ∧ W.cell? ⟨bB, 1, none⟩ = some (.slice (some ⟨rb, ro, none⟩) YC yc) ∧ W.cell? ⟨pb, po + q * 3, none⟩ = some (.int .i64 k1) ∧ W.cell? ⟨pb, po + q * 3 + 1, none⟩ = some (.int .i64 n1) ∧ W.cell? ⟨pb, po + q * 3 + 2, none⟩ = some (.slice a1 m1 d1) ∧ W.cell? ⟨rb, ro + r * 3, none⟩ = some (.int .i64 k2) ∧ W.cell? ⟨rb, ro + r * 3 + 1, none⟩ = some (.int .i64 n2) ∧ W.cell? ⟨rb, ro + r * 3 + 2, none⟩ = some (.slice a2 m2 d2))) := fun W h => by
    have hBW := B1'.trans (h.mono B1'.size)
    exact ⟨(hBW.cell (p := ⟨bT, 0, none⟩) lT).trans T0, (hBW.cell (p := ⟨bA, 1, none⟩) lA).trans A1, (hBW.cell (p := ⟨bW, 0, none⟩) lW).trans W0, (hBW.cell (p := ⟨bB, 1, none⟩) lB).trans B1, (hBW.cell (p := ⟨pb, po + q * 3, none⟩) lp).trans x0, (hBW.cell (p := ⟨pb, po + q * 3 + 1, none⟩) lp).trans x1, (hBW.cell (p := ⟨pb, po + q * 3 + 2, none⟩) lp).trans x2, (hBW.cell (p := ⟨rb, ro + r * 3, none⟩) lr).trans y0, (hBW.cell (p := ⟨rb, ro + r * 3 + 1, none⟩) lr).trans y1, (hBW.cell (p := ⟨rb, ro + r * 3 + 2, none⟩) lr).trans y2⟩
  have KT : Hid (∀ W, Below W1.heap.size W1 W → ((((W.setCell ⟨w.heap.size, 0, none⟩ (.int .i64 0)).setCell ⟨w.heap.size, 1, none⟩ (.int .i64 V)).setCell ⟨w.heap.size, 2, none⟩ (.slice none 0 0)).cell? ⟨bT, 0, none⟩ = some (.func (.func 73) #[.agg #[.int .i64 op, .bool true]] #[]) ∧ (((W.setCell ⟨w.heap.size, 0, none⟩ (.int .i64 0)).setCell ⟨w.heap.size, 1, none⟩ (.int .i64 V)).setCell ⟨w.heap.size, 2, none⟩ (.slice none 0 0)).cell? ⟨bA, 1, none⟩ = some (.slice (some ⟨pb, po, none⟩) XC xc) ∧ (((W.setCell ⟨w.heap.size, 0, none⟩ (.int .i64 0)).setCell ⟨w.heap.size, 1, none⟩ (.int .i64 V)).setCell ⟨w.heap.size, 2, none⟩ (.slice none 0 0)).cell? ⟨bW, 0, none⟩ = some (.int .i64 (YC : Int)) ∧ (((W.setCell ⟨w.heap.size, 0, none⟩ (.int .i64 0)).setCell ⟨w.heap.size, 1, none⟩ (.int .i64 V)).setCell ⟨w.heap.size, 2, none⟩ (.slice none 0 0)).cell? ⟨bB, 1, none⟩ = some (.slice (some ⟨rb, ro, none⟩) YC yc) ∧ (((W.setCell ⟨w.heap.size, 0, none⟩ (.int .i64 0)).setCell ⟨w.heap.size, 1, none⟩ (.int .i64 V)).setCell ⟨w.heap.size, 2, none⟩ (.slice none 0 0)).cell? ⟨pb, po + q * 3, none⟩ = some (.int .i64 k1) ∧ (((W.setCell ⟨w.heap.size, 0, none⟩ (.int .i64 0)).setCell ⟨w.heap.size, 1, none⟩ (.int .i64 V)).setCell ⟨w.heap.size, 2, none⟩ (.slice none 0 0)).cell? ⟨pb, po + q * 3 + 1, none⟩ = some (.int .i64 n1) ∧ (((W.setCell ⟨w.heap.size, 0, none⟩ (.int .i64 0)).setCell ⟨w.heap.size, 1, none⟩ (.int .i64 V)).setCell ⟨w.heap.size, 2, none⟩ (.slice none 0 0)).cell? ⟨pb, po + q * 3 + 2, none⟩ = some (.slice a1 m1 d1) ∧ (((W.setCell ⟨w.heap.size, 0, none⟩ (.int .i64 0)).setCell ⟨w.heap.size, 1, none⟩ (.int .i64 V)).setCell ⟨w.heap.size, 2, none⟩ (.slice none 0 0)).cell? ⟨rb, ro + r * 3, none⟩ = some (.int .i64 k2) ∧ (((W.setCell ⟨w.heap.size, 0, none⟩ (.int .i64 0)).setCell ⟨w.heap.size, 1, none⟩ (.int .i64 V)).setCell ⟨w.heap.size, 2, none⟩ (.slice none 0 0)).cell? ⟨rb, ro + r * 3 + 1, none⟩ = some (.int .i64 n2) ∧ (((W.setCell ⟨w.heap.size, 0, none⟩ (.int .i64 0)).setCell ⟨w.heap.size, 1, none⟩ (.int .i64 V)).setCell ⟨w.heap.size, 2, none⟩ (.slice none 0 0)).cell? ⟨rb, ro + r * 3 + 2, none⟩ = some (.slice a2 m2 d2))) := fun W h => by
    have hw := KS.out W h
    have hs : Below w.heap.size W (((W.setCell ⟨w.heap.size, 0, none⟩ (.int .i64 0)).setCell ⟨w.heap.size, 1, none⟩ (.int .i64 V)).setCell ⟨w.heap.size, 2, none⟩ (.slice none 0 0)) := below_set3 (Below.refl _ _) (Nat.le_refl _)
    exact ⟨(hs.cell (p := ⟨bT, 0, none⟩) lT).trans hw.1, (hs.cell (p := ⟨bA, 1, none⟩) lA).trans hw.2.1, (hs.cell (p := ⟨bW, 0, none⟩) lW).trans hw.2.2.1, (hs.cell (p := ⟨bB, 1, none⟩) lB).trans hw.2.2.2.1, (hs.cell (p := ⟨pb, po + q * 3, none⟩) lp).trans hw.2.2.2.2.1, (hs.cell (p := ⟨pb, po + q * 3 + 1, none⟩) lp).trans hw.2.2.2.2.2.1, (hs.cell (p := ⟨pb, po + q * 3 + 2, none⟩) lp).trans hw.2.2.2.2.2.2.1, (hs.cell (p := ⟨rb, ro + r * 3, none⟩) lr).trans hw.2.2.2.2.2.2.2.1, (hs.cell (p := ⟨rb, ro + r * 3 + 1, none⟩) lr).trans hw.2.2.2.2.2.2.2.2.1, (hs.cell (p := ⟨rb, ro + r * 3 + 2, none⟩) lr).trans hw.2.2.2.2.2.2.2.2.2⟩
  have HD0 : Hid (Below W1.heap.size W1 W1.drew) := (Below.refl _ _).drew
  have hqz : (q : Int) < (XC : Int) := by omega
  have hrz : (r : Int) < (YC : Int) := by omega
  have hq0 : (0 : Int) ≤ (q : Int) := by omega
  have hr0 : (0 : Int) ≤ (r : Int) := by omega
  have hyz : ((YC : Int) == 0) = false := beq_eq_false_iff_ne.2 (by omega)
  have hyn : ¬ ((YC : Int) = 0) := by omega
  have hynN : ¬ YC = 0 := by omega
  clear hX hY hcx hcy hpc hrc x0 x1 x2 y0 y1 y2 hXC hYC hxin hyin T T0 A1 W0 B1 B1' ZR hq hr hi
  go_enter Tryd.func46, Tryd.ntmps46
  go_upto_region 1 with fail
  go_region_held3 (fun W => W.cell? ⟨bT, 0, none⟩ = some (.func (.func 73) #[.agg #[.int .i64 op, .bool true]] #[]) ∧ W.cell? ⟨bA, 1, none⟩ = some (.slice (some ⟨pb, po, none⟩) XC xc) ∧ W.cell? ⟨bW, 0, none⟩ = some (.int .i64 (YC : Int)) ∧ W.cell? ⟨bB, 1, none⟩ = some (.slice (some ⟨rb, ro, none⟩) YC yc) ∧ W.cell? ⟨pb, po + q * 3, none⟩ = some (.int .i64 k1) ∧ W.cell? ⟨pb, po + q * 3 + 1, none⟩ = some (.int .i64 n1) ∧ W.cell? ⟨pb, po + q * 3 + 2, none⟩ = some (.slice a1 m1 d1) ∧ W.cell? ⟨rb, ro + r * 3, none⟩ = some (.int .i64 k2) ∧ W.cell? ⟨rb, ro + r * 3 + 1, none⟩ = some (.int .i64 n2) ∧ W.cell? ⟨rb, ro + r * 3 + 2, none⟩ = some (.slice a2 m2 d2))
    (first | with_reducible exact KS.out _ HD0.out | with_reducible exact KS.out _ (by with_reducible assumption) | with_reducible exact KT.out _ (by with_reducible assumption))
    (first | (go_at_call 73; (with_reducible refine (C1.out _ HD0.out).mono ?_); rintro e w6 ⟨rfl, g6⟩; obtain ⟨-, n0', n1', n2', n3, n4, n5⟩ := HZ.out.1.next g6))
  all_goals
    have ZF := (HZ.out.1.next g6).set (.int .i64 0) (.int .i64 V) (.slice none 0 0)
    have hbf := below_set3 (v0 := .int .i64 0) (v1 := .int .i64 V) (v2 := .slice none 0 0) (HZ.out.2.trans (g6.mono HZ.out.2.size)) (Nat.le_refl _)
    have HF := hide (And.intro ZF hbf)
    clear ZF hbf g6 KS KT C1 HD0 n0' n1' n2' n3 n4 n5 HZ
    go_wp2
    obtain ⟨ZF, hbf⟩ := HF.out
    exact bodyPost_ret (v := .tuple #[.agg #[.int .i64 0, .int .i64 V, .slice none 0 0], .int .i64 E]) (by simp [results, Tryd.results46, go_sem, ZF.c0, ZF.c1, ZF.c2]) rfl ⟨⟨_, _, _, rfl, ce_num _ _ _ _⟩, hbf⟩
end Go.Proofs.YtlfacpclihmnnaaDoor
