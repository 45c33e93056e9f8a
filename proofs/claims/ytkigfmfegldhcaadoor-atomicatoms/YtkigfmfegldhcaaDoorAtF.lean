/-
  The contract of layer 4's closure of Dy; for all arrays of 64 bits, the table of layer 4 in its place.
-/
import Derived.Test.YtkigfmfegldhcaaDoorAtE
namespace Go.Proofs.YtkigfmfegldhcaaDoor
open Go.ChangeShapes Go.WideShapes Go.ChangeAt Go.RowKit
open Num (resV resE In64 sgnI absI)
set_option linter.unusedVariables false
/-- What a closure finds of a boxed array: its two fields, and the three cells of the cell beside a place. -/
structure Side (x : Ar) (i : Nat) (A : Nat) (a1 : Option Addr) (n1 k1 n2 k2 b off : Nat) (k z : Int) (ab : Option Addr) (nb cb : Nat) (w : World) : Prop where
  f0 : w.cell? ⟨A, 0, none⟩ = some (.slice a1 n1 k1)
  f1 : w.cell? ⟨A, 1, none⟩ = some (.slice (some ⟨b, off, none⟩) n2 k2)
  hA : A < w.heap.size
  hb : b < w.heap.size
  e1 : x.shape.length = n1
  hn : n2 ≤ 5864062014805
  hlt : (if x.shape = [] then 0 else i) < n2
  p0 : w.cell? ⟨b, off + (if x.shape = [] then 0 else i) * 3, none⟩ = some (.int .i64 k)
  p1 : w.cell? ⟨b, off + (if x.shape = [] then 0 else i) * 3 + 1, none⟩ = some (.int .i64 z)
  p2 : w.cell? ⟨b, off + (if x.shape = [] then 0 else i) * 3 + 2, none⟩ = some (.slice ab nb cb)
  hc : (sideC x i).1 = k ∧ (sideC x i).2.1 = z
  hz : In64 z
theorem Side.next {x : Ar} {i A : Nat} {a1 : Option Addr} {n1 k1 n2 k2 b off : Nat} {k z : Int} {ab : Option Addr} {nb cb : Nat} {w w' : World} (h : Side x i A a1 n1 k1 n2 k2 b off k z ab nb cb w) (hb : Below w.heap.size w w') : Side x i A a1 n1 k1 n2 k2 b off k z ab nb cb w' :=
  ⟨(hb.cell (p := ⟨A, 0, none⟩) h.hA).trans h.f0, (hb.cell (p := ⟨A, 1, none⟩) h.hA).trans h.f1, Nat.lt_of_lt_of_le h.hA hb.size, Nat.lt_of_lt_of_le h.hb hb.size, h.e1, h.hn, h.hlt, (hb.cell (p := ⟨b, _, none⟩) h.hb).trans h.p0, (hb.cell (p := ⟨b, _, none⟩) h.hb).trans h.p1, (hb.cell (p := ⟨b, _, none⟩) h.hb).trans h.p2, h.hc, h.hz⟩
set_option maxHeartbeats 4000000 in
theorem dyOf_any (op : Int) (x y : Ar) (i O A B : Nat) (a1 : Option Addr) (n1 k1 n2 k2 b off : Nat) (k z : Int) (ab : Option Addr) (nb cb : Nat) (d1 : Option Addr) (m1 l1 m2 l2 g goff : Nat) (q v : Int) (gb : Option Addr) (ng cg : Nat) (w : World) (T : Tab w)
    (hO : O < w.heap.size) (ho : w.cell? ⟨O, 0, none⟩ = some (.int .i64 op)) (SX : Side x i A a1 n1 k1 n2 k2 b off k z ab nb cb w) (SY : Side y i B d1 m1 l1 m2 l2 g goff q v gb ng cg w) :
    Calls Tryd.prog 44 #[.int .i64 (i : Int), .pointer (some ⟨O, 0, none⟩), .pointer (some ⟨A, 0, none⟩), .pointer (some ⟨B, 0, none⟩)] w fun r w' => r = .returned (.tuple #[.agg #[.int .i64 0, .int .i64 (c2V op (sideC x i) (sideC y i)), .slice none 0 0], .int .i64 (c2E op (sideC x i) (sideC y i))]) ∧ Below w.heap.size w w' := by
  obtain ⟨w0, ew⟩ : ∃ w0, w0 = w.alloc (.cells #[.int .i64 0, .int .i64 0, .slice none 0 0] 35) := ⟨_, rfl⟩
  have B0 : Below w.heap.size w w0 := by rw [ew]; exact one_alloc _ _
  have s0 : w0.heap.size = w.heap.size + 1 := by rw [ew]; simp
  have KS : Hid (∀ W, Below w0.heap.size w0 W → (W.cell? ⟨O, 0, none⟩ = some (.int .i64 op) ∧ (W.cell? ⟨A, 0, none⟩ = some (.slice a1 n1 k1) ∧ W.cell? ⟨A, 1, none⟩ = some (.slice (some ⟨b, off, none⟩) n2 k2)) ∧ W.cell? ⟨B, 0, none⟩ = some (.slice d1 m1 l1) ∧ W.cell? ⟨B, 1, none⟩ = some (.slice (some ⟨g, goff, none⟩) m2 l2))) := by
    intro W h
    have hw : Below w.heap.size w W := B0.trans (h.mono B0.size)
    exact ⟨(hw.cell (p := ⟨O, 0, none⟩) hO).trans ho, ⟨(SX.next hw).f0, (SX.next hw).f1⟩, (SY.next hw).f0, (SY.next hw).f1⟩
  have KF : Hid (∀ W, Below w0.heap.size w0 W → W.cell? ⟨w.heap.size, 0, none⟩ = some (.int .i64 0) ∧ W.cell? ⟨w.heap.size, 1, none⟩ = some (.int .i64 0) ∧ W.cell? ⟨w.heap.size, 2, none⟩ = some (.slice none 0 0) ∧ W.frozen? ⟨w.heap.size, 0, none⟩ = false ∧ W.frozen? ⟨w.heap.size, 1, none⟩ = false ∧ W.frozen? ⟨w.heap.size, 2, none⟩ = false) := by
    intro W h
    have c : ∀ j u, #[Value.int .i64 0, .int .i64 0, .slice none 0 0][j]? = some u → W.cell? ⟨w.heap.size, j, none⟩ = some u := fun j u hu => (h.cell (p := ⟨w.heap.size, j, none⟩) (by show w.heap.size < _; omega)).trans (by rw [ew]; exact cell_new0 w _ 35 j u hu)
    have f : ∀ j, W.frozen? ⟨w.heap.size, j, none⟩ = false := fun j => (h.frozen (p := ⟨w.heap.size, j, none⟩) (by show w.heap.size < _; omega)).trans (by rw [ew]; exact frozen_new _ _ _ _)
    exact ⟨c 0 _ rfl, c 1 _ rfl, c 2 _ rfl, f 0, f 1, f 2⟩
  have C1 : Hid (∀ W, Below w0.heap.size w0 W → Calls Tryd.prog 45 #[.agg #[.slice a1 n1 k1, .slice (some ⟨b, off, none⟩) n2 k2], .int .i64 (i : Int)] W fun r w' => r = .returned (.agg #[.int .i64 k, .int .i64 z, .slice ab nb cb]) ∧ Below w0.heap.size w0 w') := by
    intro W h
    have S := SX.next (B0.trans (h.mono B0.size))
    exact (beside_any x i k z ab nb cb b off a1 n1 k1 n2 k2 _ W S.e1 rfl S.hn S.hlt S.hb S.p0 S.p1 S.p2).mono fun e w' ⟨he, hb⟩ => ⟨he, h.trans (hb.mono h.size)⟩
  have C2 : Hid (∀ W, Below w0.heap.size w0 W → Calls Tryd.prog 45 #[.agg #[.slice d1 m1 l1, .slice (some ⟨g, goff, none⟩) m2 l2], .int .i64 (i : Int)] W fun r w' => r = .returned (.agg #[.int .i64 q, .int .i64 v, .slice gb ng cg]) ∧ Below w0.heap.size w0 w') := by
    intro W h
    have S := SY.next (B0.trans (h.mono B0.size))
    exact (beside_any y i q v gb ng cg g goff d1 m1 l1 m2 l2 _ W S.e1 rfl S.hn S.hlt S.hb S.p0 S.p1 S.p2).mono fun e w' ⟨he, hb⟩ => ⟨he, h.trans (hb.mono h.size)⟩
  have C3 : Hid (∀ W, Below w0.heap.size w0 W → Calls Tryd.prog 14 #[.int .i64 op, .agg #[.int .i64 k, .int .i64 z, .slice ab nb cb], .agg #[.int .i64 q, .int .i64 v, .slice gb ng cg]] W fun r w' => r = .returned (.tuple #[.agg #[.int .i64 0, .int .i64 (c2V op (sideC x i) (sideC y i)), .slice none 0 0], .int .i64 (c2E op (sideC x i) (sideC y i))]) ∧ Below w0.heap.size w0 w') := by
    intro W h
    exact (cell2_any op k z q v ab gb nb cb ng cg (sideC x i) (sideC y i) SX.hc SY.hc SX.hz SY.hz W (T.next (B0.trans (h.mono B0.size)))).mono fun e w' ⟨he, hb⟩ => ⟨he, h.trans (hb.mono h.size)⟩
  generalize c2V op (sideC x i) (sideC y i) = V at *
  generalize c2E op (sideC x i) (sideC y i) = U at *
  have KT : Hid (∀ (W : World) (v0 v1 v2 : Value), (W.cell? ⟨O, 0, none⟩ = some (.int .i64 op) ∧ (W.cell? ⟨A, 0, none⟩ = some (.slice a1 n1 k1) ∧ W.cell? ⟨A, 1, none⟩ = some (.slice (some ⟨b, off, none⟩) n2 k2)) ∧ W.cell? ⟨B, 0, none⟩ = some (.slice d1 m1 l1) ∧ W.cell? ⟨B, 1, none⟩ = some (.slice (some ⟨g, goff, none⟩) m2 l2)) → ((((W.setCell ⟨w.heap.size, 0, none⟩ v0).setCell ⟨w.heap.size, 1, none⟩ v1).setCell ⟨w.heap.size, 2, none⟩ v2).cell? ⟨O, 0, none⟩ = some (.int .i64 op) ∧ ((((W.setCell ⟨w.heap.size, 0, none⟩ v0).setCell ⟨w.heap.size, 1, none⟩ v1).setCell ⟨w.heap.size, 2, none⟩ v2).cell? ⟨A, 0, none⟩ = some (.slice a1 n1 k1) ∧ (((W.setCell ⟨w.heap.size, 0, none⟩ v0).setCell ⟨w.heap.size, 1, none⟩ v1).setCell ⟨w.heap.size, 2, none⟩ v2).cell? ⟨A, 1, none⟩ = some (.slice (some ⟨b, off, none⟩) n2 k2)) ∧ (((W.setCell ⟨w.heap.size, 0, none⟩ v0).setCell ⟨w.heap.size, 1, none⟩ v1).setCell ⟨w.heap.size, 2, none⟩ v2).cell? ⟨B, 0, none⟩ = some (.slice d1 m1 l1) ∧ (((W.setCell ⟨w.heap.size, 0, none⟩ v0).setCell ⟨w.heap.size, 1, none⟩ v1).setCell ⟨w.heap.size, 2, none⟩ v2).cell? ⟨B, 1, none⟩ = some (.slice (some ⟨g, goff, none⟩) m2 l2))) := by
    rintro W v0 v1 v2 ⟨g0, ⟨g1, g2⟩, g3, g4⟩
    have ap : ∀ (bk i : Nat) (u : Value), bk ≠ w.heap.size → W.cell? ⟨bk, i, none⟩ = some u → (((W.setCell ⟨w.heap.size, 0, none⟩ v0).setCell ⟨w.heap.size, 1, none⟩ v1).setCell ⟨w.heap.size, 2, none⟩ v2).cell? ⟨bk, i, none⟩ = some u := fun bk i u hne hv => cell_apart (p := ⟨bk, i, none⟩) (q := ⟨w.heap.size, 2, none⟩) hne _ (cell_apart (p := ⟨bk, i, none⟩) (q := ⟨w.heap.size, 1, none⟩) hne _ (cell_apart (p := ⟨bk, i, none⟩) (q := ⟨w.heap.size, 0, none⟩) hne _ hv))
    have h1 := SX.hA
    have h2 := SY.hA
    exact ⟨ap _ _ _ (by omega) g0, ⟨ap _ _ _ (by omega) g1, ap _ _ _ (by omega) g2⟩, ap _ _ _ (by omega) g3, ap _ _ _ (by omega) g4⟩
  have HR : Hid (Below w0.heap.size w0 w0.drew) := (Below.refl _ _).drew
  have HB : Hid (∀ W, Below w0.heap.size w0 W → Below w.heap.size w W) := fun W h => B0.trans (h.mono B0.size)
  clear SX SY T B0 s0
  go_enter Tryd.func44, Tryd.ntmps44
  go_wp2
  rw [← ew]
  clear ew
  go_region_held3 (fun W => W.cell? ⟨O, 0, none⟩ = some (.int .i64 op) ∧ (W.cell? ⟨A, 0, none⟩ = some (.slice a1 n1 k1) ∧ W.cell? ⟨A, 1, none⟩ = some (.slice (some ⟨b, off, none⟩) n2 k2)) ∧ W.cell? ⟨B, 0, none⟩ = some (.slice d1 m1 l1) ∧ W.cell? ⟨B, 1, none⟩ = some (.slice (some ⟨g, goff, none⟩) m2 l2))
    (first | exact KS.out _ HR.out | exact KS.out _ (by assumption) | exact KT.out _ _ _ _ (by assumption))
    (first
      | (go_at_call_of 45 a1; refine (C1.out _ (by first | exact HR.out | assumption)).mono ?_; rintro e w1 ⟨rfl, hb1⟩)
      | (go_at_call_of 45 d1; refine (C2.out _ (by first | exact HR.out | assumption)).mono ?_; rintro e w2 ⟨rfl, hb2⟩)
      | (go_at_call 14; refine (C3.out _ (by assumption)).mono ?_; rintro e w3 ⟨rfl, hb3⟩; obtain ⟨y0, y1, y2, y3, y4, y5⟩ := KF.out _ hb3))
  go_wp2
  exact bodyPost_ret (v := .tuple #[.agg #[.int .i64 0, .int .i64 V, .slice none 0 0], .int .i64 U]) (by simp [results, Tryd.results44, go_sem, y0, y1, y2]) rfl ⟨rfl, below_set3 (HB.out _ hb3) (Nat.le_refl _)⟩
end Go.Proofs.YtkigfmfegldhcaaDoor
