/-
  The contract of layer 5's Reshape: any array laid in any shape.
-/
import Derived.Test.YtmjncdhahdpplaaLyP
namespace Go.Proofs.Ytmjncdhahdpplaa
open Go.ChangeShapes Go.WideShapes Go.ChangeAt Go.RowKit
set_option linter.unusedVariables false
set_option maxRecDepth 100000
def reshE (s a : Ar) : Int := if chkA 8 s ≠ 0 then chkA 8 s else if chkA 8 a ≠ 0 then chkA 8 a else if shpE s ≠ 0 then shpE s else if sizeE (shN s) ≠ 0 then sizeE (shN s) else if 0 < sizeV (shN s) ∧ a.cells.length = 0 then 7 else 0
def reshA (s a : Ar) : Ar := .mk (shN s) (mkCs (sizeV (shN s)).toNat fun i => cAt a.cells (i % a.cells.length))
def reshR (s a : Ar) : Ar × Int := if reshE s a = 0 then (reshA s a, 0) else (zeroA, reshE s a)
/-- Two boxed arguments (blocks s and s + 1) and the answer's place (block s + 2). -/
structure In3 (w : World) (v0 v1 u0 u1 : Value) (W : World) : Prop where
  bel : Below w.heap.size w W
  size : w.heap.size + 3 ≤ W.heap.size
  q0 : W.cell? ⟨w.heap.size, 0, none⟩ = some v0
  q1 : W.cell? ⟨w.heap.size, 1, none⟩ = some v1
  r0 : W.cell? ⟨w.heap.size + 1, 0, none⟩ = some u0
  r1 : W.cell? ⟨w.heap.size + 1, 1, none⟩ = some u1
  p0 : W.cell? ⟨w.heap.size + 2, 0, none⟩ = some (.slice none 0 0)
  p1 : W.cell? ⟨w.heap.size + 2, 1, none⟩ = some (.slice none 0 0)
  f0 : W.frozen? ⟨w.heap.size + 2, 0, none⟩ = false
  f1 : W.frozen? ⟨w.heap.size + 2, 1, none⟩ = false
theorem In3.belowS {w W W' : World} {v0 v1 u0 u1 : Value} {B : Nat} (h : In3 w v0 v1 u0 u1 W) (hb : Below B W W') (hB : w.heap.size + 3 ≤ B) : In3 w v0 v1 u0 u1 W' := by
  have s := h.size
  have hk := hb.mono hB
  refine ⟨h.bel.trans (hb.mono (by omega)), Nat.le_trans s hk.size, ?_, ?_, ?_, ?_, ?_, ?_, ?_, ?_⟩
  · exact (hk.cell (p := ⟨w.heap.size, 0, none⟩) (by show w.heap.size < _; omega)).trans h.q0
  · exact (hk.cell (p := ⟨w.heap.size, 1, none⟩) (by show w.heap.size < _; omega)).trans h.q1
  · exact (hk.cell (p := ⟨w.heap.size + 1, 0, none⟩) (by show w.heap.size + 1 < _; omega)).trans h.r0
  · exact (hk.cell (p := ⟨w.heap.size + 1, 1, none⟩) (by show w.heap.size + 1 < _; omega)).trans h.r1
  · exact (hk.cell (p := ⟨w.heap.size + 2, 0, none⟩) (by show w.heap.size + 2 < _; omega)).trans h.p0
  · exact (hk.cell (p := ⟨w.heap.size + 2, 1, none⟩) (by show w.heap.size + 2 < _; omega)).trans h.p1
  · exact (hk.frozen (p := ⟨w.heap.size + 2, 0, none⟩) (by show w.heap.size + 2 < _; omega)).trans h.f0
  · exact (hk.frozen (p := ⟨w.heap.size + 2, 1, none⟩) (by show w.heap.size + 2 < _; omega)).trans h.f1
theorem In3.next {w W W' : World} {v0 v1 u0 u1 : Value} (h : In3 w v0 v1 u0 u1 W) (hb : Below W.heap.size W W') : In3 w v0 v1 u0 u1 W' := h.belowS hb h.size
theorem in3_new (w : World) (v0 v1 u0 u1 : Value) : In3 w v0 v1 u0 u1 (((w.alloc (.cells #[v0, v1] 25)).alloc (.cells #[u0, u1] 25)).alloc (.cells #[.slice none 0 0, .slice none 0 0] 25)) := by
  have B2 := two_allocs w (.cells #[v0, v1] 25) (.cells #[u0, u1] 25)
  have z2 := size_two w (.cells #[v0, v1] 25) (.cells #[u0, u1] 25)
  have B3 := one_alloc ((w.alloc (.cells #[v0, v1] 25)).alloc (.cells #[u0, u1] 25)) (.cells #[.slice none 0 0, .slice none 0 0] 25)
  have n0 := cell_new0 ((w.alloc (.cells #[v0, v1] 25)).alloc (.cells #[u0, u1] 25)) #[.slice none 0 0, .slice none 0 0] 25 0 _ rfl
  have n1 := cell_new0 ((w.alloc (.cells #[v0, v1] 25)).alloc (.cells #[u0, u1] 25)) #[.slice none 0 0, .slice none 0 0] 25 1 _ rfl
  have nf := fun i => frozen_new ((w.alloc (.cells #[v0, v1] 25)).alloc (.cells #[u0, u1] 25)) #[.slice none 0 0, .slice none 0 0] 25 i
  rw [z2] at n0 n1 nf
  refine ⟨B2.trans (B3.mono (by omega)), by simp, ?_, ?_, ?_, ?_, n0, n1, nf 0, nf 1⟩
  · exact (B3.cell (p := ⟨w.heap.size, 0, none⟩) (by show w.heap.size < _; omega)).trans (cell_new1 w _ 25 (0, 0) _ 0 _ rfl)
  · exact (B3.cell (p := ⟨w.heap.size, 1, none⟩) (by show w.heap.size < _; omega)).trans (cell_new1 w _ 25 (0, 0) _ 1 _ rfl)
  · exact (B3.cell (p := ⟨w.heap.size + 1, 0, none⟩) (by show w.heap.size + 1 < _; omega)).trans (cell_new2 w _ 25 (0, 0) _ 0 _ rfl)
  · exact (B3.cell (p := ⟨w.heap.size + 1, 1, none⟩) (by show w.heap.size + 1 < _; omega)).trans (cell_new2 w _ 25 (0, 0) _ 1 _ rfl)
theorem In3.put {w W : World} {v0 v1 u0 u1 : Value} (h : In3 w v0 v1 u0 u1 W) (u v : Value) : ((W.setCell ⟨w.heap.size + 2, 0, none⟩ u).cell? ⟨w.heap.size + 2, 0, none⟩ = some u ∧ ((W.setCell ⟨w.heap.size + 2, 0, none⟩ u).setCell ⟨w.heap.size + 2, 1, none⟩ v).cell? ⟨w.heap.size + 2, 1, none⟩ = some v) := set_two h.p0 h.p1 u v
theorem In3.fin {w W : World} {v0 v1 u0 u1 : Value} (h : In3 w v0 v1 u0 u1 W) (u v : Value) : Below w.heap.size w ((W.setCell ⟨w.heap.size + 2, 0, none⟩ u).setCell ⟨w.heap.size + 2, 1, none⟩ v) :=
  (h.bel.setCell (p := ⟨w.heap.size + 2, 0, none⟩) (by show w.heap.size ≤ w.heap.size + 2; omega) u).setCell (p := ⟨w.heap.size + 2, 1, none⟩) (by show w.heap.size ≤ w.heap.size + 2; omega) v
theorem In3.give {w W : World} {v0 v1 u0 u1 : Value} (h : In3 w v0 v1 u0 u1 W) {n lo : Nat} {x : Ar} {va : Value} (hx : ArIn n lo W x va) (hlo : w.heap.size + 3 ≤ lo) (u v : Value) : ArIn n w.heap.size ((W.setCell ⟨w.heap.size + 2, 0, none⟩ u).setCell ⟨w.heap.size + 2, 1, none⟩ v) x va := by
  have hk : Keeps (w.heap.size + 3) W ((W.setCell ⟨w.heap.size + 2, 0, none⟩ u).setCell ⟨w.heap.size + 2, 1, none⟩ v) := ((Keeps.refl _ _).setCell (p := ⟨w.heap.size + 2, 0, none⟩) (by show w.heap.size + 2 < _; omega) u).setCell (p := ⟨w.heap.size + 2, 1, none⟩) (by show w.heap.size + 2 < _; omega) v
  exact ((hx.mono hlo (Below.refl _ _)).keeps hk).mono (by omega) (Below.refl _ _)
set_option maxHeartbeats 4000000 in
theorem reshape_any {n m lo lo' : Nat} {x y : Ar} {va vb : Value} {w : World} (hx : ArIn (m + 1) lo w x va) (hy : ArIn (n + 1) lo' w y vb) (hlo' : lo' ≤ w.heap.size) : Calls Try.prog 24 #[va, vb] w fun e w' => Gives2 (n + 1) w.heap.size (reshR x y).1 (reshR x y).2 w e w' := by
  obtain ⟨a1, c1, a2, c2, rfl, R, hc⟩ := hx.form
  obtain ⟨b1, d1, b2, d2, rfl, R', hc'⟩ := hy.form
  have I := in3_new w (.slice a1 x.shape.length c1) (.slice a2 x.cells.length c2) (.slice b1 y.shape.length d1) (.slice b2 y.cells.length d2)
  obtain ⟨W3, e3⟩ : ∃ W3, ((w.alloc (.cells #[.slice a1 x.shape.length c1, .slice a2 x.cells.length c2] 25)).alloc (.cells #[.slice b1 y.shape.length d1, .slice b2 y.cells.length d2] 25)).alloc (.cells #[.slice none 0 0, .slice none 0 0] 25) = W3 := ⟨_, rfl⟩
  rw [e3] at I
  have q0 := I.q0
  have q1 := I.q1
  have CK := check_any (m + 1) x _ _ W3 (hx.next I.bel)
  have HI := hide I
  have HX := hide hx
  have HY := hide hy
  have HCY := hide hc'
  have hE : reshE x y = if chkA 8 x ≠ 0 then chkA 8 x else if chkA 8 y ≠ 0 then chkA 8 y else if shpE x ≠ 0 then shpE x else if sizeE (shN x) ≠ 0 then sizeE (shN x) else if 0 < sizeV (shN x) ∧ y.cells.length = 0 then 7 else 0 := rfl
  have HE := hide hE
  have HRE : Hid (∀ E, reshE x y = E → ¬ E = 0 → reshR x y = (zeroA, E)) := fun E h1 h2 => by unfold reshR; rw [h1, if_neg h2]
  clear hE
  obtain ⟨E1, hE1⟩ : ∃ E1, chkA 8 x = E1 := ⟨_, rfl⟩
  obtain ⟨E2, hE2⟩ : ∃ E2, chkA 8 y = E2 := ⟨_, rfl⟩
  have HEE := hide (And.intro hE1 hE2)
  rw [hE1] at CK
  simp only [hE1, hE2] at HE
  obtain ⟨SX, hSX⟩ : ∃ SX, x.shape.length = SX := ⟨_, rfl⟩
  obtain ⟨CX, hCX⟩ : ∃ CX, x.cells.length = CX := ⟨_, rfl⟩
  obtain ⟨SY, hSY⟩ : ∃ SY, y.shape.length = SY := ⟨_, rfl⟩
  obtain ⟨CY, hCY⟩ : ∃ CY, y.cells.length = CY := ⟨_, rfl⟩
  have HSC := hide (And.intro hSX (And.intro hCX (And.intro hSY hCY)))
  simp only [hSX, hCX, hSY, hCY] at CK e3 q0 q1 HI HX HY HE ⊢
  clear R hc I hx hy R' hc' hSX hCX hSY hCY hE1 hE2
  go_enter Try.func24, Try.ntmps24
  go_wp2_with fail
  clear e3 q0 q1
  refine CK.mono ?_
  rintro e w1 ⟨rfl, hb1⟩
  have I1 := HI.out.next hb1
  have r0 := I1.r0
  have r1 := I1.r1
  have p0 := I1.p0
  have p1 := I1.p1
  have f0 := I1.f0
  have f1 := I1.f1
  have HI1 := hide I1
  clear hb1 CK HI
  by_cases h1 : E1 = 0
  case neg =>
    have HE5 : Hid (reshR x y = (zeroA, E1)) := HRE.out E1 (by rw [HE.out, if_pos h1]) h1
    have HT := hide (I1.put (.slice none 0 0) (.slice none 0 0))
    have hne : (E1 == 0) = false := beq_eq_false_iff_ne.2 h1
    clear I1 HE HRE HX HY HCY
    go_wp2
    exact bodyPost_ret (v := .tuple #[.agg #[.slice none 0 0, .slice none 0 0], .int .i64 E1]) (by simp [results, Try.results24, go_sem, HT.out.1, HT.out.2]) rfl (gives2_of HE5.out (zeroA_in _ _ _) (HI1.out.fin _ _))
  subst h1
  have CK2 := check_any (n + 1) y _ _ w1 (HY.out.next I1.bel)
  rw [HEE.out.2] at CK2
  clear I1 p0 p1 f0 f1
  go_wp2_with fail
  refine CK2.mono ?_
  rintro e w2 ⟨rfl, hb2⟩
  have I2 := HI1.out.next hb2
  have q0 := I2.q0
  have q1 := I2.q1
  have p0 := I2.p0
  have p1 := I2.p1
  have f0 := I2.f0
  have f1 := I2.f1
  have HI2 := hide I2
  clear hb2 CK2 HI1 r0 r1
  by_cases h2 : E2 = 0
  case neg =>
    have HE5 : Hid (reshR x y = (zeroA, E2)) := HRE.out E2 (by rw [HE.out, if_neg (by simp), if_pos h2]) h2
    have HT := hide (I2.put (.slice none 0 0) (.slice none 0 0))
    have hne : (E2 == 0) = false := beq_eq_false_iff_ne.2 h2
    clear I2 HE HRE HX HY HCY
    go_wp2
    exact bodyPost_ret (v := .tuple #[.agg #[.slice none 0 0, .slice none 0 0], .int .i64 E2]) (by simp [results, Try.results24, go_sem, HT.out.1, HT.out.2]) rfl (gives2_of HE5.out (zeroA_in _ _ _) (HI2.out.fin _ _))
  subst h2
  have CS := shapeOf_any (HX.out.next I2.bel) HEE.out.1
  clear I2 p0 p1 f0 f1
  go_wp2_with fail
  refine CS.mono ?_
  rintro e w3 ⟨⟨al, cl, rfl, hRow⟩, hb3⟩
  have I3 := HI2.out.next hb3
  have p0 := I3.p0
  have p1 := I3.p1
  have f0 := I3.f0
  have f1 := I3.f1
  have HI3 := hide I3
  obtain ⟨E3, hE3⟩ : ∃ E3, shpE x = E3 := ⟨_, rfl⟩
  simp only [hE3] at hRow HE
  rw [hE3]
  have hlo2 := HI2.out.size
  clear hb3 CS HI2 q0 q1 hE3
  by_cases h3 : E3 = 0
  case neg =>
    have HE5 : Hid (reshR x y = (zeroA, E3)) := HRE.out E3 (by rw [HE.out, if_neg (by simp), if_neg (by simp), if_pos h3]) h3
    have HT := hide (I3.put (.slice none 0 0) (.slice none 0 0))
    have hne : (E3 == 0) = false := beq_eq_false_iff_ne.2 h3
    rw [if_neg h3]
    clear I3 HE HRE HX HY HCY hRow h3
    go_wp2
    exact bodyPost_ret (v := .tuple #[.agg #[.slice none 0 0, .slice none 0 0], .int .i64 E3]) (by simp [results, Try.results24, go_sem, HT.out.1, HT.out.2]) rfl (gives2_of HE5.out (zeroA_in _ _ _) (HI3.out.fin _ _))
  subst h3
  have hR3 := hRow rfl
  have CZ := size_any (shN x) al cl w3 hR3
  rw [if_pos rfl]
  have HR3 := hide (hR3.low hlo2)
  obtain ⟨l, hl⟩ : ∃ l, shN x = l := ⟨_, rfl⟩
  have HLL := hide hl
  simp only [hl] at CZ HE HR3
  rw [hl]
  clear I3 p0 p1 f0 f1 hRow hR3 hl
  go_wp2_with fail
  refine CZ.mono ?_
  rintro e w4 ⟨rfl, hw4⟩
  subst hw4
  have I3 := HI3.out
  have r1 := I3.r1
  have p0 := I3.p0
  have p1 := I3.p1
  have f0 := I3.f0
  have f1 := I3.f1
  obtain ⟨E4, hE4⟩ : ∃ E4, sizeE l = E4 := ⟨_, rfl⟩
  obtain ⟨V, hV⟩ : ∃ V, sizeV l = V := ⟨_, rfl⟩
  have HEV := hide (And.intro hE4 hV)
  simp only [hE4, hV] at HE
  rw [hE4, hV]
  clear CZ hE4 hV
  by_cases h4 : E4 = 0
  case neg =>
    have HE5 : Hid (reshR x y = (zeroA, E4)) := HRE.out E4 (by rw [HE.out, if_neg (by simp), if_neg (by simp), if_neg (by simp), if_pos h4]) h4
    have HT := hide (I3.put (.slice none 0 0) (.slice none 0 0))
    have hne : (E4 == 0) = false := beq_eq_false_iff_ne.2 h4
    clear I3 HE HRE HX HY HCY h4 r1
    go_wp2
    exact bodyPost_ret (v := .tuple #[.agg #[.slice none 0 0, .slice none 0 0], .int .i64 E4]) (by simp [results, Try.results24, go_sem, HT.out.1, HT.out.2]) rfl (gives2_of HE5.out (zeroA_in _ _ _) (HI3.out.fin _ _))
  subst h4
  obtain ⟨hV0, hV1⟩ := sizeV_le HEV.out.1
  rw [HEV.out.2] at hV0 hV1
  obtain ⟨N, rfl⟩ : ∃ N : Nat, V = (N : Int) := ⟨V.toNat, by omega⟩
  by_cases h5 : 0 < N ∧ CY = 0
  · have HE5 : Hid (reshR x y = (zeroA, 7)) := HRE.out 7 (by rw [HE.out, if_neg (by simp), if_neg (by simp), if_neg (by simp), if_neg (by simp), if_pos ⟨by omega, h5.2⟩]) (by decide)
    have HT := hide (I3.put (.slice none 0 0) (.slice none 0 0))
    obtain ⟨h5a, rfl⟩ := h5
    have h5b : (0 : Int) < (N : Int) := by omega
    clear I3 HE HRE HX HY HCY
    go_wp2
    exact bodyPost_ret (v := .tuple #[.agg #[.slice none 0 0, .slice none 0 0], .int .i64 7]) (by simp [results, Try.results24, go_sem, HT.out.1, HT.out.2]) rfl (gives2_of HE5.out (zeroA_in _ _ _) (HI3.out.fin _ _))
  · have HE5 : Hid (reshR x y = (.mk l (mkCs N fun i => cAt y.cells (i % CY)), 0)) := by
      have e0 : reshE x y = 0 := by rw [HE.out, if_neg (by simp), if_neg (by simp), if_neg (by simp), if_neg (by simp), if_neg (fun h => h5 ⟨by omega, h.2⟩)]
      unfold reshR Hid
      rw [if_pos e0]
      unfold reshA
      rw [HLL.out, HEV.out.2, Int.toNat_natCast, HSC.out.2.2.2]
    have mk := make_cells N (by omega)
    have RM := hide (rowIs_made3 w4 (N * 3))
    have BM := one_alloc w4 (.cells (madeCells #[.int .i64 0, .int .i64 0, .slice none 0 0] (N * 3)) 36)
    have HI4 := hide (I3.next BM)
    have HZ4 : Hid ((w4.alloc (.cells (madeCells #[.int .i64 0, .int .i64 0, .slice none 0 0] (N * 3)) 36)).heap.size = w4.heap.size + 1) := by unfold Hid; simp
    have HR3' := hide HR3.out
    have HBS : Hid (w.heap.size + 3 ≤ w4.heap.size) := I3.size
    clear I3 HE HRE HX HR3 BM
    obtain ⟨ab, cb, hcf⟩ := cells_fn HCY.out
    have HCF := hide hcf
    rw [HSC.out.2.2.2] at HCF
    have HCK : Hid (∀ i, i < CY → chkC (inF 8) (cAt y.cells i) = 0) := by rw [← HSC.out.2.2.2]; exact ((chkA_iff 8 y).1 HEE.out.2).2.2.2
    have hCY16 : CY ≤ 16384 := by rw [← HSC.out.2.2.2]; exact (chk_len HEE.out.2).2
    have hguard : (0 : Int) < (N : Int) → ¬ (CY : Int) = 0 := fun h h' => h5 ⟨by omega, by omega⟩
    have HG := hide hguard
    obtain ⟨cs, hcs⟩ : ∃ cs, (mkCs N fun i => cAt y.cells (i % CY)) = cs := ⟨_, rfl⟩
    have HCS : Hid (cs.length = N ∧ ∀ i, i < N → cAt cs i = cAt y.cells (i % CY)) := by
      rw [← hcs]; exact ⟨mkCs_len _ _, fun i hi => mkCs_at _ _ _ hi⟩
    rw [hcs] at HE5
    clear hcf hcs h5 HY HCY
    by_cases hN : 0 < N
    · have hN' : (0 : Int) < (N : Int) := by omega
      have hCYne : ((CY : Int) == 0) = false := beq_eq_false_iff_ne.2 (hguard hN')
      clear hguard
      go_wp2
      clear mk r1 p0 p1 f0 f1
      go_loopw [56] (fun i wr => ∃ j : Nat, j ≤ N ∧ i = .int .i64 (j : Int) ∧ Below w4.heap.size w4 wr ∧ w4.heap.size + 1 ≤ wr.heap.size ∧ ∃ F, wr.rowIs w4.heap.size 36 (N * 3) F ∧ ∀ i, i < j → CeIn (ArIn n (w4.heap.size + 1) wr) (w4.heap.size + 1) wr (cAt cs i) (F (i * 3)) (F (i * 3 + 1)) (F (i * 3 + 2))) (fun i _ => N - (intOf i).toNat)
      case atStart => exact ⟨0, Nat.zero_le _, rfl, one_alloc _ _, by have := HZ4.out; omega, zero3, RM.out, fun i hi => absurd hi (by omega)⟩
      case round =>
        clear RM HI4 HZ4
        obtain ⟨j, hj, rfl, hnx, hsz, F, hr, hF⟩ := hrel
        have I5 := HI3.out.next hnx
        by_cases hlt : j < N
        · have hC0 := HG.out (by omega)
          obtain ⟨b, off, rfl, -, hb, hcells⟩ := HCF.out (by omega)
          obtain ⟨p, hp⟩ : ∃ p, j % CY = p := ⟨_, rfl⟩
          have hpl : p < CY := by rw [← hp]; exact Nat.mod_lt _ (by omega)
          obtain ⟨g0, g1, g2, g3⟩ := hcells p hpl
          have hck := HCK.out p hpl
          have ecs := HCS.out.2 j hlt
          rw [hp] at ecs
          obtain ⟨c, hcc⟩ : ∃ c, cAt y.cells p = c := ⟨_, rfl⟩
          rw [hcc] at g0 g1 g2 g3 hck ecs
          have hbw := I5.bel
          have u0 := (hbw.cell (p := ⟨b, off + p * 3, none⟩) hb).trans g0
          have u1 := (hbw.cell (p := ⟨b, off + p * 3 + 1, none⟩) hb).trans g1
          have u2 := (hbw.cell (p := ⟨b, off + p * 3 + 2, none⟩) hb).trans g2
          have r1 := I5.r1
          have hq : (j : Int).tmod (CY : Int) = (p : Int) := by rw [Int.tmod_eq_emod_of_nonneg (by omega), ← hp]; rfl
          have hCY1 : ¬ CY = 0 := by omega
          have hp0 : (0 : Int) ≤ (p : Int) := by omega
          have hp1 : (p : Int) < (CY : Int) := by omega
          have hg3 : CeIn (ArIn n lo' wr.drew) lo' wr.drew c (.int .i64 c.1) (.int .i64 c.2.1) (.slice (ab p) c.2.2.length (cb p)) := g3.mono (Nat.le_refl _) hbw.drew fun x v h => h.next hbw.drew
          have LC := lcopyCell_any hg3 (Nat.le_trans hlo' hbw.size) hck
          obtain ⟨nb, hnb⟩ : ∃ nb, c.2.2.length = nb := ⟨_, rfl⟩
          generalize ab p = abp at *
          generalize cb p = cbp at *
          have C : Hid (Calls Try.prog 57 #[.agg #[.int .i64 c.1, .int .i64 c.2.1, .slice abp nb cbp]] wr.drew fun e w' => (∃ a' cap', e = .returned (.agg #[.int .i64 c.1, .int .i64 c.2.1, .slice a' nb cap']) ∧ CeIn (ArIn n (w4.heap.size + 1) w') (w4.heap.size + 1) w' (cAt cs j) (.int .i64 c.1) (.int .i64 c.2.1) (.slice a' nb cap')) ∧ Below wr.heap.size wr w') := by
            rw [hnb] at LC
            refine LC.mono ?_
            rintro e w' ⟨⟨a', cap', rfl, hce⟩, hb'⟩
            rw [hnb] at hce ⊢
            refine ⟨⟨a', cap', rfl, ?_⟩, ((Below.refl _ _).drew).trans hb'⟩
            rw [ecs]
            exact hce.mono hsz (Below.refl _ _) fun x v h => h.mono hsz (Below.refl _ _)
          rw [hnb] at u2
          have HBL : Hid (w4.heap.size < wr.heap.size ∧ b < wr.heap.size ∧ w.heap.size + 1 < wr.heap.size ∧ b < w4.heap.size ∧ w.heap.size + 1 < w4.heap.size) := ⟨by omega, Nat.lt_of_lt_of_le hb hbw.size, by have := I5.size; omega, by have := HI3.out.bel.size; omega, by have := HBS.out; omega⟩
          have HD : Hid (∀ w1 : World, Below wr.heap.size wr w1 → w1.cell? ⟨w4.heap.size, j * 3, none⟩ = some (F (j * 3)) ∧ w1.cell? ⟨w4.heap.size, j * 3 + 1, none⟩ = some (F (j * 3 + 1)) ∧ w1.cell? ⟨w4.heap.size, j * 3 + 2, none⟩ = some (F (j * 3 + 2)) ∧ w1.frozen? ⟨w4.heap.size, j * 3, none⟩ = false ∧ w1.frozen? ⟨w4.heap.size, j * 3 + 1, none⟩ = false ∧ w1.frozen? ⟨w4.heap.size, j * 3 + 2, none⟩ = false) := by
            intro w1 h
            have r1 : w1.rowIs w4.heap.size 36 (N * 3) F := hr.of_block (h.block _ (by omega))
            exact ⟨r1.cell (by omega), r1.cell (by omega), r1.cell (by omega), r1.frozen _, r1.frozen _, r1.frozen _⟩
          have KS : Hid (∀ w1 : World, Below wr.heap.size wr w1 → (w1.cell? ⟨w.heap.size + 1, 1, none⟩ = some (.slice (some ⟨b, off, none⟩) CY d2) ∧ w1.cell? ⟨b, off + p * 3, none⟩ = some (.int .i64 c.1) ∧ w1.cell? ⟨b, off + p * 3 + 1, none⟩ = some (.int .i64 c.2.1) ∧ w1.cell? ⟨b, off + p * 3 + 2, none⟩ = some (.slice abp nb cbp))) := fun w1 h => ⟨(h.cell (p := ⟨w.heap.size + 1, 1, none⟩) HBL.out.2.2.1).trans r1, (h.cell (p := ⟨b, off + p * 3, none⟩) HBL.out.2.1).trans u0, (h.cell (p := ⟨b, off + p * 3 + 1, none⟩) HBL.out.2.1).trans u1, (h.cell (p := ⟨b, off + p * 3 + 2, none⟩) HBL.out.2.1).trans u2⟩
          have D0 : Hid (Below wr.heap.size wr wr.drew) := (Below.refl _ _).drew
          have KT : Hid (∀ (w1 : World) (v0 v1 v2 : Value), (w1.cell? ⟨w.heap.size + 1, 1, none⟩ = some (.slice (some ⟨b, off, none⟩) CY d2) ∧ w1.cell? ⟨b, off + p * 3, none⟩ = some (.int .i64 c.1) ∧ w1.cell? ⟨b, off + p * 3 + 1, none⟩ = some (.int .i64 c.2.1) ∧ w1.cell? ⟨b, off + p * 3 + 2, none⟩ = some (.slice abp nb cbp)) → ((((w1.setCell ⟨w4.heap.size, j * 3, none⟩ v0).setCell ⟨w4.heap.size, j * 3 + 1, none⟩ v1).setCell ⟨w4.heap.size, j * 3 + 2, none⟩ v2).cell? ⟨w.heap.size + 1, 1, none⟩ = some (.slice (some ⟨b, off, none⟩) CY d2) ∧ (((w1.setCell ⟨w4.heap.size, j * 3, none⟩ v0).setCell ⟨w4.heap.size, j * 3 + 1, none⟩ v1).setCell ⟨w4.heap.size, j * 3 + 2, none⟩ v2).cell? ⟨b, off + p * 3, none⟩ = some (.int .i64 c.1) ∧ (((w1.setCell ⟨w4.heap.size, j * 3, none⟩ v0).setCell ⟨w4.heap.size, j * 3 + 1, none⟩ v1).setCell ⟨w4.heap.size, j * 3 + 2, none⟩ v2).cell? ⟨b, off + p * 3 + 1, none⟩ = some (.int .i64 c.2.1) ∧ (((w1.setCell ⟨w4.heap.size, j * 3, none⟩ v0).setCell ⟨w4.heap.size, j * 3 + 1, none⟩ v1).setCell ⟨w4.heap.size, j * 3 + 2, none⟩ v2).cell? ⟨b, off + p * 3 + 2, none⟩ = some (.slice abp nb cbp))) := by
            rintro w1 v0 v1 v2 ⟨g0, g1, g2, g3⟩
            have ap : ∀ (b i : Nat) (v : Value), b ≠ w4.heap.size → w1.cell? ⟨b, i, none⟩ = some v → (((w1.setCell ⟨w4.heap.size, j * 3, none⟩ v0).setCell ⟨w4.heap.size, j * 3 + 1, none⟩ v1).setCell ⟨w4.heap.size, j * 3 + 2, none⟩ v2).cell? ⟨b, i, none⟩ = some v := fun b i v hne hv => cell_apart (p := ⟨b, i, none⟩) (q := ⟨w4.heap.size, j * 3 + 2, none⟩) hne _ (cell_apart (p := ⟨b, i, none⟩) (q := ⟨w4.heap.size, j * 3 + 1, none⟩) hne _ (cell_apart (p := ⟨b, i, none⟩) (q := ⟨w4.heap.size, j * 3, none⟩) hne _ hv))
            have hl := HBL.out
            exact ⟨ap _ _ _ (by omega) g0, ap _ _ _ (by omega) g1, ap _ _ _ (by omega) g2, ap _ _ _ (by omega) g3⟩
          have HEND : Hid (∀ w1 v0 v1 v2, Below wr.heap.size wr w1 → CeIn (ArIn n (w4.heap.size + 1) w1) (w4.heap.size + 1) w1 (cAt cs j) v0 v1 v2 → Below w4.heap.size w4 (((w1.setCell ⟨w4.heap.size, j * 3, none⟩ v0).setCell ⟨w4.heap.size, j * 3 + 1, none⟩ v1).setCell ⟨w4.heap.size, j * 3 + 2, none⟩ v2) ∧ w4.heap.size + 1 ≤ (((w1.setCell ⟨w4.heap.size, j * 3, none⟩ v0).setCell ⟨w4.heap.size, j * 3 + 1, none⟩ v1).setCell ⟨w4.heap.size, j * 3 + 2, none⟩ v2).heap.size ∧ ∃ F', (((w1.setCell ⟨w4.heap.size, j * 3, none⟩ v0).setCell ⟨w4.heap.size, j * 3 + 1, none⟩ v1).setCell ⟨w4.heap.size, j * 3 + 2, none⟩ v2).rowIs w4.heap.size 36 (N * 3) F' ∧ ∀ i, i < j + 1 → CeIn (ArIn n (w4.heap.size + 1) (((w1.setCell ⟨w4.heap.size, j * 3, none⟩ v0).setCell ⟨w4.heap.size, j * 3 + 1, none⟩ v1).setCell ⟨w4.heap.size, j * 3 + 2, none⟩ v2)) (w4.heap.size + 1) (((w1.setCell ⟨w4.heap.size, j * 3, none⟩ v0).setCell ⟨w4.heap.size, j * 3 + 1, none⟩ v1).setCell ⟨w4.heap.size, j * 3 + 2, none⟩ v2) (cAt cs i) (F' (i * 3)) (F' (i * 3 + 1)) (F' (i * 3 + 2))) := by
            intro w1 v0 v1 v2 hb hnew
            refine ⟨(((hnx.trans (hb.mono hnx.size)).setCell (p := ⟨w4.heap.size, j * 3, none⟩) (Nat.le_refl _) v0).setCell (p := ⟨w4.heap.size, j * 3 + 1, none⟩) (Nat.le_refl _) v1).setCell (p := ⟨w4.heap.size, j * 3 + 2, none⟩) (Nat.le_refl _) v2, ?_, fam_step (by omega) hb (by omega) hr hF v0 v1 v2 hnew⟩
            have : (((w1.setCell ⟨w4.heap.size, j * 3, none⟩ v0).setCell ⟨w4.heap.size, j * 3 + 1, none⟩ v1).setCell ⟨w4.heap.size, j * 3 + 2, none⟩ v2).heap.size = w1.heap.size := by simp
            rw [this]; exact Nat.le_trans hsz hb.size
          clear I5 g0 g1 g2 g3 hg3 LC hck hcc ecs hcells hr hF hbw hb hpl hp r1 u0 u1 u2 hnb HCF HG
          go_wp2
          go_region_held3 (fun W => W.cell? ⟨w.heap.size + 1, 1, none⟩ = some (.slice (some ⟨b, off, none⟩) CY d2) ∧ W.cell? ⟨b, off + p * 3, none⟩ = some (.int .i64 c.1) ∧ W.cell? ⟨b, off + p * 3 + 1, none⟩ = some (.int .i64 c.2.1) ∧ W.cell? ⟨b, off + p * 3 + 2, none⟩ = some (.slice abp nb cbp))
            (first | exact KS.out _ D0.out | exact KS.out _ (by assumption) | exact KT.out _ _ _ _ (by assumption))
            (first
              | (go_at_call 57; refine C.out.mono ?_; rintro e w1 ⟨⟨a', cap', rfl, hce⟩, hb1⟩; obtain ⟨y0, y1, y2, y3, y4, y5⟩ := HD.out _ hb1))
          have HFIN := hide (HEND.out w1 _ _ _ hb1 hce)
          clear HEND KT KS D0 HD C y0 y1 y2 y3 y4 y5 hce hb1
          go_wp2
          go_roundw
          case rel => exact ⟨j + 1, by omega, by go_num, HFIN.out⟩
          case measure => simp [intOf]; omega
        · have hje : j = N := by omega
          subst hje
          have p0 := I5.p0
          have p1 := I5.p1
          have f0 := I5.f0
          have f1 := I5.f1
          have R5 := HR3'.out.next hnx
          have hCS : CellsIn n (w.heap.size + 3) wr cs (some ⟨w4.heap.size, 0, none⟩) := by
            have hbs := HBS.out
            refine Or.inr ⟨w4.heap.size, 0, rfl, by omega, by omega, fun i hi => ?_⟩
            rw [HCS.out.1] at hi
            rw [Nat.zero_add]
            exact ⟨_, _, _, hr.cell (by omega), hr.cell (by omega), hr.cell (by omega), (hF i hi).mono (by omega) (Below.refl _ _) fun x v h => h.mono (by omega) (Below.refl _ _)⟩
          have hA : ArIn (n + 1) (w.heap.size + 3) wr (.mk l cs) (.agg #[.slice al l.length cl, .slice (some ⟨w4.heap.size, 0, none⟩) j j]) := arIn_mk (x := .mk l cs) R5 (by show cs.length ≤ _; rw [HCS.out.1]; omega) hCS rfl HCS.out.1
          have HT := hide (I5.put (.slice al l.length cl) (.slice (some ⟨w4.heap.size, 0, none⟩) j j))
          have HF := hide (I5.give hA (Nat.le_refl _))
          have HFI := hide I5.fin
          clear I5 hA hCS R5 hr hF hnx HCF HG
          go_wp2
          exact bodyPost_ret (v := .tuple #[.agg #[.slice al l.length cl, .slice (some ⟨w4.heap.size, 0, none⟩) j j], .int .i64 0]) (by simp [results, Try.results24, go_sem, HT.out.1, HT.out.2]) rfl (gives2_of HE5.out (HF.out _ _) (HFI.out _ _))
    · have hN' : ¬ (0 : Int) < (N : Int) := by omega
      clear hguard
      go_wp2
      clear mk r1 p0 p1 f0 f1
      go_loopw [56] (fun i wr => ∃ j : Nat, j ≤ N ∧ i = .int .i64 (j : Int) ∧ Below w4.heap.size w4 wr ∧ w4.heap.size + 1 ≤ wr.heap.size ∧ ∃ F, wr.rowIs w4.heap.size 36 (N * 3) F ∧ ∀ i, i < j → CeIn (ArIn n (w4.heap.size + 1) wr) (w4.heap.size + 1) wr (cAt cs i) (F (i * 3)) (F (i * 3 + 1)) (F (i * 3 + 2))) (fun i _ => N - (intOf i).toNat)
      case atStart => exact ⟨0, Nat.zero_le _, rfl, one_alloc _ _, by have := HZ4.out; omega, zero3, RM.out, fun i hi => absurd hi (by omega)⟩
      case round =>
        clear RM HI4 HZ4
        obtain ⟨j, hj, rfl, hnx, hsz, F, hr, hF⟩ := hrel
        have I5 := HI3.out.next hnx
        by_cases hlt : j < N
        · have hC0 := HG.out (by omega)
          obtain ⟨b, off, rfl, -, hb, hcells⟩ := HCF.out (by omega)
          obtain ⟨p, hp⟩ : ∃ p, j % CY = p := ⟨_, rfl⟩
          have hpl : p < CY := by rw [← hp]; exact Nat.mod_lt _ (by omega)
          obtain ⟨g0, g1, g2, g3⟩ := hcells p hpl
          have hck := HCK.out p hpl
          have ecs := HCS.out.2 j hlt
          rw [hp] at ecs
          obtain ⟨c, hcc⟩ : ∃ c, cAt y.cells p = c := ⟨_, rfl⟩
          rw [hcc] at g0 g1 g2 g3 hck ecs
          have hbw := I5.bel
          have u0 := (hbw.cell (p := ⟨b, off + p * 3, none⟩) hb).trans g0
          have u1 := (hbw.cell (p := ⟨b, off + p * 3 + 1, none⟩) hb).trans g1
          have u2 := (hbw.cell (p := ⟨b, off + p * 3 + 2, none⟩) hb).trans g2
          have r1 := I5.r1
          have hq : (j : Int).tmod (CY : Int) = (p : Int) := by rw [Int.tmod_eq_emod_of_nonneg (by omega), ← hp]; rfl
          have hCY1 : ¬ CY = 0 := by omega
          have hp0 : (0 : Int) ≤ (p : Int) := by omega
          have hp1 : (p : Int) < (CY : Int) := by omega
          have hg3 : CeIn (ArIn n lo' wr.drew) lo' wr.drew c (.int .i64 c.1) (.int .i64 c.2.1) (.slice (ab p) c.2.2.length (cb p)) := g3.mono (Nat.le_refl _) hbw.drew fun x v h => h.next hbw.drew
          have LC := lcopyCell_any hg3 (Nat.le_trans hlo' hbw.size) hck
          obtain ⟨nb, hnb⟩ : ∃ nb, c.2.2.length = nb := ⟨_, rfl⟩
          generalize ab p = abp at *
          generalize cb p = cbp at *
          have C : Hid (Calls Try.prog 57 #[.agg #[.int .i64 c.1, .int .i64 c.2.1, .slice abp nb cbp]] wr.drew fun e w' => (∃ a' cap', e = .returned (.agg #[.int .i64 c.1, .int .i64 c.2.1, .slice a' nb cap']) ∧ CeIn (ArIn n (w4.heap.size + 1) w') (w4.heap.size + 1) w' (cAt cs j) (.int .i64 c.1) (.int .i64 c.2.1) (.slice a' nb cap')) ∧ Below wr.heap.size wr w') := by
            rw [hnb] at LC
            refine LC.mono ?_
            rintro e w' ⟨⟨a', cap', rfl, hce⟩, hb'⟩
            rw [hnb] at hce ⊢
            refine ⟨⟨a', cap', rfl, ?_⟩, ((Below.refl _ _).drew).trans hb'⟩
            rw [ecs]
            exact hce.mono hsz (Below.refl _ _) fun x v h => h.mono hsz (Below.refl _ _)
          rw [hnb] at u2
          have HBL : Hid (w4.heap.size < wr.heap.size ∧ b < wr.heap.size ∧ w.heap.size + 1 < wr.heap.size ∧ b < w4.heap.size ∧ w.heap.size + 1 < w4.heap.size) := ⟨by omega, Nat.lt_of_lt_of_le hb hbw.size, by have := I5.size; omega, by have := HI3.out.bel.size; omega, by have := HBS.out; omega⟩
          have HD : Hid (∀ w1 : World, Below wr.heap.size wr w1 → w1.cell? ⟨w4.heap.size, j * 3, none⟩ = some (F (j * 3)) ∧ w1.cell? ⟨w4.heap.size, j * 3 + 1, none⟩ = some (F (j * 3 + 1)) ∧ w1.cell? ⟨w4.heap.size, j * 3 + 2, none⟩ = some (F (j * 3 + 2)) ∧ w1.frozen? ⟨w4.heap.size, j * 3, none⟩ = false ∧ w1.frozen? ⟨w4.heap.size, j * 3 + 1, none⟩ = false ∧ w1.frozen? ⟨w4.heap.size, j * 3 + 2, none⟩ = false) := by
            intro w1 h
            have r1 : w1.rowIs w4.heap.size 36 (N * 3) F := hr.of_block (h.block _ (by omega))
            exact ⟨r1.cell (by omega), r1.cell (by omega), r1.cell (by omega), r1.frozen _, r1.frozen _, r1.frozen _⟩
          have KS : Hid (∀ w1 : World, Below wr.heap.size wr w1 → (w1.cell? ⟨w.heap.size + 1, 1, none⟩ = some (.slice (some ⟨b, off, none⟩) CY d2) ∧ w1.cell? ⟨b, off + p * 3, none⟩ = some (.int .i64 c.1) ∧ w1.cell? ⟨b, off + p * 3 + 1, none⟩ = some (.int .i64 c.2.1) ∧ w1.cell? ⟨b, off + p * 3 + 2, none⟩ = some (.slice abp nb cbp))) := fun w1 h => ⟨(h.cell (p := ⟨w.heap.size + 1, 1, none⟩) HBL.out.2.2.1).trans r1, (h.cell (p := ⟨b, off + p * 3, none⟩) HBL.out.2.1).trans u0, (h.cell (p := ⟨b, off + p * 3 + 1, none⟩) HBL.out.2.1).trans u1, (h.cell (p := ⟨b, off + p * 3 + 2, none⟩) HBL.out.2.1).trans u2⟩
          have D0 : Hid (Below wr.heap.size wr wr.drew) := (Below.refl _ _).drew
          have KT : Hid (∀ (w1 : World) (v0 v1 v2 : Value), (w1.cell? ⟨w.heap.size + 1, 1, none⟩ = some (.slice (some ⟨b, off, none⟩) CY d2) ∧ w1.cell? ⟨b, off + p * 3, none⟩ = some (.int .i64 c.1) ∧ w1.cell? ⟨b, off + p * 3 + 1, none⟩ = some (.int .i64 c.2.1) ∧ w1.cell? ⟨b, off + p * 3 + 2, none⟩ = some (.slice abp nb cbp)) → ((((w1.setCell ⟨w4.heap.size, j * 3, none⟩ v0).setCell ⟨w4.heap.size, j * 3 + 1, none⟩ v1).setCell ⟨w4.heap.size, j * 3 + 2, none⟩ v2).cell? ⟨w.heap.size + 1, 1, none⟩ = some (.slice (some ⟨b, off, none⟩) CY d2) ∧ (((w1.setCell ⟨w4.heap.size, j * 3, none⟩ v0).setCell ⟨w4.heap.size, j * 3 + 1, none⟩ v1).setCell ⟨w4.heap.size, j * 3 + 2, none⟩ v2).cell? ⟨b, off + p * 3, none⟩ = some (.int .i64 c.1) ∧ (((w1.setCell ⟨w4.heap.size, j * 3, none⟩ v0).setCell ⟨w4.heap.size, j * 3 + 1, none⟩ v1).setCell ⟨w4.heap.size, j * 3 + 2, none⟩ v2).cell? ⟨b, off + p * 3 + 1, none⟩ = some (.int .i64 c.2.1) ∧ (((w1.setCell ⟨w4.heap.size, j * 3, none⟩ v0).setCell ⟨w4.heap.size, j * 3 + 1, none⟩ v1).setCell ⟨w4.heap.size, j * 3 + 2, none⟩ v2).cell? ⟨b, off + p * 3 + 2, none⟩ = some (.slice abp nb cbp))) := by
            rintro w1 v0 v1 v2 ⟨g0, g1, g2, g3⟩
            have ap : ∀ (b i : Nat) (v : Value), b ≠ w4.heap.size → w1.cell? ⟨b, i, none⟩ = some v → (((w1.setCell ⟨w4.heap.size, j * 3, none⟩ v0).setCell ⟨w4.heap.size, j * 3 + 1, none⟩ v1).setCell ⟨w4.heap.size, j * 3 + 2, none⟩ v2).cell? ⟨b, i, none⟩ = some v := fun b i v hne hv => cell_apart (p := ⟨b, i, none⟩) (q := ⟨w4.heap.size, j * 3 + 2, none⟩) hne _ (cell_apart (p := ⟨b, i, none⟩) (q := ⟨w4.heap.size, j * 3 + 1, none⟩) hne _ (cell_apart (p := ⟨b, i, none⟩) (q := ⟨w4.heap.size, j * 3, none⟩) hne _ hv))
            have hl := HBL.out
            exact ⟨ap _ _ _ (by omega) g0, ap _ _ _ (by omega) g1, ap _ _ _ (by omega) g2, ap _ _ _ (by omega) g3⟩
          have HEND : Hid (∀ w1 v0 v1 v2, Below wr.heap.size wr w1 → CeIn (ArIn n (w4.heap.size + 1) w1) (w4.heap.size + 1) w1 (cAt cs j) v0 v1 v2 → Below w4.heap.size w4 (((w1.setCell ⟨w4.heap.size, j * 3, none⟩ v0).setCell ⟨w4.heap.size, j * 3 + 1, none⟩ v1).setCell ⟨w4.heap.size, j * 3 + 2, none⟩ v2) ∧ w4.heap.size + 1 ≤ (((w1.setCell ⟨w4.heap.size, j * 3, none⟩ v0).setCell ⟨w4.heap.size, j * 3 + 1, none⟩ v1).setCell ⟨w4.heap.size, j * 3 + 2, none⟩ v2).heap.size ∧ ∃ F', (((w1.setCell ⟨w4.heap.size, j * 3, none⟩ v0).setCell ⟨w4.heap.size, j * 3 + 1, none⟩ v1).setCell ⟨w4.heap.size, j * 3 + 2, none⟩ v2).rowIs w4.heap.size 36 (N * 3) F' ∧ ∀ i, i < j + 1 → CeIn (ArIn n (w4.heap.size + 1) (((w1.setCell ⟨w4.heap.size, j * 3, none⟩ v0).setCell ⟨w4.heap.size, j * 3 + 1, none⟩ v1).setCell ⟨w4.heap.size, j * 3 + 2, none⟩ v2)) (w4.heap.size + 1) (((w1.setCell ⟨w4.heap.size, j * 3, none⟩ v0).setCell ⟨w4.heap.size, j * 3 + 1, none⟩ v1).setCell ⟨w4.heap.size, j * 3 + 2, none⟩ v2) (cAt cs i) (F' (i * 3)) (F' (i * 3 + 1)) (F' (i * 3 + 2))) := by
            intro w1 v0 v1 v2 hb hnew
            refine ⟨(((hnx.trans (hb.mono hnx.size)).setCell (p := ⟨w4.heap.size, j * 3, none⟩) (Nat.le_refl _) v0).setCell (p := ⟨w4.heap.size, j * 3 + 1, none⟩) (Nat.le_refl _) v1).setCell (p := ⟨w4.heap.size, j * 3 + 2, none⟩) (Nat.le_refl _) v2, ?_, fam_step (by omega) hb (by omega) hr hF v0 v1 v2 hnew⟩
            have : (((w1.setCell ⟨w4.heap.size, j * 3, none⟩ v0).setCell ⟨w4.heap.size, j * 3 + 1, none⟩ v1).setCell ⟨w4.heap.size, j * 3 + 2, none⟩ v2).heap.size = w1.heap.size := by simp
            rw [this]; exact Nat.le_trans hsz hb.size
          clear I5 g0 g1 g2 g3 hg3 LC hck hcc ecs hcells hr hF hbw hb hpl hp r1 u0 u1 u2 hnb HCF HG
          go_wp2
          go_region_held3 (fun W => W.cell? ⟨w.heap.size + 1, 1, none⟩ = some (.slice (some ⟨b, off, none⟩) CY d2) ∧ W.cell? ⟨b, off + p * 3, none⟩ = some (.int .i64 c.1) ∧ W.cell? ⟨b, off + p * 3 + 1, none⟩ = some (.int .i64 c.2.1) ∧ W.cell? ⟨b, off + p * 3 + 2, none⟩ = some (.slice abp nb cbp))
            (first | exact KS.out _ D0.out | exact KS.out _ (by assumption) | exact KT.out _ _ _ _ (by assumption))
            (first
              | (go_at_call 57; refine C.out.mono ?_; rintro e w1 ⟨⟨a', cap', rfl, hce⟩, hb1⟩; obtain ⟨y0, y1, y2, y3, y4, y5⟩ := HD.out _ hb1))
          have HFIN := hide (HEND.out w1 _ _ _ hb1 hce)
          clear HEND KT KS D0 HD C y0 y1 y2 y3 y4 y5 hce hb1
          go_wp2
          go_roundw
          case rel => exact ⟨j + 1, by omega, by go_num, HFIN.out⟩
          case measure => simp [intOf]; omega
        · have hje : j = N := by omega
          subst hje
          have p0 := I5.p0
          have p1 := I5.p1
          have f0 := I5.f0
          have f1 := I5.f1
          have R5 := HR3'.out.next hnx
          have hCS : CellsIn n (w.heap.size + 3) wr cs (some ⟨w4.heap.size, 0, none⟩) := by
            have hbs := HBS.out
            refine Or.inr ⟨w4.heap.size, 0, rfl, by omega, by omega, fun i hi => ?_⟩
            rw [HCS.out.1] at hi
            rw [Nat.zero_add]
            exact ⟨_, _, _, hr.cell (by omega), hr.cell (by omega), hr.cell (by omega), (hF i hi).mono (by omega) (Below.refl _ _) fun x v h => h.mono (by omega) (Below.refl _ _)⟩
          have hA : ArIn (n + 1) (w.heap.size + 3) wr (.mk l cs) (.agg #[.slice al l.length cl, .slice (some ⟨w4.heap.size, 0, none⟩) j j]) := arIn_mk (x := .mk l cs) R5 (by show cs.length ≤ _; rw [HCS.out.1]; omega) hCS rfl HCS.out.1
          have HT := hide (I5.put (.slice al l.length cl) (.slice (some ⟨w4.heap.size, 0, none⟩) j j))
          have HF := hide (I5.give hA (Nat.le_refl _))
          have HFI := hide I5.fin
          clear I5 hA hCS R5 hr hF hnx HCF HG
          go_wp2
          exact bodyPost_ret (v := .tuple #[.agg #[.slice al l.length cl, .slice (some ⟨w4.heap.size, 0, none⟩) j j], .int .i64 0]) (by simp [results, Try.results24, go_sem, HT.out.1, HT.out.2]) rfl (gives2_of HE5.out (HF.out _ _) (HFI.out _ _))
end Go.Proofs.Ytmjncdhahdpplaa
