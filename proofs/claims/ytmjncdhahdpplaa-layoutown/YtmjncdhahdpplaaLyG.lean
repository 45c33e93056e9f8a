/-
  The contract of layer 5's upTo: the numbers below one.
-/
import Derived.Test.YtmjncdhahdpplaaLyF
namespace Go.Proofs.Ytmjncdhahdpplaa
open Go.ChangeShapes Go.WideShapes Go.ChangeAt Go.RowKit
set_option linter.unusedVariables false
set_option maxRecDepth 100000
theorem hadZero_nil (h : hasZero []) : False := by obtain ⟨z, hz, -⟩ := h; simp at hz
/-- An atom that may be has one cell. -/
theorem atom_one {r : Nat} {x : Ar} (h : chkA r x = 0) (h0 : x.shape.length = 0) : x.shape = [] ∧ x.cells.length = 1 := by
  have e : x.shape = [] := List.eq_nil_of_length_eq_zero h0
  obtain ⟨-, h1, h2⟩ := chk_axes h
  refine ⟨e, ?_⟩
  by_cases hc : x.cells.length = 0
  · have := h2 hc
    rw [e] at this
    exact (hadZero_nil this).elim
  · have := (h1 (by omega)).2
    rw [e] at this
    simp [prodL] at this
    omega
set_option maxHeartbeats 2000000 in
theorem upTo_any {n lo : Nat} {x : Ar} {va : Value} {w : World} (hx : ArIn (n + 1) lo w x va) (hchk : chkA 8 x = 0) : Calls Try.prog 31 #[va] w fun e w' => Gives2 (n + 1) w.heap.size (iotaR x).1 (iotaR x).2 w e w' := by
  obtain ⟨a1, c1, a2, c2, rfl, R, hc⟩ := hx.form
  have I := in2_new w (.slice a1 x.shape.length c1) (.slice a2 x.cells.length c2)
  have q0 := I.q0
  have q1 := I.q1
  have hl := R.1
  have HI := hide I
  by_cases h0 : 0 < x.shape.length
  · have e : iotaR x = (zeroA, 6) := by unfold iotaR; rw [if_pos h0]
    rw [e]
    clear R hc I hx hchk
    generalize x.shape.length = SA at *
    generalize x.cells.length = CA at *
    have h1 : (0 : Int) < (SA : Int) := by omega
    go_enter Try.func31, Try.ntmps31
    go_wp2
    exact bodyPost_ret (v := .tuple #[.agg #[.slice none 0 0, .slice none 0 0], .int .i64 6]) (by simp [results, Try.results31, go_sem]) rfl ⟨⟨_, rfl, zeroA_in _ _ _⟩, HI.out.bel⟩
  · obtain ⟨-, hone⟩ := atom_one hchk (by omega)
    obtain ⟨ab, cb, hcf⟩ := cells_fn hc
    obtain ⟨b, off, rfl, -, hb, hcells⟩ := hcf (by omega)
    obtain ⟨g0, g1, g2, -⟩ := hcells 0 (by omega)
    simp only [Nat.zero_mul, Nat.add_zero] at g0 g1 g2
    have HE : Hid (iotaR x = if isC (cAt x.cells 0) = false then (zeroA, 5) else if 16384 < (cAt x.cells 0).2.1 then (zeroA, 12) else (numsA (upL (cAt x.cells 0).2.1.toNat), 0)) := by unfold iotaR Hid; rw [if_neg h0]
    have hs0 : x.shape.length = 0 := by omega
    rw [hs0, hone] at q0 q1 HI I ⊢
    have r0 := (I.bel.cell (p := ⟨b, off, none⟩) hb).trans g0
    have r1 := (I.bel.cell (p := ⟨b, off + 1, none⟩) hb).trans g1
    have r2 := (I.bel.cell (p := ⟨b, off + 2, none⟩) hb).trans g2
    have HCC := hide (isCount_any (cAt x.cells 0) (ab 0) (cAt x.cells 0).2.2.length (cb 0))
    clear hcells hcf hc R hx hchk g0 g1 g2
    generalize (cAt x.cells 0).2.2.length = nb at *
    generalize ab 0 = ab0 at *
    generalize cb 0 = cb0 at *
    generalize cAt x.cells 0 = c at *
    obtain ⟨W2, e2⟩ : ∃ W2, (w.alloc (.cells #[.slice a1 0 c1, .slice (some ⟨b, off, none⟩) 1 c2] 25)).alloc (.cells #[.slice none 0 0, .slice none 0 0] 25) = W2 := ⟨_, rfl⟩
    rw [e2] at HI I q0 q1 r0 r1 r2
    have hz2 : W2.heap.size = w.heap.size + 2 := by rw [← e2]; simp
    have i0 := cell_new0 W2 #[.int .i64 c.1, .int .i64 c.2.1, .slice ab0 nb cb0] 36 0 _ rfl
    have i1 := cell_new0 W2 #[.int .i64 c.1, .int .i64 c.2.1, .slice ab0 nb cb0] 36 1 _ rfl
    have i2 := cell_new0 W2 #[.int .i64 c.1, .int .i64 c.2.1, .slice ab0 nb cb0] 36 2 _ rfl
    obtain ⟨W3, e3⟩ : ∃ W3, W2.alloc (.cells #[.int .i64 c.1, .int .i64 c.2.1, .slice ab0 nb cb0] 36) = W3 := ⟨_, rfl⟩
    rw [e3, hz2] at i0 i1 i2
    have I3 : In2 w (.slice a1 0 c1) (.slice (some ⟨b, off, none⟩) 1 c2) W3 := by rw [← e3]; exact I.alloc _
    have z3 : W3.heap.size = w.heap.size + 3 := by rw [← e3]; simp [hz2]
    have HI3 := hide (And.intro I3 (And.intro i0 (And.intro i1 (And.intro i2 z3))))
    clear I I3 z3
    go_enter Try.func31, Try.ntmps31
    go_wp2_with fail
    clear e2 e3 r0 r1 r2 q0 q1 hz2 i0 i1 i2
    refine (HCC.out _).mono ?_
    rintro e w1 ⟨rfl, hb1⟩
    obtain ⟨I3, i0, i1, i2, z3⟩ := HI3.out
    have I4 := I3.next hb1
    have k1 : w1.cell? ⟨w.heap.size + 2, 1, none⟩ = some (.int .i64 c.2.1) := (hb1.cell (p := ⟨w.heap.size + 2, 1, none⟩) (by show w.heap.size + 2 < _; omega)).trans i1
    have p0 := I4.p0
    have p1 := I4.p1
    have f0 := I4.f0
    have f1 := I4.f1
    have zz : w.heap.size + 3 ≤ w1.heap.size := by have := hb1.size; omega
    clear HCC HI3 hb1 I3 i0 i1 i2 z3 HI
    have HI4 := hide I4
    clear I4
    by_cases hC : isC c = false
    · have e : iotaR x = (zeroA, 5) := by rw [HE.out, if_pos hC]
      have HE5 := hide e
      rw [hC]
      have HT := hide (HI4.out.put (.slice none 0 0) (.slice none 0 0))
      clear HE e
      go_wp2
      exact bodyPost_ret (v := .tuple #[.agg #[.slice none 0 0, .slice none 0 0], .int .i64 5]) (by simp [results, Try.results31, go_sem, HT.out.1, HT.out.2]) rfl (gives2_of HE5.out (zeroA_in _ _ _) (HI4.out.fin _ _))
    · have hC' : isC c = true := by simpa using hC
      have hN0 : 0 ≤ c.2.1 := by unfold isC at hC'; simp at hC'; exact hC'.2
      rw [hC']
      by_cases hbig : 16384 < c.2.1
      · have e : iotaR x = (zeroA, 12) := by rw [HE.out, if_neg hC, if_pos hbig]
        have HE5 := hide e
        have HT := hide (HI4.out.put (.slice none 0 0) (.slice none 0 0))
        clear HE e hC hC'
        go_wp2
        exact bodyPost_ret (v := .tuple #[.agg #[.slice none 0 0, .slice none 0 0], .int .i64 12]) (by simp [results, Try.results31, go_sem, HT.out.1, HT.out.2]) rfl (gives2_of HE5.out (zeroA_in _ _ _) (HI4.out.fin _ _))
      · have e : iotaR x = (numsA (upL c.2.1.toNat), 0) := by rw [HE.out, if_neg hC, if_neg hbig]
        have HE5 := hide e
        obtain ⟨m, hm⟩ : ∃ m : Nat, c.2.1 = (m : Int) := ⟨c.2.1.toNat, by omega⟩
        rw [hm] at k1 hbig hN0 HE5
        rw [Int.toNat_natCast] at HE5
        have mk := run_make_row' (P := Try.prog) 47 2 (.int .i64 0) 8 Try.underlying47 int2 rfl .i64 .i64 m (by omega) (by omega)
        have RM : Hid ((w1.alloc (.cells (madeCells #[.int .i64 0] m) 2)).rowIs w1.heap.size 2 m (toF (upL m) 0)) := (World.rowIs_made w1 (.int .i64 0) m 2).congr fun i hi => by unfold toF; rw [if_neg (by omega)]
        have BM := hide (HI4.out.alloc (.cells (madeCells #[.int .i64 0] m) 2))
        have LM := hide (one_alloc w1 (.cells (madeCells #[.int .i64 0] m) 2))
        obtain ⟨B, hB⟩ : ∃ B, w1.heap.size = B := ⟨_, rfl⟩
        have HZ := hide zz
        rw [hB] at HZ RM
        clear HE e hC hC' hm p0 p1 f0 f1 HI4
        go_wp2
        clear mk k1
        go_loopw [31] (fun i wr => ∃ j : Nat, j ≤ m ∧ i = .int .i64 (j : Int) ∧ In2 w (.slice a1 0 c1) (.slice (some ⟨b, off, none⟩) 1 c2) wr ∧ B < wr.heap.size ∧ wr.rowIs B 2 m (toF (upL m) j)) (fun i _ => m - (intOf i).toNat)
        case atStart => exact ⟨0, Nat.zero_le _, rfl, BM.out, by rw [← hB]; simp, RM.out⟩
        case round =>
          clear BM RM LM
          obtain ⟨j, hj, rfl, hnx, hBl, hr⟩ := hrel
          by_cases hlt : j < m
          · have z0 := hr.cell (i := j) hlt
            have y0 := hr.frozen j
            have HS : Hid ((wr.setCell ⟨B, j, none⟩ (.int .i64 (j : Int))).rowIs B 2 m (toF (upL m) (j + 1))) := (hr.set j (.int .i64 (j : Int))).congr (fun i _ => by rw [toF_step, upL_at m j hlt])
            have HB := hide (hnx.set (b := B) (i := j) (by have := HZ.out; omega) (.int .i64 (j : Int)))
            have HBl : Hid (B < (wr.setCell ⟨B, j, none⟩ (.int .i64 (j : Int))).heap.size) := by unfold Hid; simpa using hBl
            generalize toF (upL m) j j = y at *
            clear hr hnx
            go_wp2
            go_roundw
            case rel => exact ⟨j + 1, by omega, by go_num, HB.out, HBl.out, HS.out⟩
            case measure => simp [intOf]; omega
          · have hje : j = m := by omega
            subst hje
            have RR : Row B wr (some ⟨B, 0, none⟩) (upL j) := row_toF (by rw [upL_len]; exact hr) (Nat.le_refl _) (by rw [upL_len]; omega)
            have C := nums_any n (upL j) (some ⟨B, 0, none⟩) j wr RR (by rw [upL_len]; omega)
            rw [upL_len] at C
            have HN := hide hnx
            have hsz := hnx.size
            clear hr hnx RR
            go_wp2_with fail
            refine C.mono ?_
            rintro e w2 ⟨⟨v, rfl, hv⟩, hb2⟩
            obtain ⟨x1, k1, x2, k2, rfl, -, -⟩ := hv.form
            have I5 := HN.out.next hb2
            have p0 := I5.p0
            have p1 := I5.p1
            have f0 := I5.f0
            have f1 := I5.f1
            have HT := hide (I5.put (.slice x1 (numsA (upL j)).shape.length k1) (.slice x2 (numsA (upL j)).cells.length k2))
            have HF := hide (I5.give hv hsz)
            have HFI := hide I5.fin
            clear I5 hv hb2 C HN
            generalize (numsA (upL j)).shape.length = SA at *
            generalize (numsA (upL j)).cells.length = CA at *
            go_wp2
            exact bodyPost_ret (v := .tuple #[.agg #[.slice x1 SA k1, .slice x2 CA k2], .int .i64 0]) (by simp [results, Try.results31, go_sem, HT.out.1, HT.out.2]) rfl (gives2_of HE5.out (HF.out _ _) (HFI.out _ _))
end Go.Proofs.Ytmjncdhahdpplaa
