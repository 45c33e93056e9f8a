/-
  The contract of layer 5's upTo: the numbers below one.
  The contracts of layer 5's turned and flipped.
  The contract of the library's Insert of one number ahead of a row, and of layer 5's listed.
  The contracts of layer 5's listed, enclosed and disclosed.
  The contracts of layer 5's disclosed and first.
  The contract of layer 5's first: the first item, of an array whose slices are no longer than their rows.
  The contract of layer 5's Mo: any function of one argument that looks at shapes, of any array.
-/
import Derived.Test.YtmjncdhahdpplaaM2
import Derived.Laws.AppendOwn
import Derived.BigFrame
import Derived.Deep.RegionHeld3
import Derived.Deep.CutRange
namespace Go.Proofs.Ytmjncdhahdpplaa
open Go.ChangeShapes Go.WideShapes Go.ChangeAt Go.RowKit
set_option linter.unusedVariables false
set_option maxRecDepth 100000
theorem hadZero_nil (h : hasZero []) : False := by obtain ⟨z, hz, -⟩ := h; simp at hz
/-- An atom that may be has one cell. -/
theorem atom_one {r : Nat} {x : Ar} (h : chkA r x = 0) (h0 : x.shape.length = 0) : x.shape = [] ∧ x.cells.length = 1 := by
  have e : x.shape = [] := List.eq_nil_of_length_eq_zero h0
  obtain ⟨-, h1, h2⟩ := chk_axes h
  refine ⟨e, ?_⟩
  by_cases hc : x.cells.length = 0
  · have := h2 hc
    rw [e] at this
    exact (hadZero_nil this).elim
  · have := (h1 (by omega)).2
    rw [e] at this
    simp [prodL] at this
    omega
set_option maxHeartbeats 2000000 in
theorem upTo_any {n lo : Nat} {x : Ar} {va : Value} {w : World} (hx : ArIn (n + 1) lo w x va) (hchk : chkA 8 x = 0) : Calls Try.prog 31 #[va] w fun e w' => Gives2 (n + 1) w.heap.size (iotaR x).1 (iotaR x).2 w e w' := by
  obtain ⟨a1, c1, a2, c2, rfl, R, hc⟩ := hx.form
  have I := in2_new w (.slice a1 x.shape.length c1) (.slice a2 x.cells.length c2)
  have q0 := I.q0
  have q1 := I.q1
  have hl := R.1
  have HI := hide I
  by_cases h0 : 0 < x.shape.length
  · have e : iotaR x = (zeroA, 6) := by unfold iotaR; rw [if_pos h0]
    rw [e]
    clear R hc I hx hchk
    generalize x.shape.length = SA at *
    generalize x.cells.length = CA at *
    have h1 : (0 : Int) < (SA : Int) := by omega
    go_enter Try.func31, Try.ntmps31
    go_wp2
    exact bodyPost_ret (v := .tuple #[.agg #[.slice none 0 0, .slice none 0 0], .int .i64 6]) (by simp [results, Try.results31, go_sem]) rfl ⟨⟨_, rfl, zeroA_in _ _ _⟩, HI.out.bel⟩
  · obtain ⟨-, hone⟩ := atom_one hchk (by omega)
    obtain ⟨ab, cb, hcf⟩ := cells_fn hc
    obtain ⟨b, off, rfl, -, hb, hcells⟩ := hcf (by omega)
    obtain ⟨g0, g1, g2, -⟩ := hcells 0 (by omega)
    simp only [Nat.zero_mul, Nat.add_zero] at g0 g1 g2
    have HE : Hid (iotaR x = if isC (cAt x.cells 0) = false then (zeroA, 5) else if 16384 < (cAt x.cells 0).2.1 then (zeroA, 12) else (numsA (upL (cAt x.cells 0).2.1.toNat), 0)) := by unfold iotaR Hid; rw [if_neg h0]
    have hs0 : x.shape.length = 0 := by omega
    rw [hs0, hone] at q0 q1 HI I ⊢
    have r0 := (I.bel.cell (p := ⟨b, off, none⟩) hb).trans g0
    have r1 := (I.bel.cell (p := ⟨b, off + 1, none⟩) hb).trans g1
    have r2 := (I.bel.cell (p := ⟨b, off + 2, none⟩) hb).trans g2
    have HCC := hide (isCount_any (cAt x.cells 0) (ab 0) (cAt x.cells 0).2.2.length (cb 0))
    clear hcells hcf hc R hx hchk g0 g1 g2
    generalize (cAt x.cells 0).2.2.length = nb at *
    generalize ab 0 = ab0 at *
    generalize cb 0 = cb0 at *
    generalize cAt x.cells 0 = c at *
    obtain ⟨W2, e2⟩ : ∃ W2, (w.alloc (.cells #[.slice a1 0 c1, .slice (some ⟨b, off, none⟩) 1 c2] 25)).alloc (.cells #[.slice none 0 0, .slice none 0 0] 25) = W2 := ⟨_, rfl⟩
    rw [e2] at HI I q0 q1 r0 r1 r2
    have hz2 : W2.heap.size = w.heap.size + 2 := by rw [← e2]; simp
    have i0 := cell_new0 W2 #[.int .i64 c.1, .int .i64 c.2.1, .slice ab0 nb cb0] 36 0 _ rfl
    have i1 := cell_new0 W2 #[.int .i64 c.1, .int .i64 c.2.1, .slice ab0 nb cb0] 36 1 _ rfl
    have i2 := cell_new0 W2 #[.int .i64 c.1, .int .i64 c.2.1, .slice ab0 nb cb0] 36 2 _ rfl
    obtain ⟨W3, e3⟩ : ∃ W3, W2.alloc (.cells #[.int .i64 c.1, .int .i64 c.2.1, .slice ab0 nb cb0] 36) = W3 := ⟨_, rfl⟩
    rw [e3, hz2] at i0 i1 i2
    have I3 : In2 w (.slice a1 0 c1) (.slice (some ⟨b, off, none⟩) 1 c2) W3 := by rw [← e3]; exact I.alloc _
    have z3 : W3.heap.size = w.heap.size + 3 := by rw [← e3]; simp [hz2]
    have HI3 := hide (And.intro I3 (And.intro i0 (And.intro i1 (And.intro i2 z3))))
    clear I I3 z3
    go_enter Try.func31, Try.ntmps31
    go_wp2_with fail
    clear e2 e3 r0 r1 r2 q0 q1 hz2 i0 i1 i2
    refine (HCC.out _).mono ?_
    rintro e w1 ⟨rfl, hb1⟩
    obtain ⟨I3, i0, i1, i2, z3⟩ := HI3.out
    have I4 := I3.next hb1
    have k1 : w1.cell? ⟨w.heap.size + 2, 1, none⟩ = some (.int .i64 c.2.1) := (hb1.cell (p := ⟨w.heap.size + 2, 1, none⟩) (by show w.heap.size + 2 < _; omega)).trans i1
    have p0 := I4.p0
    have p1 := I4.p1
    have f0 := I4.f0
    have f1 := I4.f1
    have zz : w.heap.size + 3 ≤ w1.heap.size := by have := hb1.size; omega
    clear HCC HI3 hb1 I3 i0 i1 i2 z3 HI
    have HI4 := hide I4
    clear I4
    by_cases hC : isC c = false
    · have e : iotaR x = (zeroA, 5) := by rw [HE.out, if_pos hC]
      have HE5 := hide e
      rw [hC]
      have HT := hide (HI4.out.put (.slice none 0 0) (.slice none 0 0))
      clear HE e
      go_wp2
      exact bodyPost_ret (v := .tuple #[.agg #[.slice none 0 0, .slice none 0 0], .int .i64 5]) (by simp [results, Try.results31, go_sem, HT.out.1, HT.out.2]) rfl (gives2_of HE5.out (zeroA_in _ _ _) (HI4.out.fin _ _))
    · have hC' : isC c = true := by simpa using hC
      have hN0 : 0 ≤ c.2.1 := by unfold isC at hC'; simp at hC'; exact hC'.2
      rw [hC']
      by_cases hbig : 16384 < c.2.1
      · have e : iotaR x = (zeroA, 12) := by rw [HE.out, if_neg hC, if_pos hbig]
        have HE5 := hide e
        have HT := hide (HI4.out.put (.slice none 0 0) (.slice none 0 0))
        clear HE e hC hC'
        go_wp2
        exact bodyPost_ret (v := .tuple #[.agg #[.slice none 0 0, .slice none 0 0], .int .i64 12]) (by simp [results, Try.results31, go_sem, HT.out.1, HT.out.2]) rfl (gives2_of HE5.out (zeroA_in _ _ _) (HI4.out.fin _ _))
      · have e : iotaR x = (numsA (upL c.2.1.toNat), 0) := by rw [HE.out, if_neg hC, if_neg hbig]
        have HE5 := hide e
        obtain ⟨m, hm⟩ : ∃ m : Nat, c.2.1 = (m : Int) := ⟨c.2.1.toNat, by omega⟩
        rw [hm] at k1 hbig hN0 HE5
        rw [Int.toNat_natCast] at HE5
        have mk := run_make_row' (P := Try.prog) 47 2 (.int .i64 0) 8 Try.underlying47 int2 rfl .i64 .i64 m (by omega) (by omega)
        have RM : Hid ((w1.alloc (.cells (madeCells #[.int .i64 0] m) 2)).rowIs w1.heap.size 2 m (toF (upL m) 0)) := (World.rowIs_made w1 (.int .i64 0) m 2).congr fun i hi => by unfold toF; rw [if_neg (by omega)]
        have BM := hide (HI4.out.alloc (.cells (madeCells #[.int .i64 0] m) 2))
        have LM := hide (one_alloc w1 (.cells (madeCells #[.int .i64 0] m) 2))
        obtain ⟨B, hB⟩ : ∃ B, w1.heap.size = B := ⟨_, rfl⟩
        have HZ := hide zz
        rw [hB] at HZ RM
        clear HE e hC hC' hm p0 p1 f0 f1 HI4
        go_wp2
        clear mk k1
        go_loopw [31] (fun i wr => ∃ j : Nat, j ≤ m ∧ i = .int .i64 (j : Int) ∧ In2 w (.slice a1 0 c1) (.slice (some ⟨b, off, none⟩) 1 c2) wr ∧ B < wr.heap.size ∧ wr.rowIs B 2 m (toF (upL m) j)) (fun i _ => m - (intOf i).toNat)
        case atStart => exact ⟨0, Nat.zero_le _, rfl, BM.out, by rw [← hB]; simp, RM.out⟩
        case round =>
          clear BM RM LM
          obtain ⟨j, hj, rfl, hnx, hBl, hr⟩ := hrel
          by_cases hlt : j < m
          · have z0 := hr.cell (i := j) hlt
            have y0 := hr.frozen j
            have HS : Hid ((wr.setCell ⟨B, j, none⟩ (.int .i64 (j : Int))).rowIs B 2 m (toF (upL m) (j + 1))) := (hr.set j (.int .i64 (j : Int))).congr (fun i _ => by rw [toF_step, upL_at m j hlt])
            have HB := hide (hnx.set (b := B) (i := j) (by have := HZ.out; omega) (.int .i64 (j : Int)))
            have HBl : Hid (B < (wr.setCell ⟨B, j, none⟩ (.int .i64 (j : Int))).heap.size) := by unfold Hid; simpa using hBl
            generalize toF (upL m) j j = y at *
            clear hr hnx
            go_wp2
            go_roundw
            case rel => exact ⟨j + 1, by omega, by go_num, HB.out, HBl.out, HS.out⟩
            case measure => simp [intOf]; omega
          · have hje : j = m := by omega
            subst hje
            have RR : Row B wr (some ⟨B, 0, none⟩) (upL j) := row_toF (by rw [upL_len]; exact hr) (Nat.le_refl _) (by rw [upL_len]; omega)
            have C := nums_any n (upL j) (some ⟨B, 0, none⟩) j wr RR (by rw [upL_len]; omega)
            rw [upL_len] at C
            have HN := hide hnx
            have hsz := hnx.size
            clear hr hnx RR
            go_wp2_with fail
            refine C.mono ?_
            rintro e w2 ⟨⟨v, rfl, hv⟩, hb2⟩
            obtain ⟨x1, k1, x2, k2, rfl, -, -⟩ := hv.form
            have I5 := HN.out.next hb2
            have p0 := I5.p0
            have p1 := I5.p1
            have f0 := I5.f0
            have f1 := I5.f1
            have HT := hide (I5.put (.slice x1 (numsA (upL j)).shape.length k1) (.slice x2 (numsA (upL j)).cells.length k2))
            have HF := hide (I5.give hv hsz)
            have HFI := hide I5.fin
            clear I5 hv hb2 C HN
            generalize (numsA (upL j)).shape.length = SA at *
            generalize (numsA (upL j)).cells.length = CA at *
            go_wp2
            exact bodyPost_ret (v := .tuple #[.agg #[.slice x1 SA k1, .slice x2 CA k2], .int .i64 0]) (by simp [results, Try.results31, go_sem, HT.out.1, HT.out.2]) rfl (gives2_of HE5.out (HF.out _ _) (HFI.out _ _))
end Go.Proofs.Ytmjncdhahdpplaa
namespace Go.Proofs.Ytmjncdhahdpplaa
open Go.ChangeShapes Go.WideShapes Go.ChangeAt Go.RowKit
set_option linter.unusedVariables false
set_option maxRecDepth 100000
theorem leads_turn {r : Nat} {x : Ar} {k : Nat} {S : List Int} (h : chkA r x = 0) (hk : k < x.shape.length) (hS : (∀ z ∈ x.shape, 0 < z) → prodL x.shape ≤ 16384 → S = strL x.shape) :
    Leads x.shape x.cells.length (wrap64 (gI S k * (gI x.shape k - 1))) (S.set k (wrap64 (-gI S k))) ∧ gathL x.shape x.cells (wrap64 (gI S k * (gI x.shape k - 1))) (S.set k (wrap64 (-gI S k))) = mkCs x.cells.length fun i => cAt x.cells (place x.shape (turnL x.shape (digits x.shape i) k)).toNat := by
  obtain ⟨h1, h2, h3⟩ := chk_axes h
  obtain ⟨l8, c16⟩ := chk_len h
  by_cases h0 : 0 < x.cells.length
  · obtain ⟨g1, g2⟩ := h2 h0
    have e := hS g1 (by omega)
    subst e
    have b1 := strL_le g1 k hk
    have b2 := h1 (gI x.shape k) (getD_mem hk)
    have b3 := g1 (gI x.shape k) (getD_mem hk)
    have p0 := Int.mul_nonneg (show 0 ≤ gI (strL x.shape) k by omega) (show 0 ≤ gI x.shape k - 1 by omega)
    have p1 := Int.mul_le_mul_of_nonneg_right (show gI (strL x.shape) k ≤ 16384 by omega) (show 0 ≤ gI x.shape k - 1 by omega)
    have e1 : wrap64 (gI (strL x.shape) k * (gI x.shape k - 1)) = gI (strL x.shape) k * (gI x.shape k - 1) := wrapId' (by omega) (by omega)
    have e2 : wrap64 (-gI (strL x.shape) k) = -gI (strL x.shape) k := wrapId' (by omega) (by omega)
    rw [e1, e2]
    refine ⟨fun _ => ⟨g1, g2, fun j hj => ?_, fun A hA => ?_⟩, ?_⟩
    · rw [gI_set _ _ _ _ (by rw [strL_length]; exact hk)]
      by_cases hjk : j = k
      · rw [if_pos hjk]; omega
      · rw [if_neg hjk]
        have := strL_le g1 j hj
        omega
    · have hl := ((inAxes_gI _ _).1 hA).1
      rw [turn_place k hk hl]
      have := place_bound (turn_in k hk hA)
      omega
    · refine cs_ext (by simp [gathL, mkCs_len]) fun i hi => ?_
      simp only [gathL, mkCs_len] at hi
      unfold gathL
      rw [mkCs_at _ _ _ hi, mkCs_at _ _ _ hi, turn_place k hk (digits_length _ _)]
  · refine ⟨fun h => absurd h h0, cs_ext (by simp [gathL, mkCs_len]) fun i hi => ?_⟩
    simp only [gathL, mkCs_len] at hi
    omega
theorem leads_flip {r : Nat} {x : Ar} {S : List Int} (h : chkA r x = 0) (hS : (∀ z ∈ x.shape, 0 < z) → prodL x.shape ≤ 16384 → S = strL x.shape) (hl : S.length = x.shape.length) :
    Leads x.shape.reverse x.cells.length 0 S.reverse ∧ Ar.mk x.shape.reverse (gathL x.shape.reverse x.cells 0 S.reverse) = flipR x := by
  obtain ⟨h1, h2, h3⟩ := chk_axes h
  obtain ⟨l8, c16⟩ := chk_len h
  by_cases h0 : 0 < x.cells.length
  · obtain ⟨g1, g2⟩ := h2 h0
    have e := hS g1 (by omega)
    subst e
    refine ⟨fun _ => ⟨fun z hz => g1 z (by simpa using hz), by rw [prodL_rev]; exact g2, fun j hj => ?_, fun A hA => ?_⟩, ?_⟩
    · rw [List.length_reverse] at hj
      rw [gI_rev _ _ (by rw [strL_length]; exact hj), strL_length]
      have := strL_le g1 (x.shape.length - 1 - j) (by omega)
      omega
    · have hla := ((inAxes_gI _ _).1 hA).1
      rw [List.length_reverse] at hla
      rw [Int.zero_add, rev_place hla]
      have := place_bound (rev_in hA)
      omega
    · unfold flipR
      congr 1
      refine cs_ext (by simp [gathL, mkCs_len]) fun i hi => ?_
      simp only [gathL, mkCs_len] at hi
      unfold gathL
      rw [mkCs_at _ _ _ hi, mkCs_at _ _ _ hi, Int.zero_add, rev_place (by rw [digits_length, List.length_reverse])]
  · refine ⟨fun h => absurd h h0, ?_⟩
    unfold flipR
    congr 1
    refine cs_ext (by simp [gathL, mkCs_len]) fun i hi => ?_
    simp only [gathL, mkCs_len] at hi
    omega
set_option maxHeartbeats 4000000 in
theorem turned_any {n lo : Nat} {x : Ar} {va : Value} {w : World} (hx : ArIn (n + 1) lo w x va) (hchk : chkA 8 x = 0) (k : Nat) (kv : Int) (hk : 0 < x.shape.length → k < x.shape.length ∧ kv = (k : Int)) : Calls Try.prog 32 #[va, .int .i64 kv] w fun e w' => GivesA (n + 1) (revR x k) w e w' := by
  obtain ⟨a1, c1, a2, c2, rfl, R, hc⟩ := hx.form
  have I := in2_new w (.slice a1 x.shape.length c1) (.slice a2 x.cells.length c2)
  obtain ⟨W2, e2⟩ : ∃ W2, (w.alloc (.cells #[.slice a1 x.shape.length c1, .slice a2 x.cells.length c2] 25)).alloc (.cells #[.slice none 0 0, .slice none 0 0] 25) = W2 := ⟨_, rfl⟩
  have hz2 : W2.heap.size = w.heap.size + 2 := by rw [← e2]; simp
  rw [e2] at I
  have q0 := I.q0
  have q1 := I.q1
  have hl := R.1
  have HI := hide I
  obtain ⟨l8, c16⟩ := chk_len hchk
  by_cases h0 : x.shape.length = 0
  · have HE : Hid (revR x k = x) := by unfold revR Hid; rw [if_pos h0]
    have C := copyA hchk (hx.next I.bel)
    rw [h0] at q0 HI I C e2 ⊢
    clear R hc I hx hchk hk
    generalize x.cells.length = CA at *
    go_enter Try.func32, Try.ntmps32
    go_wp2_with fail
    clear e2 q0 q1
    refine C.mono ?_
    rintro e w1 ⟨⟨v, rfl, hv⟩, hb1⟩
    obtain ⟨x1, k1, x2, k2, rfl, -, -⟩ := hv.form
    have I1 := HI.out.next hb1
    have p0 := I1.p0
    have p1 := I1.p1
    have f0 := I1.f0
    have f1 := I1.f1
    have HT := hide (I1.put (.slice x1 x.shape.length k1) (.slice x2 x.cells.length k2))
    have HF := hide (I1.give hv (by omega))
    have HFI := hide I1.fin
    clear I1 hv hb1 C HI hz2 h0
    generalize x.shape.length = SA at *
    generalize x.cells.length = CA at *
    go_wp2
    exact bodyPost_ret (v := .agg #[.slice x1 SA k1, .slice x2 CA k2]) (by simp [results, Try.results32, go_sem, HT.out.1, HT.out.2]) rfl ⟨⟨_, rfl, by rw [HE.out]; exact HF.out _ _⟩, HFI.out _ _⟩
  · obtain ⟨hks, rfl⟩ := hk (by omega)
    have HE : Hid (revR x k = .mk x.shape (mkCs x.cells.length fun i => cAt x.cells (place x.shape (turnL x.shape (digits x.shape i) k)).toNat)) := by unfold revR Hid; rw [if_neg h0]
    have CS := strides_any x.shape a1 c1 W2 (R.next I.bel) l8
    obtain ⟨b, off, rfl, hb, hcell⟩ := row_at R hks
    have HX := hide hx
    have HCH := hide hchk
    have HCL : Hid (w.cell? ⟨b, off + k, none⟩ = some (.int .i64 (gI x.shape k)) ∧ b < w.heap.size ∧ 0 ≤ gI x.shape k ∧ gI x.shape k ≤ 16384) := ⟨hcell, hb, (chk_axes hchk).1 _ (getD_mem hks)⟩
    clear R hc I hx hchk hk hcell hb
    go_enter Try.func32, Try.ntmps32
    go_wp2_with fail
    clear e2 q0 q1
    refine CS.mono ?_
    rintro e w1 ⟨S, hS, hSe, rfl, hSo, hb1⟩
    rw [hz2] at hSo hb1 ⊢
    have I1 := HI.out.belowS hb1 (by omega)
    have q0 := I1.q0
    have q1 := I1.q1
    obtain ⟨g0, g1, g2, g3⟩ := HCL.out
    have r0 := (I1.bel.cell (p := ⟨b, off + k, none⟩) g1).trans g0
    have s0 := World.rowIs.cell (i := k) hSo (by omega)
    have sf := World.rowIs.frozen hSo k
    have HSE := hide (And.intro hS (And.intro hSe hSo))
    have HI1 := hide I1
    obtain ⟨la, hla⟩ : ∃ la, gI x.shape k = la := ⟨_, rfl⟩
    obtain ⟨si, hsi⟩ : ∃ si, gI S k = si := ⟨_, rfl⟩
    rw [hla] at r0 g2 g3
    rw [hsi] at s0
    have HLA := hide (And.intro hla hsi)
    obtain ⟨SA, hSA⟩ : ∃ SA, x.shape.length = SA := ⟨_, rfl⟩
    obtain ⟨CA, hCA⟩ : ∃ CA, x.cells.length = CA := ⟨_, rfl⟩
    have HSC := hide (And.intro hSA hCA)
    clear hla hsi CS hS hSe hSo hb1 I1 g0 g1 HCL
    rw [hSA] at q0 hks HI1 l8 h0 hl ⊢
    rw [hCA] at q1 HI1 c16 ⊢
    clear hSA hCA HI
    go_wp2
    go_region
    all_goals
      go_wp2_with fail
      have I2 := (HI1.out.set (b := w.heap.size + 2) (i := k) (Nat.le_refl _) (.int .i64 (wrap64 (-si)))).drew
      have SO : Soft (w1.setCell ⟨w.heap.size + 2, k, none⟩ (.int .i64 (wrap64 (-si)))).drew (w.heap.size + 2) (S.set k (wrap64 (-si))) := HSE.out.2.2.set k _
      have C2 := copyA HCH.out (HX.out.next I2.bel)
      rw [HSC.out.1, HSC.out.2] at C2
      have HI2 := hide I2
      have HSO := hide SO
      clear HI1 q0 q1 r0 s0 sf I2 SO HX
      refine C2.mono ?_
      rintro e w2 ⟨⟨v, rfl, hv⟩, hb2⟩
      obtain ⟨y1, m1, y2, m2, rfl, -, -⟩ := hv.form
      have I3 := HI2.out.next hb2
      have L := leads_turn HCH.out (k := k) (by rw [HSC.out.1]; exact hks) HSE.out.2.1
      rw [HLA.out.1, HLA.out.2] at L
      have C3 := gather_any n _ x.shape x.cells y1 y2 (some ⟨w.heap.size + 2, 0, none⟩) m1 m2 SA (wrap64 (si * (la - 1))) (S.set k (wrap64 (-si))) w2 (by rw [Ar.eta]; exact hv) hb2.size (by rw [HSC.out.1]; exact l8) (by rw [HSC.out.2]; exact c16) ⟨0, (HSO.out.below hb2).row (Nat.zero_le _) (by rw [List.length_set, HSE.out.1, HSC.out.1]; omega)⟩ (by rw [List.length_set]; exact HSE.out.1) L.1
      rw [L.2] at C3
      have HL : Hid (w.heap.size + 2 ≤ (w1.setCell ⟨w.heap.size + 2, k, none⟩ (.int .i64 (wrap64 (-si)))).drew.heap.size) := HI2.out.size
      rw [HSC.out.1, HSC.out.2] at C3
      have HI3 := hide I3
      have HCC := hide C3
      rw [HSC.out.1, HSC.out.2]
      clear C3 C2 L I3 hv hb2 HI2 HSO HSE
      go_wp2_with fail
      refine HCC.out.mono ?_
      rintro e w3 ⟨⟨v, rfl, hv⟩, hb3⟩
      obtain ⟨z1, n1, z2, n2, rfl, -, -⟩ := hv.form
      have I4 := HI3.out.next hb3
      have p0 := I4.p0
      have p1 := I4.p1
      have f0 := I4.f0
      have f1 := I4.f1
      rw [← HSC.out.2, ← HE.out] at hv
      have ee : (Ar.mk x.shape (mkCs CA fun i => cAt x.cells (place x.shape (turnL x.shape (digits x.shape i) k)).toNat)) = revR x k := by rw [HE.out, HSC.out.2]
      rw [ee]
      have HT := hide (I4.put (.slice z1 (revR x k).shape.length n1) (.slice z2 (revR x k).cells.length n2))
      have HF := hide (I4.give hv HL.out)
      have HFI := hide I4.fin
      clear I4 hv hb3 HCC HI3 ee
      generalize (revR x k).shape.length = SB at *
      generalize (revR x k).cells.length = CB at *
      go_wp2
      exact bodyPost_ret (v := .agg #[.slice z1 SB n1, .slice z2 CB n2]) (by simp [results, Try.results32, go_sem, HT.out.1, HT.out.2]) rfl ⟨⟨_, rfl, HF.out _ _⟩, HFI.out _ _⟩
set_option maxHeartbeats 4000000 in
theorem flipped_any {n lo : Nat} {x : Ar} {va : Value} {w : World} (hx : ArIn (n + 1) lo w x va) (hchk : chkA 8 x = 0) : Calls Try.prog 33 #[va] w fun e w' => GivesA (n + 1) (flipR x) w e w' := by
  obtain ⟨a1, c1, a2, c2, rfl, R, hc⟩ := hx.form
  have I := in2_new w (.slice a1 x.shape.length c1) (.slice a2 x.cells.length c2)
  obtain ⟨W2, e2⟩ : ∃ W2, (w.alloc (.cells #[.slice a1 x.shape.length c1, .slice a2 x.cells.length c2] 25)).alloc (.cells #[.slice none 0 0, .slice none 0 0] 25) = W2 := ⟨_, rfl⟩
  have hz2 : W2.heap.size = w.heap.size + 2 := by rw [← e2]; simp
  rw [e2] at I
  have q0 := I.q0
  have hl := R.1
  have HI := hide I
  obtain ⟨l8, c16⟩ := chk_len hchk
  have CS := strides_any x.shape a1 c1 W2 (R.next I.bel) l8
  have HX := hide hx
  have HCH := hide hchk
  clear R hc I hx hchk
  go_enter Try.func33, Try.ntmps33
  go_wp2_with fail
  clear e2 q0
  refine CS.mono ?_
  rintro e w1 ⟨S, hS, hSe, rfl, hSo, hb1⟩
  rw [hz2] at hSo hb1 ⊢
  have I1 := HI.out.belowS hb1 (by omega)
  have CR := reverse_any S (w.heap.size + 2) x.shape.length w1 hSo.cells (by omega)
  rw [hS] at CR
  have HSE := hide (And.intro hS hSe)
  have HI1 := hide I1
  have HSL := hide hSo.lt
  clear CS hS hSe hSo hb1 I1 HI hz2
  go_wp2_with fail
  refine CR.mono ?_
  rintro e w2 ⟨rfl, hS2, h2⟩
  have I2 := HI1.out.belowS (h2.belowB (B := w.heap.size + 2) (Nat.le_refl _) (Nat.le_refl _)) (Nat.le_refl _)
  have q0 := I2.q0
  have q1 := I2.q1
  have CC := copy_at n 8 x lo _ w2 HCH.out (HX.out.next I2.bel)
  have HI2 := hide I2
  have HS2 := hide (And.intro hS2 (show w.heap.size + 2 < w2.heap.size by rw [h2.size]; exact HSL.out))
  clear CR hS2 h2 I2 HI1 HSL HX
  go_wp2_with fail
  refine CC.mono ?_
  rintro e w3 ⟨⟨v, rfl, -, bs, bc, rfl, hbs0, hbs1, hrow, hcs⟩, hb3⟩
  have I3 := HI2.out.next hb3.b
  have HI3 := hide I3
  obtain ⟨SA, hSA⟩ : ∃ SA, x.shape.length = SA := ⟨_, rfl⟩
  obtain ⟨CA, hCA⟩ : ∃ CA, x.cells.length = CA := ⟨_, rfl⟩
  have HSC := hide (And.intro hSA hCA)
  have SO4 : SoftC (w3.alloc (.cells #[.slice (some ⟨bs, 0, none⟩) SA SA, .slice (some ⟨bc, 0, none⟩) CA CA] 25)) bs x.shape := fun i hi => ⟨((one_alloc _ _).cell (p := ⟨bs, i, none⟩) hbs1).trans (hrow i hi), ((one_alloc _ _).frozen (p := ⟨bs, i, none⟩) hbs1).trans (hb3.z.2.2 ⟨bs, i, none⟩ hbs0)⟩
  have CR2 := reverse_any x.shape bs SA _ SO4 l8
  rw [hSA] at CR2
  have HS3 : Hid (SoftC w3 (w.heap.size + 2) S.reverse) := fun i hi => by
    obtain ⟨g1, g2⟩ := HS2.out.1 i hi
    exact ⟨(hb3.cell (p := ⟨w.heap.size + 2, i, none⟩) HS2.out.2).trans g1, (hb3.frozen (p := ⟨w.heap.size + 2, i, none⟩) HS2.out.2).trans g2⟩
  have HCS := hide hcs
  have HBS : Hid (w2.heap.size ≤ bs ∧ bs < w3.heap.size ∧ w.heap.size + 2 < w2.heap.size) := ⟨hbs0, hbs1, HS2.out.2⟩
  rw [hSA, hCA]
  clear CC I3 hrow hcs hb3 SO4 hbs0 hbs1 HI2 HS2 q0 q1 hSA hCA
  go_wp2_with fail
  refine CR2.mono ?_
  rintro e w5 ⟨rfl, hS5, h5⟩
  obtain ⟨g0, g1, g2⟩ := HBS.out
  have hs4 : (w3.alloc (.cells #[.slice (some ⟨bs, 0, none⟩) SA SA, .slice (some ⟨bc, 0, none⟩) CA CA] 25)).heap.size = w3.heap.size + 1 := by simp
  have hs5 : w5.heap.size = w3.heap.size + 1 := by rw [h5.size, hs4]
  have B35 : Below w2.heap.size w3 w5 := ((one_alloc w3 _).mono (show w2.heap.size ≤ w3.heap.size by omega)).trans (h5.belowB g0 g0)
  have I5 := HI3.out.belowS B35 (by omega)
  have t0 := h5.cell (b := w3.heap.size) (by omega) (by omega) (cell_new0 w3 #[.slice (some ⟨bs, 0, none⟩) SA SA, .slice (some ⟨bc, 0, none⟩) CA CA] 25 0 _ rfl)
  have t1 := h5.cell (b := w3.heap.size) (by omega) (by omega) (cell_new0 w3 #[.slice (some ⟨bs, 0, none⟩) SA SA, .slice (some ⟨bc, 0, none⟩) CA CA] 25 1 _ rfl)
  have hcs5 := HCS.out w5 (by omega) fun k h1 h2 => (h5.keep k h2 h2).trans ((one_alloc w3 _).block k h1)
  have hS5' : SoftC w5 (w.heap.size + 2) S.reverse := fun i hi => by
    obtain ⟨g1, g2⟩ := HS3.out i hi
    exact ⟨(B35.cell (p := ⟨w.heap.size + 2, i, none⟩) (by show w.heap.size + 2 < _; omega)).trans g1, (B35.frozen (p := ⟨w.heap.size + 2, i, none⟩) (by show w.heap.size + 2 < _; omega)).trans g2⟩
  have L := leads_flip HCH.out HSE.out.2 HSE.out.1
  have hA5 : ArIn (n + 1) w2.heap.size w5 (.mk x.shape.reverse x.cells) (.agg #[.slice (some ⟨bs, 0, none⟩) x.shape.reverse.length SA, .slice (some ⟨bc, 0, none⟩) x.cells.length CA]) :=
    arIn_mk (x := .mk x.shape.reverse x.cells) (hS5.row (by omega) g0 (by rw [List.length_reverse]; omega)) (by show x.cells.length ≤ _; omega) hcs5 rfl rfl
  have CG := gather_any n w2.heap.size x.shape.reverse x.cells (some ⟨bs, 0, none⟩) (some ⟨bc, 0, none⟩) (some ⟨w.heap.size + 2, 0, none⟩) SA CA SA 0 S.reverse w5 hA5 (by omega) (by rw [List.length_reverse]; omega) c16 ⟨0, hS5'.row (by omega) (Nat.zero_le _) (by rw [List.length_reverse, HSE.out.1]; omega)⟩ (by rw [List.length_reverse, List.length_reverse]; exact HSE.out.1) L.1
  rw [List.length_reverse, HSC.out.1, HSC.out.2, L.2] at CG
  have HI5 := hide I5
  have HCG := hide CG
  have HLO : Hid (w.heap.size + 2 ≤ w2.heap.size) := by unfold Hid; omega
  rw [HSC.out.1] at l8 hl
  rw [HSC.out.2] at c16
  clear CG L hA5 hS5 hS5' hcs5 I5 B35 h5 hs4 hs5 g0 g1 g2 HBS HCS HS3 CR2 HI3 HSE
  go_wp2_with fail
  refine HCG.out.mono ?_
  rintro e w6 ⟨⟨v, rfl, hv⟩, hb6⟩
  obtain ⟨z1, n1, z2, n2, rfl, -, -⟩ := hv.form
  have I6 := HI5.out.next hb6
  have p0 := I6.p0
  have p1 := I6.p1
  have f0 := I6.f0
  have f1 := I6.f1
  have HT := hide (I6.put (.slice z1 (flipR x).shape.length n1) (.slice z2 (flipR x).cells.length n2))
  have HF := hide (I6.give hv HLO.out)
  have HFI := hide I6.fin
  clear I6 hv hb6 HCG HI5 t0 t1
  generalize (flipR x).shape.length = SB at *
  generalize (flipR x).cells.length = CB at *
  go_wp2
  exact bodyPost_ret (v := .agg #[.slice z1 SB n1, .slice z2 CB n2]) (by simp [results, Try.results33, go_sem, HT.out.1, HT.out.2]) rfl ⟨⟨_, rfl, HF.out _ _⟩, HFI.out _ _⟩
end Go.Proofs.Ytmjncdhahdpplaa
namespace Go.Proofs.Ytmjncdhahdpplaa
open Go.ChangeShapes Go.WideShapes Go.ChangeAt Go.RowKit
set_option linter.unusedVariables false
set_option maxRecDepth 100000
theorem infoI3 : ∃ i, Try.prog.info? 3 = some i ∧ i.zero = some (.int .i64 0) ∧ i.size = 1 ∧ i.bytes = 8 := by
  obtain ⟨i, hi, hzz⟩ := Option.map_eq_some_iff.1 int3
  simp only [Prod.mk.injEq] at hzz
  exact ⟨i, hi, hzz.1, hzz.2.1, hzz.2.2⟩
theorem under3 : Try.prog.underlying 3 = some (.int .i64) := by kernel_rfl
theorem wpList_append_run {P : Program} {w : World} {ops : Array Oper} {rest : List Oper} {o : Oper} {a : Act} {Q : Exit → Act → World → Prop} (hw : Region.wanted o (yielded ops a.tmps) = true) (s x : Operand) (t u : TypeId)
    (ho : o.op = .call { callee := .builtin .append, args := #[s, x], argTypes := #[t, u] }) (v1 v2 : Value) (hs : a.eval s = v1) (hx : a.eval x = v2) (v' : Value) (w' : World)
    (hrun : (Builtin.append_ #[t, u] o.type #[v1, v2]).run P w = .ok v' w') (h : wpList P ops Q rest (a.put o.dst v') w') : wpList P ops Q (o :: rest) a w := by
  refine BigFrame.wpList_want hw fun K hK => ?_
  unfold Oper.wp
  simp only [execOp, ho, resolve, invoke, builtin, Sem.run_bind, Sem.run_pure, Result.andThen_ok, List.map_toArray, List.map_cons, List.map_nil, hs, hx, hrun]
  exact hK _ _ h
/-- Noughts behind an empty part of a row that has no room for them: a new row. -/
theorem run_append_zeros (w : World) (b : Addr) (L : Nat) (hL : L ≤ 8) (h0 : 0 < L) : ∃ gc cs, (∀ ty, (Builtin.append_ #[22, 3] ty #[.slice (some b) 0 L, .int .i64 ((L : Int) + 1)]).run Try.prog w = .ok (.slice (some ⟨w.heap.size, 0, none⟩) (L + 1) gc) (w.drew.alloc (.cells cs 3))) ∧ L + 1 ≤ gc ∧ cs.size = gc ∧ ∀ i, i < gc → cs[i]? = some (.int .i64 0) := by
  obtain ⟨i, hi, hz, hs, hb⟩ := infoI3
  have hg := grownCap_ge w (L + 1) L 3
  refine ⟨grownCap w (L + 1) L 3, Builtin.zeroCells #[.int .i64 0] (L + 1) ++ Builtin.zeroCells #[.int .i64 0] (grownCap w (L + 1) L 3 - (L + 1)), ?_, hg, ?_, ?_⟩
  · intro ty
    have hn : ¬ ((L : Int) + 1 ≤ (L : Int)) := by omega
    have hw : IntKind.i64.wrap ((L : Int) + 1) = (L : Int) + 1 := IntWalk.i64_in _ ⟨by omega, by omega⟩
    have h1 : ¬ ((L : Int) + 1 < 0) := by omega
    have h2 : ¬ (281474976710656 < ((L : Int) + 1) * 8) := by omega
    have h3 : ((L : Int) + 1).toNat = L + 1 := by omega
    have h4 : ¬ (9223372036854775807 < max ((L : Int) + 1) 0) := by omega
    have h5 := growslice_fits (need := L + 1) (old := L) (bytes := 8) (by omega) (by omega)
    have h48 : ¬ (281474976710656 < Builtin.nextslicecap (L + 1) L * 8) := by omega
    simp [Builtin.append_, run_underlying Try.underlying22, run_underlying under3, sizeOf, typeInfo, zeroValue, hi, hz, hs, hb, Builtin.lenOf, hn, hw, h1, h2, h3, h4, h48, Question.forced, newRow, grownCap, asInt, asIntOf, Builtin.firstCells, loadCells, loadCellsFrom]
    rfl
  · rw [Array.size_append, size_zeroCells, size_zeroCells]
    simp
    omega
  · intro i hi
    rw [Array.getElem?_append, size_zeroCells]
    simp only [List.size_toArray, List.length_cons, List.length_nil, Nat.zero_add, Nat.mul_one]
    by_cases h : i < L + 1
    · rw [if_pos h]; simp [Builtin.zeroCells, h, Nat.mod_one]
    · have hh : i - (L + 1) < grownCap w (L + 1) L 3 - (L + 1) := by omega
      rw [if_neg h]; simp [Builtin.zeroCells, Nat.mod_one, hh]
theorem setCells_cell (b : Nat) (vs : List Value) : ∀ (o : Nat) (w : World) (i : Nat) (v : Value), i < vs.length → vs[i]? = some v → (∀ j, j < vs.length → (w.cell? ⟨b, o + j, none⟩).isSome = true) → (w.setCells b o vs).cell? ⟨b, o + i, none⟩ = some v := by
  induction vs with
  | nil => intro o w i v hi; simp at hi
  | cons u us ih =>
    intro o w i v hi hv hc
    have hc' : ∀ j, j < us.length → ((w.setCell ⟨b, o, none⟩ u).cell? ⟨b, o + 1 + j, none⟩).isSome = true := fun j hj => by
      rw [World.cell?_setCell_other _ _ _ _ (by simp)]
      have := hc (j + 1) (by simp; omega)
      rw [show o + (j + 1) = o + 1 + j by omega] at this
      exact this
    cases i with
    | zero =>
      simp only [List.getElem?_cons_zero, Option.some.injEq] at hv
      subst hv
      show ((w.setCell ⟨b, o, none⟩ u).setCells b (o + 1) us).cell? ⟨b, o, none⟩ = some u
      have hk : ∀ (vs : List Value) (o' : Nat) (w : World), o < o' → (w.setCells b o' vs).cell? ⟨b, o, none⟩ = w.cell? ⟨b, o, none⟩ := by
        intro vs
        induction vs with
        | nil => intro o' w h; rfl
        | cons x xs ih2 =>
          intro o' w h
          show ((w.setCell ⟨b, o', none⟩ x).setCells b (o' + 1) xs).cell? ⟨b, o, none⟩ = _
          rw [ih2 (o' + 1) _ (by omega), World.cell?_setCell_other _ _ _ _ (by simp)]
      rw [hk us (o + 1) _ (by omega)]
      exact World.cell?_setCell_same' _ _ _ (by simpa using hc 0 (by simp))
    | succ i =>
      show ((w.setCell ⟨b, o, none⟩ u).setCells b (o + 1) us).cell? ⟨b, o + (i + 1), none⟩ = some v
      rw [show o + (i + 1) = o + 1 + i by omega]
      exact ih (o + 1) _ i v (by simpa using hi) (by simpa using hv) hc'
set_option maxHeartbeats 2000000 in
theorem insert_any (l : List Int) (bs V : Nat) (w : World) (hl : l.length ≤ 8) (hrow : ∀ i, i < l.length → w.cell? ⟨bs, i, none⟩ = some (.int .i64 (gI l i))) (hV : w.cell? ⟨V, 0, none⟩ = some (.int .i64 1)) (hVl : V < w.heap.size) (hbs : bs < w.heap.size) :
    Calls Try.prog 66 #[.slice (some ⟨bs, 0, none⟩) l.length l.length, .int .i64 0, .slice (some ⟨V, 0, none⟩) 1 1] w fun e w' => (∃ a cap, e = .returned (.slice a (l.length + 1) cap) ∧ Row w.heap.size w' a (1 :: l)) ∧ Below w.heap.size w w' := by
  obtain ⟨i0, hi, hz, hs, hb⟩ := infoI3
  have addOff : ∀ (b o j : Nat), (⟨b, o, none⟩ : Addr).add j = ⟨b, o + j, none⟩ := add_off
  by_cases h0 : l.length = 0
  · have e : l = [] := List.eq_nil_of_length_eq_zero h0
    subst e
    have hr := fun ty => run_append_grow (P := Try.prog) w 22 ty 3 i0 (.int .i64 0) Try.underlying22 hi hz ⟨bs, 0, none⟩ 0 0 [] (by simp) (by simp) ⟨V, 0, none⟩ 1 1 [.int .i64 1] (by rw [hs]; rfl) (by
      intro j v hv
      cases j with
      | zero => simp at hv; subst hv; rw [addOff]; exact hV
      | succ j => simp at hv) (by omega) (by omega) (growslice_fits (by omega) (by rw [hb]; omega))
    have hc : (w.drew.alloc (.cells (([] : List Value).toArray ++ [Value.int .i64 1].toArray ++ Builtin.zeroCells (Value.int .i64 0).cells (grownCap w (0 + 1) 0 3 - (0 + 1))) 3)).cell? ⟨w.heap.size, 0, none⟩ = some (.int .i64 1) := cell_new0 w.drew _ 3 0 _ (by simp [Array.getElem?_append])
    have HC : Hid (∀ gc, (∃ a cap, Ending.returned (.slice (some ⟨w.heap.size, 0, none⟩) 1 gc) = .returned (.slice a (([] : List Int).length + 1) cap) ∧ Row w.heap.size (w.drew.alloc (.cells (([] : List Value).toArray ++ [Value.int .i64 1].toArray ++ Builtin.zeroCells (Value.int .i64 0).cells (grownCap w (0 + 1) 0 3 - (0 + 1))) 3)) a (1 :: [])) ∧ Below w.heap.size w (w.drew.alloc (.cells (([] : List Value).toArray ++ [Value.int .i64 1].toArray ++ Builtin.zeroCells (Value.int .i64 0).cells (grownCap w (0 + 1) 0 3 - (0 + 1))) 3))) := fun gc => ⟨⟨_, _, rfl, row_one (by simp) (Nat.le_refl _) hc⟩, ((Below.refl _ _).drew).alloc (Nat.le_refl _) _⟩
    simp only [List.length_nil]
    go_enter Try.func66, Try.ntmps66
    go_wp2
    go_ret
    exact HC.out _
  · obtain ⟨gc, cs, hrun, hgc, hcs, hz0⟩ := run_append_zeros w ⟨bs, 0, none⟩ l.length hl (by omega)
    obtain ⟨WA, eA⟩ : ∃ WA, w.drew.alloc (.cells cs 3) = WA := ⟨_, rfl⟩
    rw [eA] at hrun
    have BA : Below w.heap.size w WA := by rw [← eA]; exact ((Below.refl _ _).drew).alloc (Nat.le_refl _) _
    have sA : WA.heap.size = w.heap.size + 1 := by rw [← eA]; simp
    have cA : ∀ j, j < gc → WA.cell? ⟨w.heap.size, j, none⟩ = some (.int .i64 0) := fun j hj => by rw [← eA]; exact cell_new0 w.drew cs 3 j _ (hz0 j hj)
    have fA : ∀ j, WA.frozen? ⟨w.heap.size, j, none⟩ = false := fun j => by rw [← eA]; exact frozen_new w.drew cs 3 j
    have size3' : (Try.prog.info? 3).map (·.size) = some 1 := size3
    have hc1 := fun ty => run_copy_cells (P := Try.prog) WA 22 22 ty 3 w.heap.size 0 (l.length + 1) gc ⟨V, 0, none⟩ 1 1 [.int .i64 1] Try.underlying22 size3' (by simp) (by
      intro j v hv
      cases j with
      | zero => simp at hv; subst hv; rw [addOff]; exact (BA.cell (p := ⟨V, 0 + 0, none⟩) hVl).trans hV
      | succ j => simp at hv) (by intro j hj; simp at hj; subst hj; rw [cA _ (by omega)]; rfl) (by intro j hj; exact fA _) (by intro v hv; simp at hv; subst hv; rfl)
    obtain ⟨WB, eB⟩ : ∃ WB, WA.setCells w.heap.size 0 [.int .i64 1] = WB := ⟨_, rfl⟩
    rw [eB] at hc1
    have BB : Below w.heap.size WA WB := by rw [← eB]; exact (below_setCells w.heap.size (Nat.le_refl _) _ 0 _ (BelowS.refl _ _)).b
    have sB : WB.heap.size = w.heap.size + 1 := by rw [← eB, (setCells_block _ _ _ _).1, sA]
    have cB : ∀ j, j < gc → WB.cell? ⟨w.heap.size, j, none⟩ = some (.int .i64 (if j = 0 then 1 else 0)) := fun j hj => by
      rw [← eB]
      show (WA.setCell ⟨w.heap.size, 0, none⟩ (.int .i64 1)).cell? _ = _
      by_cases hj0 : j = 0
      · subst hj0; rw [if_pos rfl]; exact World.cell?_setCell_same' _ _ _ (by rw [cA 0 hj]; rfl)
      · rw [if_neg hj0, World.cell?_setCell_other _ _ _ _ (by simp)]; exact cA j hj
    have fB : ∀ j, WB.frozen? ⟨w.heap.size, j, none⟩ = false := fun j => by
      rw [← eB]
      show (WA.setCell ⟨w.heap.size, 0, none⟩ (.int .i64 1)).frozen? _ = _
      simpa using fA j
    have hml : (l.map (Value.int .i64)).length = l.length := by simp
    have hmv : ∀ j v, (l.map (Value.int .i64))[j]? = some v → j < l.length ∧ v = .int .i64 (gI l j) := by
      intro j v hv
      have hj : j < l.length := by
        rcases Nat.lt_or_ge j l.length with h' | h'
        · exact h'
        · simp [List.getElem?_eq_none h'] at hv
      refine ⟨hj, ?_⟩
      simp [hj] at hv
      simp [gI, hj, ← hv]
    have hc2 := fun ty => run_copy_cells (P := Try.prog) WB.drew 22 22 ty 3 w.heap.size 1 l.length (gc - 1) ⟨bs, 0, none⟩ l.length l.length (l.map (Value.int .i64)) Try.underlying22 size3' (by simp) (by
      intro j v hv
      obtain ⟨hj, rfl⟩ := hmv j v hv
      rw [addOff, Nat.zero_add]
      exact ((BA.trans BB).cell (p := ⟨bs, j, none⟩) hbs).trans (hrow j hj)) (by intro j hj; rw [hml] at hj; have := cB (1 + j) (by omega); show (WB.cell? _).isSome = true; rw [this]; rfl) (by intro j hj; exact fB _) (by intro v hv; obtain ⟨z, _, rfl⟩ := List.mem_map.1 hv; rfl)
    rw [hml] at hc2
    have FIN : Hid (∀ W, W = (WB.drew.setCells w.heap.size 1 (l.map (Value.int .i64))) → Row w.heap.size W (some ⟨w.heap.size, 0, none⟩) (1 :: l) ∧ Below w.heap.size w W) := by
      rintro W rfl
      refine ⟨⟨by simp; omega, Or.inr ⟨w.heap.size, 0, rfl, Nat.le_refl _, by rw [(setCells_block _ _ _ _).1]; show _ < WB.heap.size; omega, fun i hi => ?_⟩⟩, ?_⟩
      · rw [Nat.zero_add]
        cases i with
        | zero =>
          have hk : ∀ (vs : List Value) (o' : Nat) (w' : World), 0 < o' → (w'.setCells w.heap.size o' vs).cell? ⟨w.heap.size, 0, none⟩ = w'.cell? ⟨w.heap.size, 0, none⟩ := by
            intro vs
            induction vs with
            | nil => intro o' w' h; rfl
            | cons x xs ih2 =>
              intro o' w' h
              show ((w'.setCell ⟨w.heap.size, o', none⟩ x).setCells w.heap.size (o' + 1) xs).cell? ⟨w.heap.size, 0, none⟩ = _
              rw [ih2 (o' + 1) _ (by omega), World.cell?_setCell_other _ _ _ _ (by simp)]
          rw [hk _ _ _ (by omega)]
          have := cB 0 (by omega)
          rw [if_pos rfl] at this
          exact this
        | succ i =>
          have hil : i < l.length := by simpa using hi
          have := setCells_cell w.heap.size (l.map (Value.int .i64)) 1 WB.drew i (.int .i64 (gI l i)) (by simpa using hil) (by simp [gI, hil]) (fun j hj => by rw [hml] at hj; have := cB (1 + j) (by omega); show (WB.cell? _).isSome = true; rw [this]; rfl)
          rw [Nat.add_comm 1 i] at this
          rw [this]
          rfl
      · exact (below_setCells w.heap.size (Nat.le_refl _) _ 1 WB.drew ⟨(BA.trans BB).drew, by
          have : Fz w WB := by
            rw [← eB, ← eA]
            exact (Fz.alloc w.drew (.cells cs 3) rfl).trans (Fz.setCell _ _ _)
          exact this⟩).b
    obtain ⟨WC, eC⟩ : ∃ WC, WB.drew.setCells w.heap.size 1 (l.map (Value.int .i64)) = WC := ⟨_, rfl⟩
    rw [eC] at hc2
    have HF := hide (FIN.out WC eC.symm)
    obtain ⟨L, hL⟩ : ∃ L, l.length = L := ⟨_, rfl⟩
    rw [hL] at hrun hc1 hc2 hgc h0 hl ⊢
    clear FIN eC hmv hml fB cB BB sB eB fA cA sA BA eA hrow hz0 hL
    go_enter Try.func66, Try.ntmps66
    have HRUN := hide hrun
    clear hrun
    go_wp2_with (at_builtin; refine wpList_append_run (by rfl) (.tmp 34) (.tmp 39) 22 3 rfl _ _ rfl rfl _ _ (HRUN.out _) ?_)
    go_region
    all_goals
      go_wp2
      go_ret
      exact ⟨⟨_, _, rfl, HF.out.1⟩, HF.out.2⟩
end Go.Proofs.Ytmjncdhahdpplaa
namespace Go.Proofs.Ytmjncdhahdpplaa
open Go.ChangeShapes Go.WideShapes Go.ChangeAt Go.RowKit
set_option linter.unusedVariables false
set_option maxRecDepth 100000
set_option maxHeartbeats 2000000 in
theorem listed_any {n lo : Nat} {x : Ar} {va : Value} {w : World} (hx : ArIn (n + 1) lo w x va) (hchk : chkA 8 x = 0) : Calls Try.prog 37 #[va] w fun e w' => Gives2 (n + 1) w.heap.size (listR x).1 (listR x).2 w e w' := by
  obtain ⟨a1, c1, a2, c2, rfl, R, hc⟩ := hx.form
  have I := in2_new w (.slice a1 x.shape.length c1) (.slice a2 x.cells.length c2)
  obtain ⟨W2, e2⟩ : ∃ W2, (w.alloc (.cells #[.slice a1 x.shape.length c1, .slice a2 x.cells.length c2] 25)).alloc (.cells #[.slice none 0 0, .slice none 0 0] 25) = W2 := ⟨_, rfl⟩
  have hz2 : W2.heap.size = w.heap.size + 2 := by rw [← e2]; simp
  rw [e2] at I
  have q0 := I.q0
  have q1 := I.q1
  have hl := R.1
  have HI := hide I
  obtain ⟨l8, c16⟩ := chk_len hchk
  have CC := copy_at n 8 x lo _ W2 hchk (hx.next I.bel)
  by_cases h8 : 8 ≤ x.shape.length
  · have HE : Hid (listR x = (zeroA, 6)) := by unfold listR Hid; rw [if_pos h8]
    have p0 := I.p0
    have p1 := I.p1
    have f0 := I.f0
    have f1 := I.f1
    have h8' : ((8 : Nat) : Int) ≤ (x.shape.length : Int) := by omega
    have HT := hide (I.put (.slice none 0 0) (.slice none 0 0))
    clear CC R hc I hx hchk
    generalize x.shape.length = SA at *
    generalize x.cells.length = CA at *
    go_enter Try.func37, Try.ntmps37
    go_wp2
    exact bodyPost_ret (v := .tuple #[.agg #[.slice none 0 0, .slice none 0 0], .int .i64 6]) (by simp [results, Try.results37, go_sem, HT.out.1, HT.out.2]) rfl (gives2_of HE.out (zeroA_in _ _ _) (HI.out.fin _ _))
  · have HE : Hid (listR x = (.mk (1 :: x.shape) x.cells, 0)) := by unfold listR Hid; rw [if_neg h8]
    obtain ⟨SA, hSA⟩ : ∃ SA, x.shape.length = SA := ⟨_, rfl⟩
    obtain ⟨CA, hCA⟩ : ∃ CA, x.cells.length = CA := ⟨_, rfl⟩
    have HSC := hide (And.intro hSA hCA)
    rw [hSA, hCA] at CC e2
    rw [hSA] at q0 l8 h8 hl ⊢
    rw [hCA] at q1 c16 ⊢
    clear R hc I hx hchk hSA hCA
    go_enter Try.func37, Try.ntmps37
    go_wp2_with fail
    clear e2 q0 q1
    refine CC.mono ?_
    rintro e w1 ⟨⟨v, rfl, -, bs, bc, rfl, hbs0, hbs1, hrow, hcs⟩, hb1⟩
    rw [hz2] at hbs0 hcs
    have I1 := HI.out.next hb1.b
    obtain ⟨W3, e3⟩ : ∃ W3, w1.alloc (.cells #[.slice (some ⟨bs, 0, none⟩) SA SA, .slice (some ⟨bc, 0, none⟩) CA CA] 25) = W3 := ⟨_, rfl⟩
    obtain ⟨W4, e4⟩ : ∃ W4, W3.alloc (.cells #[.int .i64 1] 3) = W4 := ⟨_, rfl⟩
    have B3 : Below w1.heap.size w1 W3 := by rw [← e3]; exact one_alloc _ _
    have z3 : W3.heap.size = w1.heap.size + 1 := by rw [← e3]; simp
    have B4 : Below W3.heap.size W3 W4 := by rw [← e4]; exact one_alloc _ _
    have z4 : W4.heap.size = w1.heap.size + 2 := by rw [← e4]; simp [z3]
    have B14 : Below w1.heap.size w1 W4 := B3.trans (B4.mono (by omega))
    have o0 : W3.cell? ⟨w1.heap.size, 0, none⟩ = some (.slice (some ⟨bs, 0, none⟩) SA SA) := by rw [← e3]; exact cell_new0 w1 _ 25 0 _ rfl
    have o1 : W3.cell? ⟨w1.heap.size, 1, none⟩ = some (.slice (some ⟨bc, 0, none⟩) CA CA) := by rw [← e3]; exact cell_new0 w1 _ 25 1 _ rfl
    have of : ∀ i, W3.frozen? ⟨w1.heap.size, i, none⟩ = false := fun i => by rw [← e3]; exact frozen_new w1 _ 25 i
    have v0 : W4.cell? ⟨w1.heap.size + 1, 0, none⟩ = some (.int .i64 1) := by rw [← z3, ← e4]; exact cell_new0 W3 _ 3 0 _ rfl
    have IN := insert_any x.shape bs (w1.heap.size + 1) W4 (by rw [HSC.out.1]; exact l8) (fun i hi => (B14.cell (p := ⟨bs, i, none⟩) hbs1).trans (hrow i hi)) v0 (by omega) (by omega)
    rw [HSC.out.1] at IN
    have I4 := I1.next B14
    have HI4 := hide I4
    have HO := hide (And.intro ((B4.cell (p := ⟨w1.heap.size, 0, none⟩) (by show w1.heap.size < _; omega)).trans o0) (And.intro ((B4.cell (p := ⟨w1.heap.size, 1, none⟩) (by show w1.heap.size < _; omega)).trans o1) ((B4.frozen (p := ⟨w1.heap.size, 0, none⟩) (by show w1.heap.size < _; omega)).trans (of 0))))
    have HCS := hide hcs
    have HB := hide (And.intro hbs0 (And.intro hbs1 (And.intro z4 (And.intro B14 I1.size))))
    rw [HSC.out.1, HSC.out.2]
    clear CC hrow hcs hb1 B3 B14 B4 I1 I4 v0 o1 HI hbs0 hbs1
    go_wp2_with fail
    clear e3 e4 o0 of z3 z4
    refine IN.mono ?_
    rintro e w5 ⟨⟨a, cap, rfl, R5⟩, hb5⟩
    obtain ⟨g1, g2, g3, g4, g5⟩ := HB.out
    have k0 := (hb5.cell (p := ⟨w1.heap.size, 0, none⟩) (by show w1.heap.size < _; omega)).trans HO.out.1
    have k1 := (hb5.cell (p := ⟨w1.heap.size, 1, none⟩) (by show w1.heap.size < _; omega)).trans HO.out.2.1
    have k2 := (hb5.frozen (p := ⟨w1.heap.size, 0, none⟩) (by show w1.heap.size < _; omega)).trans HO.out.2.2
    have z5 : W4.heap.size ≤ w5.heap.size := hb5.size
    obtain ⟨w6, e6⟩ : ∃ w6, w5.setCell ⟨w1.heap.size, 0, none⟩ (.slice a (SA + 1) cap) = w6 := ⟨_, rfl⟩
    have I6 := (HI4.out.next hb5).set (b := w1.heap.size) (i := 0) (by omega) (.slice a (SA + 1) cap)
    rw [e6] at I6
    have m0 : w6.cell? ⟨w1.heap.size, 0, none⟩ = some (.slice a (SA + 1) cap) := by rw [← e6]; exact World.cell?_setCell_same' _ _ _ (by rw [k0]; rfl)
    have m1 : w6.cell? ⟨w1.heap.size, 1, none⟩ = some (.slice (some ⟨bc, 0, none⟩) CA CA) := by rw [← e6, World.cell?_setCell_other _ _ _ _ (by simp)]; exact k1
    have K6 : Keeps (w1.heap.size + 1) w5 w6 := by rw [← e6]; exact (Keeps.refl _ _).setCell (p := ⟨w1.heap.size, 0, none⟩) (by show w1.heap.size < _; omega) _
    have R6 : Row (w.heap.size + 2) w6 a (1 :: x.shape) := ((R5.low (lo' := w1.heap.size + 1) (by omega)).keeps K6).low (by omega)
    have C6 : CellsIn n (w.heap.size + 2) w6 x.cells (some ⟨bc, 0, none⟩) := HCS.out w6 (by have := K6.1; omega) fun k h1 h2 => by
      rw [← e6, Below.heap_setCell _ _ _ _ (by show k ≠ w1.heap.size; omega), hb5.block k (by omega)]
      exact g4.block k h1
    have A6 : ArIn (n + 1) (w.heap.size + 2) w6 (.mk (1 :: x.shape) x.cells) (.agg #[.slice a (SA + 1) cap, .slice (some ⟨bc, 0, none⟩) CA CA]) := arIn_mk (x := .mk (1 :: x.shape) x.cells) R6 (by show x.cells.length ≤ _; rw [HSC.out.2]; omega) C6 (by show (1 :: x.shape).length = _; rw [List.length_cons, HSC.out.1]) HSC.out.2
    have p0 := I6.p0
    have p1 := I6.p1
    have f0 := I6.f0
    have f1 := I6.f1
    have HT := hide (I6.put (.slice a (SA + 1) cap) (.slice (some ⟨bc, 0, none⟩) CA CA))
    have HF := hide (I6.give A6 (Nat.le_refl _))
    have HFI := hide I6.fin
    clear I6 A6 C6 R6 K6 R5 hb5 IN HI4 HO HCS HB g1 g2 g3 g4 g5 z5
    go_wp2
    exact bodyPost_ret (v := .tuple #[.agg #[.slice a (SA + 1) cap, .slice (some ⟨bc, 0, none⟩) CA CA], .int .i64 0]) (by simp [results, Try.results37, go_sem, HT.out.1, HT.out.2]) rfl (gives2_of HE.out (HF.out _ _) (HFI.out _ _))
/-- A box with an array in it. -/
theorem box_in {n lo : Nat} {w : World} {x : Ar} {u0 u1 : Value} {b d : Nat} (hx : ArIn n lo w x (.agg #[u0, u1])) (hb : lo ≤ b) (hd : lo ≤ d) (hbl : b < w.heap.size) (hdl : d < w.heap.size) (c0 : w.cell? ⟨b, 0, none⟩ = some u0) (c1 : w.cell? ⟨b, 1, none⟩ = some u1)
    (d0 : w.cell? ⟨d, 0, none⟩ = some (.int .i64 2)) (d1 : w.cell? ⟨d, 1, none⟩ = some (.int .i64 0)) (d2 : w.cell? ⟨d, 2, none⟩ = some (.slice (some ⟨b, 0, none⟩) 1 1)) : ArIn (n + 1) lo w (.mk [] [(2, 0, [x])]) (.agg #[.slice none 0 0, .slice (some ⟨d, 0, none⟩) 1 1]) := by
  refine arIn_mk (x := .mk [] [(2, 0, [x])]) (row_nil _ _ _) (by simp [Ar.cells]) (Or.inr ⟨d, 0, rfl, hd, hdl, fun i hi => ?_⟩) rfl rfl
  have hi0 : i = 0 := by simpa [Ar.cells] using hi
  subst hi0
  refine ⟨_, _, _, d0, d1, d2, rfl, rfl, _, _, rfl, by simp [cAt, Ar.cells], Or.inr ⟨b, 0, rfl, hb, hbl, fun k hk => ?_⟩⟩
  have hk0 : k = 0 := by simpa [cAt, Ar.cells] using hk
  subst hk0
  exact ⟨_, _, c0, c1, hx⟩
set_option maxHeartbeats 2000000 in
theorem enclosed_any {n lo : Nat} {x : Ar} {va : Value} {w : World} (hx : ArIn (n + 1) lo w x va) (hchk : chkA 8 x = 0) : Calls Try.prog 34 #[va] w fun e w' => Gives2 (n + 2) w.heap.size (enclR (n + 1) x).1 (enclR (n + 1) x).2 w e w' := by
  obtain ⟨a1, c1, a2, c2, rfl, R, hc⟩ := hx.form
  have I := in2_new w (.slice a1 x.shape.length c1) (.slice a2 x.cells.length c2)
  obtain ⟨W2, e2⟩ : ∃ W2, (w.alloc (.cells #[.slice a1 x.shape.length c1, .slice a2 x.cells.length c2] 25)).alloc (.cells #[.slice none 0 0, .slice none 0 0] 25) = W2 := ⟨_, rfl⟩
  have hz2 : W2.heap.size = w.heap.size + 2 := by rw [← e2]; simp
  rw [e2] at I
  have q0 := I.q0
  have q1 := I.q1
  have CD := deep_any (n + 1) 16 x _ _ W2 (by omega) (chk_thin16 hchk) (hx.next I.bel)
  have HI := hide I
  have HX := hide hx
  have HCH := hide hchk
  have HE : Hid (enclR (n + 1) x = if 8 ≤ deepA (n + 1) x then (zeroA, 15) else (.mk [] [(2, 0, [x])], 0)) := rfl
  obtain ⟨SA, hSA⟩ : ∃ SA, x.shape.length = SA := ⟨_, rfl⟩
  obtain ⟨CA, hCA⟩ : ∃ CA, x.cells.length = CA := ⟨_, rfl⟩
  have HSC := hide (And.intro hSA hCA)
  simp only [hSA, hCA] at CD e2 q0 q1 HI HX ⊢
  generalize deepA (n + 1) x = D at *
  clear R hc I hx hchk hSA hCA
  go_enter Try.func34, Try.ntmps34
  go_wp2_with fail
  clear e2 q0 q1
  refine CD.mono ?_
  rintro e w1 ⟨rfl, hb1⟩
  have I1 := HI.out.next hb1
  have q0 := I1.q0
  have q1 := I1.q1
  have HI1 := hide I1
  by_cases h8 : 8 ≤ D
  · have p0 := I1.p0
    have p1 := I1.p1
    have f0 := I1.f0
    have f1 := I1.f1
    have HT := hide (I1.put (.slice none 0 0) (.slice none 0 0))
    have HE5 : Hid (enclR (n + 1) x = (zeroA, 15)) := by unfold Hid; rw [HE.out, if_pos h8]
    clear I1 hb1 CD HI HX HE q0 q1
    go_wp2
    exact bodyPost_ret (v := .tuple #[.agg #[.slice none 0 0, .slice none 0 0], .int .i64 15]) (by simp [results, Try.results34, go_sem, HT.out.1, HT.out.2]) rfl (gives2_of HE5.out (zeroA_in _ _ _) (HI1.out.fin _ _))
  · have CC := copyA HCH.out (HX.out.next I1.bel)
    have HE5 : Hid (enclR (n + 1) x = (.mk [] [(2, 0, [x])], 0)) := by unfold Hid; rw [HE.out, if_neg h8]
    clear I1 hb1 CD HI HX HE
    go_wp2_with fail
    refine CC.mono ?_
    rintro e w2 ⟨⟨v, rfl, hv⟩, hb2⟩
    obtain ⟨y1, m1, y2, m2, rfl, -, -⟩ := hv.form
    rw [HSC.out.1, HSC.out.2] at hv ⊢
    have I2 := HI1.out.next hb2
    obtain ⟨W3, e3⟩ : ∃ W3, w2.alloc (.cells #[.slice y1 SA m1, .slice y2 CA m2] 25) = W3 := ⟨_, rfl⟩
    obtain ⟨W4, e4⟩ : ∃ W4, W3.alloc (.cells #[.int .i64 2, .int .i64 0, .slice (some ⟨w2.heap.size, 0, none⟩) 1 1] 36) = W4 := ⟨_, rfl⟩
    have B3 : Below w2.heap.size w2 W3 := by rw [← e3]; exact one_alloc _ _
    have z3 : W3.heap.size = w2.heap.size + 1 := by rw [← e3]; simp
    have B4 : Below W3.heap.size W3 W4 := by rw [← e4]; exact one_alloc _ _
    have z4 : W4.heap.size = w2.heap.size + 2 := by rw [← e4]; simp [z3]
    have B24 : Below w2.heap.size w2 W4 := B3.trans (B4.mono (by omega))
    have o0 : W3.cell? ⟨w2.heap.size, 0, none⟩ = some (.slice y1 SA m1) := by rw [← e3]; exact cell_new0 w2 _ 25 0 _ rfl
    have o1 : W3.cell? ⟨w2.heap.size, 1, none⟩ = some (.slice y2 CA m2) := by rw [← e3]; exact cell_new0 w2 _ 25 1 _ rfl
    have v0 : W4.cell? ⟨w2.heap.size + 1, 0, none⟩ = some (.int .i64 2) := by rw [← z3, ← e4]; exact cell_new0 W3 _ 36 0 _ rfl
    have v1 : W4.cell? ⟨w2.heap.size + 1, 1, none⟩ = some (.int .i64 0) := by rw [← z3, ← e4]; exact cell_new0 W3 _ 36 1 _ rfl
    have v2 : W4.cell? ⟨w2.heap.size + 1, 2, none⟩ = some (.slice (some ⟨w2.heap.size, 0, none⟩) 1 1) := by rw [← z3, ← e4]; exact cell_new0 W3 _ 36 2 _ rfl
    have I4 := I2.next B24
    have hs2 := I2.size
    have hs1 := HI1.out.size
    have hw12 := hb2.size
    have A4 : ArIn (n + 2) (w.heap.size + 2) W4 (.mk [] [(2, 0, [x])]) (.agg #[.slice none 0 0, .slice (some ⟨w2.heap.size + 1, 0, none⟩) 1 1]) := box_in ((hv.next B24).mono hs1 (Below.refl _ _)) (by omega) (by omega) (by omega) (by omega) ((B4.cell (p := ⟨w2.heap.size, 0, none⟩) (by show w2.heap.size < _; omega)).trans o0) ((B4.cell (p := ⟨w2.heap.size, 1, none⟩) (by show w2.heap.size < _; omega)).trans o1) v0 v1 v2
    have p0 := I4.p0
    have p1 := I4.p1
    have f0 := I4.f0
    have f1 := I4.f1
    have HT := hide (I4.put (.slice none 0 0) (.slice (some ⟨w2.heap.size + 1, 0, none⟩) 1 1))
    have HF := hide (I4.give A4 (Nat.le_refl _))
    have HFI := hide I4.fin
    clear I4 A4 hv hb2 HI1 I2 CC B3 B4 B24 o0 o1 v0 v1 v2 hs1 hs2 hw12 z4 q0 q1 hz2
    go_wp2
    exact bodyPost_ret (v := .tuple #[.agg #[.slice none 0 0, .slice (some ⟨w2.heap.size + 1, 0, none⟩) 1 1], .int .i64 0]) (by simp [results, Try.results34, go_sem, HT.out.1, HT.out.2]) rfl (gives2_of HE5.out (HF.out _ _) (HFI.out _ _))
end Go.Proofs.Ytmjncdhahdpplaa
namespace Go.Proofs.Ytmjncdhahdpplaa
open Go.ChangeShapes Go.WideShapes Go.ChangeAt Go.RowKit
set_option linter.unusedVariables false
set_option maxRecDepth 100000
/-- The array in the box of an array that may be. -/
theorem box_of {n lo : Nat} {w : World} {c : Ce} {v0 v1 v2 : Value} (f : Ar → Int) (hc : CeIn (ArIn n lo w) lo w c v0 v1 v2) (hchk : chkC f c = 0) (h2 : c.1 = 2) : ∃ b off cap u0 u1, c.2.2.length = 1 ∧ v2 = .slice (some ⟨b, off, none⟩) 1 cap ∧ b < w.heap.size ∧ w.cell? ⟨b, off, none⟩ = some u0 ∧ w.cell? ⟨b, off + 1, none⟩ = some u1 ∧ ArIn n lo w (bAt c.2.2 0) (.agg #[u0, u1]) ∧ f (bAt c.2.2 0) = 0 := by
  obtain ⟨-, -, a, cap, rfl, -, hx⟩ := hc
  rcases (chkC_iff f c).1 hchk with ⟨-, -, h1, hf⟩ | ⟨-, h | ⟨h, -⟩⟩
  · rcases hx with hx | ⟨b, off, rfl, -, hb, hx⟩
    · rw [hx] at h1; simp at h1
    · obtain ⟨u0, u1, e0, e1, e2⟩ := hx 0 (by omega)
      exact ⟨b, off, cap, u0, u1, h1, by rw [h1], hb, by simpa using e0, by simpa using e1, e2, hf⟩
  · omega
  · omega
set_option maxHeartbeats 2000000 in
theorem disclosed_any {n lo : Nat} {x : Ar} {va : Value} {w : World} (hx : ArIn (n + 1) lo w x va) (hchk : chkA 8 x = 0) : Calls Try.prog 35 #[va] w fun e w' => Gives2 (n + 1) w.heap.size (discR x).1 (discR x).2 w e w' := by
  obtain ⟨a1, c1, a2, c2, rfl, R, hc⟩ := hx.form
  have I := in2_new w (.slice a1 x.shape.length c1) (.slice a2 x.cells.length c2)
  obtain ⟨W2, e2⟩ : ∃ W2, (w.alloc (.cells #[.slice a1 x.shape.length c1, .slice a2 x.cells.length c2] 25)).alloc (.cells #[.slice none 0 0, .slice none 0 0] 25) = W2 := ⟨_, rfl⟩
  have hz2 : W2.heap.size = w.heap.size + 2 := by rw [← e2]; simp
  rw [e2] at I
  have q0 := I.q0
  have q1 := I.q1
  have hl := R.1
  have HI := hide I
  by_cases h0 : 0 < x.shape.length
  · have HE5 : Hid (discR x = (zeroA, 6)) := by unfold discR Hid; rw [if_pos h0]
    clear R hc hx hchk
    generalize x.shape.length = SA at *
    generalize x.cells.length = CA at *
    have p0 := I.p0
    have p1 := I.p1
    have f0 := I.f0
    have f1 := I.f1
    have HT := hide (I.put (.slice none 0 0) (.slice none 0 0))
    have h1 : (0 : Int) < (SA : Int) := by omega
    clear I
    go_enter Try.func35, Try.ntmps35
    go_wp2
    exact bodyPost_ret (v := .tuple #[.agg #[.slice none 0 0, .slice none 0 0], .int .i64 6]) (by simp [results, Try.results35, go_sem, HT.out.1, HT.out.2]) rfl (gives2_of HE5.out (zeroA_in _ _ _) (HI.out.fin _ _))
  · obtain ⟨-, hone⟩ := atom_one hchk (by omega)
    obtain ⟨ab, cb, hcf⟩ := cells_fn hc
    obtain ⟨b, off, rfl, -, hb, hcells⟩ := hcf (by omega)
    obtain ⟨g0, g1, g2, g3⟩ := hcells 0 (by omega)
    simp only [Nat.zero_mul, Nat.add_zero] at g0 g1 g2
    have HE : Hid (discR x = if (cAt x.cells 0).1 = 2 then (bAt (cAt x.cells 0).2.2 0, 0) else (x, 0)) := by unfold discR Hid; rw [if_neg h0]
    have hs0 : x.shape.length = 0 := by omega
    have hck := ((chkA_iff 8 x).1 hchk).2.2.2 0 (by omega)
    simp only [hs0, hone] at q0 q1 HI I hx e2 ⊢
    have r0 := (I.bel.cell (p := ⟨b, off, none⟩) hb).trans g0
    have r1 := (I.bel.cell (p := ⟨b, off + 1, none⟩) hb).trans g1
    have r2 := (I.bel.cell (p := ⟨b, off + 2, none⟩) hb).trans g2
    have HX := hide (And.intro hx hchk)
    have HBX : Hid ((cAt x.cells 0).1 = 2 → ∃ b off cap u0 u1, (cAt x.cells 0).2.2.length = 1 ∧ Value.slice (ab 0) (cAt x.cells 0).2.2.length (cb 0) = .slice (some ⟨b, off, none⟩) 1 cap ∧ b < w.heap.size ∧ w.cell? ⟨b, off, none⟩ = some u0 ∧ w.cell? ⟨b, off + 1, none⟩ = some u1 ∧ ArIn n lo w (bAt (cAt x.cells 0).2.2 0) (.agg #[u0, u1]) ∧ chkA 7 (bAt (cAt x.cells 0).2.2 0) = 0) := fun h2 => box_of (inF 8) g3 hck h2
    clear hcells hcf hc R hx hchk g0 g1 g2 g3 hck
    obtain ⟨nb, hnb⟩ : ∃ nb, (cAt x.cells 0).2.2.length = nb := ⟨_, rfl⟩
    rw [hnb] at HBX r2
    generalize ab 0 = ab0 at *
    generalize cb 0 = cb0 at *
    obtain ⟨c, hcc⟩ : ∃ c, cAt x.cells 0 = c := ⟨_, rfl⟩
    rw [hcc] at HBX HE r0 r1
    clear hcc hnb
    have i0 := cell_new0 W2 #[.int .i64 c.1, .int .i64 c.2.1, .slice ab0 nb cb0] 36 0 _ rfl
    have i1 := cell_new0 W2 #[.int .i64 c.1, .int .i64 c.2.1, .slice ab0 nb cb0] 36 1 _ rfl
    have i2 := cell_new0 W2 #[.int .i64 c.1, .int .i64 c.2.1, .slice ab0 nb cb0] 36 2 _ rfl
    obtain ⟨W3, e3⟩ : ∃ W3, W2.alloc (.cells #[.int .i64 c.1, .int .i64 c.2.1, .slice ab0 nb cb0] 36) = W3 := ⟨_, rfl⟩
    rw [e3, hz2] at i0 i1 i2
    have I3 : In2 w (.slice a1 0 c1) (.slice (some ⟨b, off, none⟩) 1 c2) W3 := by rw [← e3]; exact I.alloc _
    have j0 := I3.q0
    have j1 := I3.q1
    have z3 : W3.heap.size = w.heap.size + 3 := by rw [← e3]; simp [hz2]
    have HI3 := hide (And.intro I3 z3)
    by_cases h2 : c.1 = 2
    · obtain ⟨bb, ob, cap, u0, u1, hnb, hsl, hbb, t0, t1, hin, hch⟩ := HBX.out h2
      simp only [Value.slice.injEq] at hsl
      obtain ⟨rfl, rfl, rfl⟩ := hsl
      have k0 := (I3.bel.cell (p := ⟨bb, ob, none⟩) hbb).trans t0
      have k1 := (I3.bel.cell (p := ⟨bb, ob + 1, none⟩) hbb).trans t1
      cases n with
      | zero => exact hin.elim
      | succ n =>
      have hA3 := hin.next I3.bel
      obtain ⟨v1, n1, v2, n2, hv, -, -⟩ := hin.form
      simp only [Value.agg.injEq, Array.mk.injEq, List.cons.injEq, and_true] at hv
      obtain ⟨rfl, rfl⟩ := hv
      have CC := copyA hch hA3
      have HE5 : Hid (discR x = (bAt c.2.2 0, 0)) := by unfold Hid; rw [HE.out, if_pos h2]
      generalize bAt c.2.2 0 = y at *
      rw [h2] at i0 r0 e3
      clear I I3 HBX HX HE h2 hin hA3 hch t0 t1 z3 hnb
      go_enter Try.func35, Try.ntmps35
      go_wp2_with fail
      clear e2 e3 r0 r1 r2 q0 q1 hz2 i0 i1 i2 k0 k1 j0 j1
      refine CC.mono ?_
      rintro e w1 ⟨⟨v, rfl, hv⟩, hb1⟩
      obtain ⟨z1, m1, z2, m2, rfl, -, -⟩ := hv.form
      have I4 := HI3.out.1.next hb1
      have zz := HI3.out.2
      have p0 := I4.p0
      have p1 := I4.p1
      have f0 := I4.f0
      have f1 := I4.f1
      have HT := hide (I4.put (.slice z1 y.shape.length m1) (.slice z2 y.cells.length m2))
      have HF := hide (I4.give hv.deeper (by omega))
      have HFI := hide I4.fin
      clear I4 hv hb1 CC HI3 HI
      generalize y.shape.length = SB at *
      generalize y.cells.length = CB at *
      go_wp2
      exact bodyPost_ret (v := .tuple #[.agg #[.slice z1 SB m1, .slice z2 CB m2], .int .i64 0]) (by simp [results, Try.results35, go_sem, HT.out.1, HT.out.2]) rfl (gives2_of HE5.out (HF.out _ _) (HFI.out _ _))
    · have CC := copyA HX.out.2 (HX.out.1.next I3.bel)
      have HE5 : Hid (discR x = (x, 0)) := by unfold Hid; rw [HE.out, if_neg h2]
      have hk : (c.1 == 2) = false := beq_eq_false_iff_ne.2 h2
      clear I I3 HBX HX HE h2 z3
      go_enter Try.func35, Try.ntmps35
      go_wp2_with fail
      clear e2 e3 r0 r1 r2 q0 q1 hz2 i0 i1 i2 j0 j1
      refine CC.mono ?_
      rintro e w1 ⟨⟨v, rfl, hv⟩, hb1⟩
      obtain ⟨z1, m1, z2, m2, rfl, -, -⟩ := hv.form
      have I4 := HI3.out.1.next hb1
      have zz := HI3.out.2
      have p0 := I4.p0
      have p1 := I4.p1
      have f0 := I4.f0
      have f1 := I4.f1
      have HT := hide (I4.put (.slice z1 x.shape.length m1) (.slice z2 x.cells.length m2))
      have HF := hide (I4.give hv (by omega))
      have HFI := hide I4.fin
      clear I4 hv hb1 CC HI3 HI hone hs0 h0
      generalize x.shape.length = SB at *
      generalize x.cells.length = CB at *
      go_wp2
      exact bodyPost_ret (v := .tuple #[.agg #[.slice z1 SB m1, .slice z2 CB m2], .int .i64 0]) (by simp [results, Try.results35, go_sem, HT.out.1, HT.out.2]) rfl (gives2_of HE5.out (HF.out _ _) (HFI.out _ _))
end Go.Proofs.Ytmjncdhahdpplaa
namespace Go.Proofs.Ytmjncdhahdpplaa
open Go.ChangeShapes Go.WideShapes Go.ChangeAt Go.RowKit
set_option linter.unusedVariables false
set_option maxRecDepth 100000
def Caps (v : Value) : Prop := ∃ a1 n1 c1 a2 n2 c2, v = .agg #[.slice a1 n1 c1, .slice a2 n2 c2] ∧ n1 ≤ c1 ∧ n2 ≤ c2
theorem item_facts {r : Nat} {x : Ar} (h : chkA r x = 0) (hs : 0 < x.shape.length) (ht : ¬ tallyN x = 0) : 0 < tallyN x ∧ tallyN x ≤ 16384 ∧ tallyN x = gI x.shape 0 ∧ chkA r (itemR x) = 0 ∧ sizeE x.shape.tail = 0 ∧ sizeV x.shape.tail = ((x.cells.length / (tallyN x).toNat : Nat) : Int) := by
  obtain ⟨h1, h2, h3⟩ := chk_axes h
  obtain ⟨l8, c16⟩ := chk_len h
  have et : tallyN x = gI x.shape 0 := by unfold tallyN; rw [if_neg (by omega)]
  have b1 := h1 (gI x.shape 0) (getD_mem hs)
  obtain ⟨d, t, hdt⟩ : ∃ d t, x.shape = d :: t := by
    cases hsh : x.shape with
    | nil => rw [hsh] at hs; simp at hs
    | cons d t => exact ⟨d, t, rfl⟩
  have ed : gI x.shape 0 = d := by rw [hdt]; rfl
  rw [ed] at et b1
  have etl : x.shape.tail = t := by rw [hdt]; rfl
  have hd : 0 < d := by omega
  have key : sizeE t = 0 ∧ sizeV t = ((x.cells.length / d.toNat : Nat) : Int) := by
    by_cases h0 : 0 < x.cells.length
    · obtain ⟨g1, g2⟩ := h2 h0
      rw [hdt] at g1 g2 l8
      have gt : ∀ z ∈ t, 0 < z := fun z hz => g1 z (List.mem_cons_of_mem _ hz)
      have pt := prodL_pos gt
      have e1 : d * prodL t = (x.cells.length : Int) := by simpa [prodL] using g2
      have le : prodL t ≤ 16384 := by
        have := Int.mul_le_mul_of_nonneg_right (show (1 : Int) ≤ d by omega) (show 0 ≤ prodL t by omega)
        omega
      have := fine_mk (l := t) (by simp at l8; omega) (fun z hz => by have := gt z hz; omega) (Or.inr le)
      refine ⟨this.1, ?_⟩
      rw [this.2]
      have e2 : ((x.cells.length / d.toNat : Nat) : Int) = (x.cells.length : Int) / d := by
        rw [Int.natCast_ediv, Int.toNat_of_nonneg (by omega)]
      rw [e2, ← e1, Int.mul_ediv_cancel_left _ (by omega)]
    · have hz := h3 (by omega)
      rw [hdt] at hz l8
      have hz' : hasZero t := by
        obtain ⟨z, hz, rfl⟩ := hz
        rcases List.mem_cons.1 hz with h | h
        · omega
        · exact ⟨0, h, rfl⟩
      have := fine_mk (l := t) (by simp at l8; omega) (fun z hz => (h1 z (by rw [hdt]; exact List.mem_cons_of_mem _ hz)).1) (Or.inl hz')
      refine ⟨this.1, ?_⟩
      rw [this.2, prodL_zero hz']
      have : x.cells.length = 0 := by omega
      rw [this]; simp
  refine ⟨by omega, by omega, by omega, ?_, by rw [etl]; exact key.1, by rw [etl, et]; exact key.2⟩
  have hle : x.cells.length / (tallyN x).toNat ≤ x.cells.length := Nat.div_le_self _ _
  refine chk_of h (by rw [etl]; exact key.1) (by rw [etl, List.length_take, et, key.2, Nat.min_eq_left (by rw [← et]; exact hle)]) ?_ ?_
  · rintro ⟨z, hz, hlt⟩
    have := (h1 z (by rw [hdt]; rw [etl] at hz; exact List.mem_cons_of_mem _ hz)).2
    omega
  · intro i hi
    rw [List.length_take] at hi
    refine ⟨i, by omega, ?_⟩
    unfold cAt
    rw [List.getElem?_take_of_lt (by omega)]
/-- A part of the cells. -/
theorem CellsIn.take {n lo : Nat} {w : World} {cs : List Ce} {a2 : Option Addr} (h : CellsIn n lo w cs a2) (m : Nat) : CellsIn n lo w (cs.take m) a2 := by
  rcases h with rfl | ⟨b, off, ha, hlo, hb, hc⟩
  · exact Or.inl (by simp)
  · refine Or.inr ⟨b, off, ha, hlo, hb, fun i hi => ?_⟩
    rw [List.length_take] at hi
    have := hc i (by omega)
    unfold cAt at this ⊢
    rw [List.getElem?_take_of_lt (by omega)]
    exact this
theorem Row.tail {lo b off : Nat} {w : World} {l : List Int} (h : Row lo w (some ⟨b, off, none⟩) l) : Row lo w (some ⟨b, off + 1, none⟩) l.tail := by
  obtain ⟨h1, h2⟩ := h
  refine ⟨by rw [List.length_tail]; omega, ?_⟩
  rcases h2 with rfl | ⟨b', off', ha, hlo, hb, hc⟩
  · exact Or.inl rfl
  · cases ha
    refine Or.inr ⟨b, off + 1, rfl, hlo, hb, fun i hi => ?_⟩
    rw [List.length_tail] at hi
    have := hc (i + 1) (by omega)
    rw [show off + 1 + i = off + (i + 1) by omega, this]
    simp
/-- As In2, whatever lies in the answer's place. -/
structure Fr (w : World) (v0 v1 : Value) (W : World) : Prop where
  bel : Below w.heap.size w W
  size : w.heap.size + 2 ≤ W.heap.size
  q0 : W.cell? ⟨w.heap.size, 0, none⟩ = some v0
  q1 : W.cell? ⟨w.heap.size, 1, none⟩ = some v1
  p0 : ∃ u, W.cell? ⟨w.heap.size + 1, 0, none⟩ = some u
  p1 : ∃ u, W.cell? ⟨w.heap.size + 1, 1, none⟩ = some u
  f0 : W.frozen? ⟨w.heap.size + 1, 0, none⟩ = false
  f1 : W.frozen? ⟨w.heap.size + 1, 1, none⟩ = false
theorem In2.fr {w W : World} {v0 v1 : Value} (h : In2 w v0 v1 W) : Fr w v0 v1 W := ⟨h.bel, h.size, h.q0, h.q1, ⟨_, h.p0⟩, ⟨_, h.p1⟩, h.f0, h.f1⟩
theorem Fr.next {w W W' : World} {v0 v1 : Value} (h : Fr w v0 v1 W) (hb : Below W.heap.size W W') : Fr w v0 v1 W' := by
  have s := h.size
  obtain ⟨u0, h0⟩ := h.p0
  obtain ⟨u1, h1⟩ := h.p1
  refine ⟨h.bel.trans (hb.mono h.bel.size), Nat.le_trans s hb.size, ?_, ?_, ⟨u0, ?_⟩, ⟨u1, ?_⟩, ?_, ?_⟩
  · exact (hb.cell (p := ⟨w.heap.size, 0, none⟩) (by show w.heap.size < _; omega)).trans h.q0
  · exact (hb.cell (p := ⟨w.heap.size, 1, none⟩) (by show w.heap.size < _; omega)).trans h.q1
  · exact (hb.cell (p := ⟨w.heap.size + 1, 0, none⟩) (by show w.heap.size + 1 < _; omega)).trans h0
  · exact (hb.cell (p := ⟨w.heap.size + 1, 1, none⟩) (by show w.heap.size + 1 < _; omega)).trans h1
  · exact (hb.frozen (p := ⟨w.heap.size + 1, 0, none⟩) (by show w.heap.size + 1 < _; omega)).trans h.f0
  · exact (hb.frozen (p := ⟨w.heap.size + 1, 1, none⟩) (by show w.heap.size + 1 < _; omega)).trans h.f1
theorem Fr.set {w W : World} {v0 v1 : Value} (h : Fr w v0 v1 W) (u v : Value) : Fr w v0 v1 ((W.setCell ⟨w.heap.size + 1, 0, none⟩ u).setCell ⟨w.heap.size + 1, 1, none⟩ v) := by
  obtain ⟨u0, h0⟩ := h.p0
  obtain ⟨u1, h1⟩ := h.p1
  have t := set_two h0 h1 u v
  refine ⟨(h.bel.setCell (p := ⟨w.heap.size + 1, 0, none⟩) (by show w.heap.size ≤ w.heap.size + 1; omega) u).setCell (p := ⟨w.heap.size + 1, 1, none⟩) (by show w.heap.size ≤ w.heap.size + 1; omega) v, by simpa using h.size, ?_, ?_, ⟨u, ?_⟩, ⟨v, t.2⟩, by simpa using h.f0, by simpa using h.f1⟩
  · exact cell_apart (p := ⟨w.heap.size, 0, none⟩) (q := ⟨w.heap.size + 1, 1, none⟩) (by show w.heap.size ≠ w.heap.size + 1; omega) _ (cell_apart (p := ⟨w.heap.size, 0, none⟩) (q := ⟨w.heap.size + 1, 0, none⟩) (by show w.heap.size ≠ w.heap.size + 1; omega) _ h.q0)
  · exact cell_apart (p := ⟨w.heap.size, 1, none⟩) (q := ⟨w.heap.size + 1, 1, none⟩) (by show w.heap.size ≠ w.heap.size + 1; omega) _ (cell_apart (p := ⟨w.heap.size, 1, none⟩) (q := ⟨w.heap.size + 1, 0, none⟩) (by show w.heap.size ≠ w.heap.size + 1; omega) _ h.q1)
  · rw [World.cell?_setCell_other _ _ _ _ (by simp)]; exact t.1
theorem Fr.fin {w W : World} {v0 v1 : Value} (h : Fr w v0 v1 W) (u v : Value) : Below w.heap.size w ((W.setCell ⟨w.heap.size + 1, 0, none⟩ u).setCell ⟨w.heap.size + 1, 1, none⟩ v) := (h.set u v).bel
theorem give_at {w W : World} {n lo : Nat} {x : Ar} {va : Value} (hx : ArIn n lo W x va) (hlo : w.heap.size + 2 ≤ lo) (u v : Value) : ArIn n w.heap.size ((W.setCell ⟨w.heap.size + 1, 0, none⟩ u).setCell ⟨w.heap.size + 1, 1, none⟩ v) x va := by
  have hk : Keeps (w.heap.size + 2) W ((W.setCell ⟨w.heap.size + 1, 0, none⟩ u).setCell ⟨w.heap.size + 1, 1, none⟩ v) := ((Keeps.refl _ _).setCell (p := ⟨w.heap.size + 1, 0, none⟩) (by show w.heap.size + 1 < _; omega) u).setCell (p := ⟨w.heap.size + 1, 1, none⟩) (by show w.heap.size + 1 < _; omega) v
  exact ((hx.mono hlo (Below.refl _ _)).keeps hk).mono (by omega) (Below.refl _ _)
set_option maxHeartbeats 4000000 in
theorem first_any {n lo : Nat} {x : Ar} {va : Value} {w : World} (hx : ArIn (n + 1) lo w x va) (hchk : chkA 8 x = 0) (hcap : Caps va) : Calls Try.prog 36 #[va] w fun e w' => Gives2 (n + 1) w.heap.size (firstR x).1 (firstR x).2 w e w' := by
  obtain ⟨a1, c1, a2, c2, rfl, R, hc⟩ := hx.form
  obtain ⟨hc1, hc2⟩ : x.shape.length ≤ c1 ∧ x.cells.length ≤ c2 := by
    obtain ⟨b1, n1, k1, b2, n2, k2, hv, h1, h2⟩ := hcap
    simp only [Value.agg.injEq, Array.mk.injEq, List.cons.injEq, Value.slice.injEq, and_true] at hv
    obtain ⟨⟨-, rfl, rfl⟩, -, rfl, rfl⟩ := hv
    exact ⟨h1, h2⟩
  have I := in2_new w (.slice a1 x.shape.length c1) (.slice a2 x.cells.length c2)
  obtain ⟨W2, e2⟩ : ∃ W2, (w.alloc (.cells #[.slice a1 x.shape.length c1, .slice a2 x.cells.length c2] 25)).alloc (.cells #[.slice none 0 0, .slice none 0 0] 25) = W2 := ⟨_, rfl⟩
  have hz2 : W2.heap.size = w.heap.size + 2 := by rw [← e2]; simp
  rw [e2] at I
  have q0 := I.q0
  have q1 := I.q1
  have CT := tally_any (hx.next I.bel)
  have HI := hide I
  have HX := hide (And.intro hx hchk)
  have HRC := hide (And.intro R hc)
  have HE : Hid (firstR x = if tallyN x = 0 then (zeroA, 8) else if x.shape.length = 0 then (x, 0) else (itemR x, 0)) := rfl
  have HIF := hide (fun hs ht => item_facts hchk hs ht)
  obtain ⟨l8, c16⟩ := chk_len hchk
  obtain ⟨SA, hSA⟩ : ∃ SA, x.shape.length = SA := ⟨_, rfl⟩
  obtain ⟨CA, hCA⟩ : ∃ CA, x.cells.length = CA := ⟨_, rfl⟩
  have HSC := hide (And.intro hSA hCA)
  simp only [hSA, hCA] at CT e2 q0 q1 HI HX HE HIF hc1 hc2 l8 c16 ⊢
  obtain ⟨T, hT⟩ : ∃ T, tallyN x = T := ⟨_, rfl⟩
  have HTT := hide hT
  simp only [hT] at CT HE HIF
  clear R hc I hx hchk hSA hCA hT hcap
  go_enter Try.func36, Try.ntmps36
  go_wp2_with fail
  clear e2 q0 q1
  refine CT.mono ?_
  rintro e w1 ⟨rfl, hb1⟩
  have I1 := HI.out.next hb1
  have q0 := I1.q0
  have q1 := I1.q1
  have HI1 := hide I1
  by_cases hT0 : T = 0
  · have p0 := I1.p0
    have p1 := I1.p1
    have f0 := I1.f0
    have f1 := I1.f1
    have HT := hide (I1.put (.slice none 0 0) (.slice none 0 0))
    have HE5 : Hid (firstR x = (zeroA, 8)) := by unfold Hid; rw [HE.out, if_pos hT0]
    clear I1 hb1 CT HI HX HE q0 q1 HRC HIF
    go_wp2
    exact bodyPost_ret (v := .tuple #[.agg #[.slice none 0 0, .slice none 0 0], .int .i64 8]) (by simp [results, Try.results36, go_sem, HT.out.1, HT.out.2]) rfl (gives2_of HE5.out (zeroA_in _ _ _) (HI1.out.fin _ _))
  · by_cases hS0 : SA = 0
    · have CC := copyA HX.out.2 (HX.out.1.next I1.bel)
      have HE5 : Hid (firstR x = (x, 0)) := by unfold Hid; rw [HE.out, if_neg hT0, if_pos hS0]
      have hTb : (T == 0) = false := beq_eq_false_iff_ne.2 hT0
      have hSb : ((SA : Int) == 0) = true := by simp [hS0]
      clear I1 hb1 CT HI HX HE HRC HIF hS0
      go_wp2_with fail
      refine CC.mono ?_
      rintro e w2 ⟨⟨v, rfl, hv⟩, hb2⟩
      obtain ⟨z1, m1, z2, m2, rfl, -, -⟩ := hv.form
      rw [HSC.out.1, HSC.out.2] at hv ⊢
      have I4 := HI1.out.next hb2
      have p0 := I4.p0
      have p1 := I4.p1
      have f0 := I4.f0
      have f1 := I4.f1
      have HT := hide (I4.put (.slice z1 SA m1) (.slice z2 CA m2))
      have HF := hide (I4.give hv HI1.out.size)
      have HFI := hide I4.fin
      clear I4 hv hb2 CC HI1 q0 q1
      go_wp2
      exact bodyPost_ret (v := .tuple #[.agg #[.slice z1 SA m1, .slice z2 CA m2], .int .i64 0]) (by simp [results, Try.results36, go_sem, HT.out.1, HT.out.2]) rfl (gives2_of HE5.out (HF.out _ _) (HFI.out _ _))
    · have HE5 : Hid (firstR x = (itemR x, 0)) := by unfold Hid; rw [HE.out, if_neg hT0, if_neg hS0]
      have hTb : (T == 0) = false := beq_eq_false_iff_ne.2 hT0
      have hSb : ((SA : Int) == 0) = false := by simp; exact hS0
      obtain ⟨i1, i2, i3, i4, i5, i6⟩ := HIF.out (by omega) hT0
      obtain ⟨b, off, rfl, -, -⟩ := row_at HRC.out.1 (j := 0) (by rw [HSC.out.1]; omega)
      obtain ⟨t, rfl⟩ : ∃ t : Nat, T = (t : Int) := ⟨T.toNat, by omega⟩
      by_cases hc11 : c1 = 1
      · subst hc11
        have hS1 : SA = 1 := by omega
        subst hS1
        by_cases hc20 : c2 = 0
        · subst hc20
          have hC0 : CA = 0 := by omega
          subst hC0
          obtain ⟨m, hm⟩ : ∃ m : Nat, m = 0 / t := ⟨_, rfl⟩
          have hmle : m ≤ 0 := by rw [hm]; exact Nat.div_le_self _ _
          have hm0 : m = 0 := by omega
          subst hm0
          have AI : ∀ W, Below w.heap.size w W → ArIn (n + 1) lo W (itemR x) (.agg #[.slice (some ⟨b, off, none⟩) 0 0, .slice a2 0 0]) := fun W hB => by
            refine arIn_mk (x := itemR x) (by have ht : x.shape.tail = [] := List.eq_nil_of_length_eq_zero (by rw [List.length_tail, HSC.out.1]); show Row lo W _ x.shape.tail; rw [ht]; exact row_nil _ _ _) ?_ ((HRC.out.2.mono (Nat.le_refl _) hB).take _) ?_ ?_
            · show (x.cells.take _).length ≤ _
              rw [List.length_take, HSC.out.2]; omega
            · show x.shape.tail.length = _
              rw [List.length_tail, HSC.out.1]
            · show (x.cells.take _).length = _
              rw [List.length_take, HSC.out.2, HTT.out, Int.toNat_natCast, ← hm]; omega
          have C1 : Hid (∀ W, (Fr w (.slice (some ⟨b, off, none⟩) 1 1) (.slice a2 0 0) W ∧ W.cell? ⟨w.heap.size, 0, none⟩ = some (.slice (some ⟨b, off, none⟩) 1 1) ∧ W.cell? ⟨w.heap.size, 1, none⟩ = some (.slice a2 0 0)) → Calls Try.prog 29 #[.agg #[.slice (some ⟨b, off, none⟩) 1 1, .slice a2 0 0]] W fun e w' => e = .returned (.int .i64 (t : Int)) ∧ Fr w (.slice (some ⟨b, off, none⟩) 1 1) (.slice a2 0 0) w') := by
            rintro W ⟨h, -⟩
            have := tally_any (HX.out.1.next h.bel)
            rw [HTT.out] at this
            exact this.mono fun e w' ⟨he, hb⟩ => ⟨he, h.next hb⟩
          have C2 : Hid (∀ W, (Fr w (.slice (some ⟨b, off, none⟩) 1 1) (.slice a2 0 0) W ∧ W.cell? ⟨w.heap.size, 0, none⟩ = some (.slice (some ⟨b, off, none⟩) 1 1) ∧ W.cell? ⟨w.heap.size, 1, none⟩ = some (.slice a2 0 0)) → Calls Try.prog 30 #[.agg #[.slice (some ⟨b, off, none⟩) 0 0, .slice a2 0 0]] W fun e w' => (∃ z1 m1 z2 m2, e = .returned (.agg #[.slice z1 0 m1, .slice z2 0 m2]) ∧ ArIn (n + 1) (w.heap.size + 2) w' (itemR x) (.agg #[.slice z1 0 m1, .slice z2 0 m2])) ∧ Fr w (.slice (some ⟨b, off, none⟩) 1 1) (.slice a2 0 0) w') := by
            rintro W ⟨h, -⟩
            refine (copyA i4 (AI W h.bel)).mono ?_
            rintro e w' ⟨⟨v, rfl, hv⟩, hb⟩
            have e1 : (itemR x).shape.length = 0 := by show x.shape.tail.length = _; rw [List.length_tail, HSC.out.1]
            have e2 : (itemR x).cells.length = 0 := by show (x.cells.take _).length = _; rw [List.length_take, HSC.out.2, HTT.out, Int.toNat_natCast, ← hm]; omega
            obtain ⟨z1, m1, z2, m2, rfl, -, -⟩ := hv.form
            rw [e1, e2] at hv ⊢
            exact ⟨⟨_, _, _, _, rfl, hv.mono h.size (Below.refl _ _)⟩, h.next hb⟩
          have hlt : w.heap.size < w1.heap.size := by have := I1.size; omega
          have KS : Hid (∀ W, Fr w (.slice (some ⟨b, off, none⟩) 1 1) (.slice a2 0 0) W → (Fr w (.slice (some ⟨b, off, none⟩) 1 1) (.slice a2 0 0) W ∧ W.cell? ⟨w.heap.size, 0, none⟩ = some (.slice (some ⟨b, off, none⟩) 1 1) ∧ W.cell? ⟨w.heap.size, 1, none⟩ = some (.slice a2 0 0))) := fun W h => ⟨h, h.q0, h.q1⟩
          have HRR : Hid (Fr w (.slice (some ⟨b, off, none⟩) 1 1) (.slice a2 0 0) w1.drew) := I1.fr.next (Below.refl _ _).drew
          have hT1 : ¬ (t : Int) = 0 := by omega
          have hT3 : ¬ t = 0 := by omega
          have hT2 : IntKind.i64.wrap (0 : Int) = 0 := by decide
          clear I1 hb1 CT HI HE AI i1 i2 i3 i4 i5 i6 hm HX HRC HIF hlt
          go_wp2
          go_region_held3 (fun W => Fr w (.slice (some ⟨b, off, none⟩) 1 1) (.slice a2 0 0) W ∧ W.cell? ⟨w.heap.size, 0, none⟩ = some (.slice (some ⟨b, off, none⟩) 1 1) ∧ W.cell? ⟨w.heap.size, 1, none⟩ = some (.slice a2 0 0))
            (first | exact KS.out _ HRR.out | exact KS.out _ (by assumption) | exact KS.out _ (Fr.set (by assumption) _ _))
            (first
              | (go_at_call 29; refine (C1.out _ (by assumption)).mono ?_; rintro e w2 ⟨rfl, hb2⟩)
              | (go_at_call 30; refine (C2.out _ (by assumption)).mono ?_; rintro e w3 ⟨⟨z1, m1, z2, m2, rfl, hv⟩, I3⟩; obtain ⟨u0, p0⟩ := I3.p0; obtain ⟨u1, p1⟩ := I3.p1; have f0 := I3.f0; have f1 := I3.f1))
          have HT := hide (set_two p0 p1 (.slice z1 0 m1) (.slice z2 0 m2))
          have HF := hide (give_at hv (Nat.le_refl _))
          have HFI := hide I3.fin
          clear I3 hv HI1 C1 C2 KS
          go_wp2
          exact bodyPost_ret (v := .tuple #[.agg #[.slice z1 0 m1, .slice z2 0 m2], .int .i64 0]) (by simp [results, Try.results36, go_sem, HT.out.1, HT.out.2]) rfl (gives2_of HE5.out (HF.out _ _) (HFI.out _ _))
        · have hc21 : ¬ c2 = 0 := hc20
          obtain ⟨m, hm⟩ : ∃ m : Nat, m = CA / t := ⟨_, rfl⟩
          have hmle : m ≤ CA := by rw [hm]; exact Nat.div_le_self _ _
          have hq : (CA : Int).tdiv (t : Int) = (m : Int) := by
            rw [Int.tdiv_eq_ediv_of_nonneg (by omega), hm, Int.natCast_ediv]
          have AI : ∀ W, Below w.heap.size w W → ArIn (n + 1) lo W (itemR x) (.agg #[.slice (some ⟨b, off, none⟩) 0 0, .slice a2 m c2]) := fun W hB => by
            refine arIn_mk (x := itemR x) (by have ht : x.shape.tail = [] := List.eq_nil_of_length_eq_zero (by rw [List.length_tail, HSC.out.1]); show Row lo W _ x.shape.tail; rw [ht]; exact row_nil _ _ _) ?_ ((HRC.out.2.mono (Nat.le_refl _) hB).take _) ?_ ?_
            · show (x.cells.take _).length ≤ _
              rw [List.length_take, HSC.out.2]; omega
            · show x.shape.tail.length = _
              rw [List.length_tail, HSC.out.1]
            · show (x.cells.take _).length = _
              rw [List.length_take, HSC.out.2, HTT.out, Int.toNat_natCast, ← hm]; omega
          have C1 : Hid (∀ W, (Fr w (.slice (some ⟨b, off, none⟩) 1 1) (.slice a2 CA c2) W ∧ W.cell? ⟨w.heap.size, 0, none⟩ = some (.slice (some ⟨b, off, none⟩) 1 1) ∧ W.cell? ⟨w.heap.size, 1, none⟩ = some (.slice a2 CA c2)) → Calls Try.prog 29 #[.agg #[.slice (some ⟨b, off, none⟩) 1 1, .slice a2 CA c2]] W fun e w' => e = .returned (.int .i64 (t : Int)) ∧ Fr w (.slice (some ⟨b, off, none⟩) 1 1) (.slice a2 CA c2) w') := by
            rintro W ⟨h, -⟩
            have := tally_any (HX.out.1.next h.bel)
            rw [HTT.out] at this
            exact this.mono fun e w' ⟨he, hb⟩ => ⟨he, h.next hb⟩
          have C2 : Hid (∀ W, (Fr w (.slice (some ⟨b, off, none⟩) 1 1) (.slice a2 CA c2) W ∧ W.cell? ⟨w.heap.size, 0, none⟩ = some (.slice (some ⟨b, off, none⟩) 1 1) ∧ W.cell? ⟨w.heap.size, 1, none⟩ = some (.slice a2 CA c2)) → Calls Try.prog 30 #[.agg #[.slice (some ⟨b, off, none⟩) 0 0, .slice a2 m c2]] W fun e w' => (∃ z1 m1 z2 m2, e = .returned (.agg #[.slice z1 0 m1, .slice z2 m m2]) ∧ ArIn (n + 1) (w.heap.size + 2) w' (itemR x) (.agg #[.slice z1 0 m1, .slice z2 m m2])) ∧ Fr w (.slice (some ⟨b, off, none⟩) 1 1) (.slice a2 CA c2) w') := by
            rintro W ⟨h, -⟩
            refine (copyA i4 (AI W h.bel)).mono ?_
            rintro e w' ⟨⟨v, rfl, hv⟩, hb⟩
            have e1 : (itemR x).shape.length = 0 := by show x.shape.tail.length = _; rw [List.length_tail, HSC.out.1]
            have e2 : (itemR x).cells.length = m := by show (x.cells.take _).length = _; rw [List.length_take, HSC.out.2, HTT.out, Int.toNat_natCast, ← hm]; omega
            obtain ⟨z1, m1, z2, m2, rfl, -, -⟩ := hv.form
            rw [e1, e2] at hv ⊢
            exact ⟨⟨_, _, _, _, rfl, hv.mono h.size (Below.refl _ _)⟩, h.next hb⟩
          have hlt : w.heap.size < w1.heap.size := by have := I1.size; omega
          have KS : Hid (∀ W, Fr w (.slice (some ⟨b, off, none⟩) 1 1) (.slice a2 CA c2) W → (Fr w (.slice (some ⟨b, off, none⟩) 1 1) (.slice a2 CA c2) W ∧ W.cell? ⟨w.heap.size, 0, none⟩ = some (.slice (some ⟨b, off, none⟩) 1 1) ∧ W.cell? ⟨w.heap.size, 1, none⟩ = some (.slice a2 CA c2))) := fun W h => ⟨h, h.q0, h.q1⟩
          have HRR : Hid (Fr w (.slice (some ⟨b, off, none⟩) 1 1) (.slice a2 CA c2) w1.drew) := I1.fr.next (Below.refl _ _).drew
          have hT1 : ¬ (t : Int) = 0 := by omega
          have hT3 : ¬ t = 0 := by omega
          have hm1 : (0 : Int) ≤ (m : Int) := by omega
          have hm2 : (m : Int) ≤ (c2 : Int) := by omega
          have hwm : IntKind.i64.wrap (m : Int) = (m : Int) := IntWalk.i64_in _ ⟨by omega, by omega⟩
          have hT2 : IntKind.i64.wrap (0 : Int) = 0 := by decide
          clear I1 hb1 CT HI HE AI i1 i2 i3 i4 i5 i6 hm HX HRC HIF hlt
          go_wp2
          go_region_held3 (fun W => Fr w (.slice (some ⟨b, off, none⟩) 1 1) (.slice a2 CA c2) W ∧ W.cell? ⟨w.heap.size, 0, none⟩ = some (.slice (some ⟨b, off, none⟩) 1 1) ∧ W.cell? ⟨w.heap.size, 1, none⟩ = some (.slice a2 CA c2))
            (first | exact KS.out _ HRR.out | exact KS.out _ (by assumption) | exact KS.out _ (Fr.set (by assumption) _ _))
            (first
              | (go_at_call 29; refine (C1.out _ (by assumption)).mono ?_; rintro e w2 ⟨rfl, hb2⟩)
              | (go_at_call 30; refine (C2.out _ (by assumption)).mono ?_; rintro e w3 ⟨⟨z1, m1, z2, m2, rfl, hv⟩, I3⟩; obtain ⟨u0, p0⟩ := I3.p0; obtain ⟨u1, p1⟩ := I3.p1; have f0 := I3.f0; have f1 := I3.f1))
          have HT := hide (set_two p0 p1 (.slice z1 0 m1) (.slice z2 m m2))
          have HF := hide (give_at hv (Nat.le_refl _))
          have HFI := hide I3.fin
          clear I3 hv HI1 C1 C2 KS
          go_wp2
          exact bodyPost_ret (v := .tuple #[.agg #[.slice z1 0 m1, .slice z2 m m2], .int .i64 0]) (by simp [results, Try.results36, go_sem, HT.out.1, HT.out.2]) rfl (gives2_of HE5.out (HF.out _ _) (HFI.out _ _))
      · have hc12 : ¬ c1 = 1 := hc11
        have h1SA : (1 : Int) ≤ (SA : Int) := by omega
        by_cases hc20 : c2 = 0
        · subst hc20
          have hC0 : CA = 0 := by omega
          subst hC0
          obtain ⟨m, hm⟩ : ∃ m : Nat, m = 0 / t := ⟨_, rfl⟩
          have hmle : m ≤ 0 := by rw [hm]; exact Nat.div_le_self _ _
          have hm0 : m = 0 := by omega
          subst hm0
          have AI : ∀ W, Below w.heap.size w W → ArIn (n + 1) lo W (itemR x) (.agg #[.slice (some ⟨b, off + 1, none⟩) (SA - 1) (c1 - 1), .slice a2 0 0]) := fun W hB => by
            refine arIn_mk (x := itemR x) ((HRC.out.1.next hB).tail) ?_ ((HRC.out.2.mono (Nat.le_refl _) hB).take _) ?_ ?_
            · show (x.cells.take _).length ≤ _
              rw [List.length_take, HSC.out.2]; omega
            · show x.shape.tail.length = _
              rw [List.length_tail, HSC.out.1]
            · show (x.cells.take _).length = _
              rw [List.length_take, HSC.out.2, HTT.out, Int.toNat_natCast, ← hm]; omega
          have C1 : Hid (∀ W, (Fr w (.slice (some ⟨b, off, none⟩) SA c1) (.slice a2 0 0) W ∧ W.cell? ⟨w.heap.size, 0, none⟩ = some (.slice (some ⟨b, off, none⟩) SA c1) ∧ W.cell? ⟨w.heap.size, 1, none⟩ = some (.slice a2 0 0)) → Calls Try.prog 29 #[.agg #[.slice (some ⟨b, off, none⟩) SA c1, .slice a2 0 0]] W fun e w' => e = .returned (.int .i64 (t : Int)) ∧ Fr w (.slice (some ⟨b, off, none⟩) SA c1) (.slice a2 0 0) w') := by
            rintro W ⟨h, -⟩
            have := tally_any (HX.out.1.next h.bel)
            rw [HTT.out] at this
            exact this.mono fun e w' ⟨he, hb⟩ => ⟨he, h.next hb⟩
          have C2 : Hid (∀ W, (Fr w (.slice (some ⟨b, off, none⟩) SA c1) (.slice a2 0 0) W ∧ W.cell? ⟨w.heap.size, 0, none⟩ = some (.slice (some ⟨b, off, none⟩) SA c1) ∧ W.cell? ⟨w.heap.size, 1, none⟩ = some (.slice a2 0 0)) → Calls Try.prog 30 #[.agg #[.slice (some ⟨b, off + 1, none⟩) (SA - 1) (c1 - 1), .slice a2 0 0]] W fun e w' => (∃ z1 m1 z2 m2, e = .returned (.agg #[.slice z1 (SA - 1) m1, .slice z2 0 m2]) ∧ ArIn (n + 1) (w.heap.size + 2) w' (itemR x) (.agg #[.slice z1 (SA - 1) m1, .slice z2 0 m2])) ∧ Fr w (.slice (some ⟨b, off, none⟩) SA c1) (.slice a2 0 0) w') := by
            rintro W ⟨h, -⟩
            refine (copyA i4 (AI W h.bel)).mono ?_
            rintro e w' ⟨⟨v, rfl, hv⟩, hb⟩
            have e1 : (itemR x).shape.length = SA - 1 := by show x.shape.tail.length = _; rw [List.length_tail, HSC.out.1]
            have e2 : (itemR x).cells.length = 0 := by show (x.cells.take _).length = _; rw [List.length_take, HSC.out.2, HTT.out, Int.toNat_natCast, ← hm]; omega
            obtain ⟨z1, m1, z2, m2, rfl, -, -⟩ := hv.form
            rw [e1, e2] at hv ⊢
            exact ⟨⟨_, _, _, _, rfl, hv.mono h.size (Below.refl _ _)⟩, h.next hb⟩
          have hlt : w.heap.size < w1.heap.size := by have := I1.size; omega
          have KS : Hid (∀ W, Fr w (.slice (some ⟨b, off, none⟩) SA c1) (.slice a2 0 0) W → (Fr w (.slice (some ⟨b, off, none⟩) SA c1) (.slice a2 0 0) W ∧ W.cell? ⟨w.heap.size, 0, none⟩ = some (.slice (some ⟨b, off, none⟩) SA c1) ∧ W.cell? ⟨w.heap.size, 1, none⟩ = some (.slice a2 0 0))) := fun W h => ⟨h, h.q0, h.q1⟩
          have HRR : Hid (Fr w (.slice (some ⟨b, off, none⟩) SA c1) (.slice a2 0 0) w1.drew) := I1.fr.next (Below.refl _ _).drew
          have hT1 : ¬ (t : Int) = 0 := by omega
          have hT3 : ¬ t = 0 := by omega
          have hT2 : IntKind.i64.wrap (0 : Int) = 0 := by decide
          have hSA1 : 1 ≤ SA := by omega
          clear I1 hb1 CT HI HE AI i1 i2 i3 i4 i5 i6 hm HX HRC HIF hlt
          go_wp2
          go_region_held3 (fun W => Fr w (.slice (some ⟨b, off, none⟩) SA c1) (.slice a2 0 0) W ∧ W.cell? ⟨w.heap.size, 0, none⟩ = some (.slice (some ⟨b, off, none⟩) SA c1) ∧ W.cell? ⟨w.heap.size, 1, none⟩ = some (.slice a2 0 0))
            (first | exact KS.out _ HRR.out | exact KS.out _ (by assumption) | exact KS.out _ (Fr.set (by assumption) _ _))
            (first
              | (go_at_call 29; refine (C1.out _ (by assumption)).mono ?_; rintro e w2 ⟨rfl, hb2⟩)
              | (go_at_call 30; refine (C2.out _ (by assumption)).mono ?_; rintro e w3 ⟨⟨z1, m1, z2, m2, rfl, hv⟩, I3⟩; obtain ⟨u0, p0⟩ := I3.p0; obtain ⟨u1, p1⟩ := I3.p1; have f0 := I3.f0; have f1 := I3.f1))
          have HT := hide (set_two p0 p1 (.slice z1 (SA - 1) m1) (.slice z2 0 m2))
          have HF := hide (give_at hv (Nat.le_refl _))
          have HFI := hide I3.fin
          clear I3 hv HI1 C1 C2 KS
          go_wp2
          exact bodyPost_ret (v := .tuple #[.agg #[.slice z1 (SA - 1) m1, .slice z2 0 m2], .int .i64 0]) (by simp [results, Try.results36, go_sem, HT.out.1, HT.out.2]) rfl (gives2_of HE5.out (HF.out _ _) (HFI.out _ _))
        · have hc21 : ¬ c2 = 0 := hc20
          obtain ⟨m, hm⟩ : ∃ m : Nat, m = CA / t := ⟨_, rfl⟩
          have hmle : m ≤ CA := by rw [hm]; exact Nat.div_le_self _ _
          have hq : (CA : Int).tdiv (t : Int) = (m : Int) := by
            rw [Int.tdiv_eq_ediv_of_nonneg (by omega), hm, Int.natCast_ediv]
          have AI : ∀ W, Below w.heap.size w W → ArIn (n + 1) lo W (itemR x) (.agg #[.slice (some ⟨b, off + 1, none⟩) (SA - 1) (c1 - 1), .slice a2 m c2]) := fun W hB => by
            refine arIn_mk (x := itemR x) ((HRC.out.1.next hB).tail) ?_ ((HRC.out.2.mono (Nat.le_refl _) hB).take _) ?_ ?_
            · show (x.cells.take _).length ≤ _
              rw [List.length_take, HSC.out.2]; omega
            · show x.shape.tail.length = _
              rw [List.length_tail, HSC.out.1]
            · show (x.cells.take _).length = _
              rw [List.length_take, HSC.out.2, HTT.out, Int.toNat_natCast, ← hm]; omega
          have C1 : Hid (∀ W, (Fr w (.slice (some ⟨b, off, none⟩) SA c1) (.slice a2 CA c2) W ∧ W.cell? ⟨w.heap.size, 0, none⟩ = some (.slice (some ⟨b, off, none⟩) SA c1) ∧ W.cell? ⟨w.heap.size, 1, none⟩ = some (.slice a2 CA c2)) → Calls Try.prog 29 #[.agg #[.slice (some ⟨b, off, none⟩) SA c1, .slice a2 CA c2]] W fun e w' => e = .returned (.int .i64 (t : Int)) ∧ Fr w (.slice (some ⟨b, off, none⟩) SA c1) (.slice a2 CA c2) w') := by
            rintro W ⟨h, -⟩
            have := tally_any (HX.out.1.next h.bel)
            rw [HTT.out] at this
            exact this.mono fun e w' ⟨he, hb⟩ => ⟨he, h.next hb⟩
          have C2 : Hid (∀ W, (Fr w (.slice (some ⟨b, off, none⟩) SA c1) (.slice a2 CA c2) W ∧ W.cell? ⟨w.heap.size, 0, none⟩ = some (.slice (some ⟨b, off, none⟩) SA c1) ∧ W.cell? ⟨w.heap.size, 1, none⟩ = some (.slice a2 CA c2)) → Calls Try.prog 30 #[.agg #[.slice (some ⟨b, off + 1, none⟩) (SA - 1) (c1 - 1), .slice a2 m c2]] W fun e w' => (∃ z1 m1 z2 m2, e = .returned (.agg #[.slice z1 (SA - 1) m1, .slice z2 m m2]) ∧ ArIn (n + 1) (w.heap.size + 2) w' (itemR x) (.agg #[.slice z1 (SA - 1) m1, .slice z2 m m2])) ∧ Fr w (.slice (some ⟨b, off, none⟩) SA c1) (.slice a2 CA c2) w') := by
            rintro W ⟨h, -⟩
            refine (copyA i4 (AI W h.bel)).mono ?_
            rintro e w' ⟨⟨v, rfl, hv⟩, hb⟩
            have e1 : (itemR x).shape.length = SA - 1 := by show x.shape.tail.length = _; rw [List.length_tail, HSC.out.1]
            have e2 : (itemR x).cells.length = m := by show (x.cells.take _).length = _; rw [List.length_take, HSC.out.2, HTT.out, Int.toNat_natCast, ← hm]; omega
            obtain ⟨z1, m1, z2, m2, rfl, -, -⟩ := hv.form
            rw [e1, e2] at hv ⊢
            exact ⟨⟨_, _, _, _, rfl, hv.mono h.size (Below.refl _ _)⟩, h.next hb⟩
          have hlt : w.heap.size < w1.heap.size := by have := I1.size; omega
          have KS : Hid (∀ W, Fr w (.slice (some ⟨b, off, none⟩) SA c1) (.slice a2 CA c2) W → (Fr w (.slice (some ⟨b, off, none⟩) SA c1) (.slice a2 CA c2) W ∧ W.cell? ⟨w.heap.size, 0, none⟩ = some (.slice (some ⟨b, off, none⟩) SA c1) ∧ W.cell? ⟨w.heap.size, 1, none⟩ = some (.slice a2 CA c2))) := fun W h => ⟨h, h.q0, h.q1⟩
          have HRR : Hid (Fr w (.slice (some ⟨b, off, none⟩) SA c1) (.slice a2 CA c2) w1.drew) := I1.fr.next (Below.refl _ _).drew
          have hT1 : ¬ (t : Int) = 0 := by omega
          have hT3 : ¬ t = 0 := by omega
          have hm1 : (0 : Int) ≤ (m : Int) := by omega
          have hm2 : (m : Int) ≤ (c2 : Int) := by omega
          have hwm : IntKind.i64.wrap (m : Int) = (m : Int) := IntWalk.i64_in _ ⟨by omega, by omega⟩
          have hT2 : IntKind.i64.wrap (0 : Int) = 0 := by decide
          have hSA1 : 1 ≤ SA := by omega
          clear I1 hb1 CT HI HE AI i1 i2 i3 i4 i5 i6 hm HX HRC HIF hlt
          go_wp2
          go_region_held3 (fun W => Fr w (.slice (some ⟨b, off, none⟩) SA c1) (.slice a2 CA c2) W ∧ W.cell? ⟨w.heap.size, 0, none⟩ = some (.slice (some ⟨b, off, none⟩) SA c1) ∧ W.cell? ⟨w.heap.size, 1, none⟩ = some (.slice a2 CA c2))
            (first | exact KS.out _ HRR.out | exact KS.out _ (by assumption) | exact KS.out _ (Fr.set (by assumption) _ _))
            (first
              | (go_at_call 29; refine (C1.out _ (by assumption)).mono ?_; rintro e w2 ⟨rfl, hb2⟩)
              | (go_at_call 30; refine (C2.out _ (by assumption)).mono ?_; rintro e w3 ⟨⟨z1, m1, z2, m2, rfl, hv⟩, I3⟩; obtain ⟨u0, p0⟩ := I3.p0; obtain ⟨u1, p1⟩ := I3.p1; have f0 := I3.f0; have f1 := I3.f1))
          have HT := hide (set_two p0 p1 (.slice z1 (SA - 1) m1) (.slice z2 m m2))
          have HF := hide (give_at hv (Nat.le_refl _))
          have HFI := hide I3.fin
          clear I3 hv HI1 C1 C2 KS
          go_wp2
          exact bodyPost_ret (v := .tuple #[.agg #[.slice z1 (SA - 1) m1, .slice z2 m m2], .int .i64 0]) (by simp [results, Try.results36, go_sem, HT.out.1, HT.out.2]) rfl (gives2_of HE5.out (HF.out _ _) (HFI.out _ _))
end Go.Proofs.Ytmjncdhahdpplaa
namespace Go.Proofs.Ytmjncdhahdpplaa
open Go.ChangeShapes Go.WideShapes Go.ChangeAt Go.RowKit
set_option linter.unusedVariables false
set_option maxRecDepth 100000
theorem moR_ok {n : Nat} {op : Int} {x : Ar} (h : chkA 8 x = 0) : moR n op x = if op = 5 then iotaR x else if op = 6 then (numsA x.shape, 0) else if op = 7 then (atomA (tallyN x), 0) else if op = 8 then (ravelR x, 0) else
  if op = 9 then (revR x 0, 0) else if op = 10 then (revR x (x.shape.length - 1), 0) else if op = 11 then (flipR x, 0) else
  if op = 15 then enclR n x else if op = 16 then discR x else if op = 17 then firstR x else if op = 18 then listR x else (zeroA, 1) := by
  unfold moR
  rw [if_neg (fun k => k h)]
theorem gives2_eq {n lo : Nat} {w w' : World} {v : Value} {R R' : Ar × Int} (hR : R = R') (hx : ArIn n lo w' R'.1 v) (hb : Below w.heap.size w w') : Gives2 n lo R.1 R.2 w (.returned (.tuple #[v, .int .i64 R'.2])) w' := by
  subst hR
  exact ⟨⟨_, rfl, hx⟩, hb⟩
set_option maxHeartbeats 2000000 in
theorem mo_iota {n lo : Nat} {x : Ar} {va : Value} {w : World} (hx : ArIn (n + 1) lo w x va) (hchk : chkA 8 x = 0) : Calls Try.prog 13 #[.int .i64 5, va] w fun e w' => Gives2 (n + 2) w.heap.size (moR (n + 1) 5 x).1 (moR (n + 1) 5 x).2 w e w' := by
  obtain ⟨a1, c1, a2, c2, rfl, R, hc⟩ := hx.form
  have I := in2_new w (.slice a1 x.shape.length c1) (.slice a2 x.cells.length c2)
  obtain ⟨W2, e2⟩ : ∃ W2, (w.alloc (.cells #[.slice a1 x.shape.length c1, .slice a2 x.cells.length c2] 25)).alloc (.cells #[.slice none 0 0, .slice none 0 0] 25) = W2 := ⟨_, rfl⟩
  rw [e2] at I
  have q0 := I.q0
  have q1 := I.q1
  have hl := R.1
  have CK := check_any (n + 1) x _ _ W2 (hx.next I.bel)
  rw [hchk] at CK
  have HI := hide I
  have HX := hide (And.intro hx hchk)
  have HRC := hide (And.intro R hc)
  obtain ⟨l8, c16⟩ := chk_len hchk
  have HMO := hide (moR_ok (n := n + 1) (op := 5) hchk)
  obtain ⟨SA, hSA⟩ : ∃ SA, x.shape.length = SA := ⟨_, rfl⟩
  obtain ⟨CA, hCA⟩ : ∃ CA, x.cells.length = CA := ⟨_, rfl⟩
  have HSC := hide (And.intro hSA hCA)
  simp only [hSA, hCA] at CK e2 q0 q1 HI HX l8 c16 hl ⊢
  clear R hc I hx hchk hSA hCA
  go_enter Try.func13, Try.ntmps13
  go_wp2_with fail
  clear e2 q0 q1
  refine CK.mono ?_
  rintro e w1 ⟨rfl, hb1⟩
  have I1 := HI.out.next hb1
  have q0 := I1.q0
  have q1 := I1.q1
  have p0 := I1.p0
  have p1 := I1.p1
  have f0 := I1.f0
  have f1 := I1.f1
  have HI1 := hide I1
  have CC := upTo_any (HX.out.1.next I1.bel) HX.out.2
  have HE : Hid (moR (n + 1) 5 x = iotaR x) := by unfold Hid; rw [HMO.out]; simp
  clear I1 hb1 CK HI HX HRC HMO p0 p1 f0 f1
  go_wp2_with fail
  refine CC.mono ?_
  rintro e w2 ⟨⟨v, rfl, hv⟩, hb2⟩
  obtain ⟨z1, m1, z2, m2, rfl, -, -⟩ := hv.form
  have I2 := HI1.out.next hb2
  have p0 := I2.p0
  have p1 := I2.p1
  have f0 := I2.f0
  have f1 := I2.f1
  have HT := hide (I2.put (.slice z1 (iotaR x).1.shape.length m1) (.slice z2 (iotaR x).1.cells.length m2))
  have HF := hide (I2.give hv.deeper HI1.out.size)
  have HFI := hide I2.fin
  clear I2 hv hb2 CC HI1 q0 q1
  generalize (iotaR x).1.shape.length = SB at *
  generalize (iotaR x).1.cells.length = CB at *
  obtain ⟨E, hE⟩ : ∃ E, (iotaR x).2 = E := ⟨_, rfl⟩
  rw [hE]
  have HEE := hide hE
  clear hE
  go_wp2
  exact bodyPost_ret (v := .tuple #[.agg #[.slice z1 SB m1, .slice z2 CB m2], .int .i64 E]) (by simp [results, Try.results13, go_sem, HT.out.1, HT.out.2]) rfl (by rw [← HEE.out]; exact gives2_eq HE.out (HF.out _ _) (HFI.out _ _))
set_option maxHeartbeats 2000000 in
theorem mo_shape {n lo : Nat} {x : Ar} {va : Value} {w : World} (hx : ArIn (n + 1) lo w x va) (hchk : chkA 8 x = 0) : Calls Try.prog 13 #[.int .i64 6, va] w fun e w' => Gives2 (n + 2) w.heap.size (moR (n + 1) 6 x).1 (moR (n + 1) 6 x).2 w e w' := by
  obtain ⟨a1, c1, a2, c2, rfl, R, hc⟩ := hx.form
  have I := in2_new w (.slice a1 x.shape.length c1) (.slice a2 x.cells.length c2)
  obtain ⟨W2, e2⟩ : ∃ W2, (w.alloc (.cells #[.slice a1 x.shape.length c1, .slice a2 x.cells.length c2] 25)).alloc (.cells #[.slice none 0 0, .slice none 0 0] 25) = W2 := ⟨_, rfl⟩
  rw [e2] at I
  have q0 := I.q0
  have q1 := I.q1
  have hl := R.1
  have CK := check_any (n + 1) x _ _ W2 (hx.next I.bel)
  rw [hchk] at CK
  have HI := hide I
  have HX := hide (And.intro hx hchk)
  have HRC := hide (And.intro R hc)
  obtain ⟨l8, c16⟩ := chk_len hchk
  have HMO := hide (moR_ok (n := n + 1) (op := 6) hchk)
  obtain ⟨SA, hSA⟩ : ∃ SA, x.shape.length = SA := ⟨_, rfl⟩
  obtain ⟨CA, hCA⟩ : ∃ CA, x.cells.length = CA := ⟨_, rfl⟩
  have HSC := hide (And.intro hSA hCA)
  simp only [hSA, hCA] at CK e2 q0 q1 HI HX l8 c16 hl ⊢
  clear R hc I hx hchk hSA hCA
  go_enter Try.func13, Try.ntmps13
  go_wp2_with fail
  clear e2 q0 q1
  refine CK.mono ?_
  rintro e w1 ⟨rfl, hb1⟩
  have I1 := HI.out.next hb1
  have q0 := I1.q0
  have q1 := I1.q1
  have p0 := I1.p0
  have p1 := I1.p1
  have f0 := I1.f0
  have f1 := I1.f1
  have HI1 := hide I1
  have CC := axes_any n x.shape a1 c1 w1 (HRC.out.1.next I1.bel) (by rw [HSC.out.1]; exact l8)
  rw [HSC.out.1] at CC
  have HE : Hid (moR (n + 1) 6 x = (numsA x.shape, 0)) := by unfold Hid; rw [HMO.out]; simp
  clear I1 hb1 CK HI HX HRC HMO p0 p1 f0 f1
  go_wp2_with fail
  refine CC.mono ?_
  rintro e w2 ⟨⟨v, rfl, hv⟩, hb2⟩
  obtain ⟨z1, m1, z2, m2, rfl, -, -⟩ := hv.form
  have I2 := HI1.out.next hb2
  have p0 := I2.p0
  have p1 := I2.p1
  have f0 := I2.f0
  have f1 := I2.f1
  have HT := hide (I2.put (.slice z1 (numsA x.shape).shape.length m1) (.slice z2 (numsA x.shape).cells.length m2))
  have HF := hide (I2.give hv.deeper HI1.out.size)
  have HFI := hide I2.fin
  clear I2 hv hb2 CC HI1 q0 q1
  generalize (numsA x.shape).shape.length = SB at *
  generalize (numsA x.shape).cells.length = CB at *
  go_wp2
  exact bodyPost_ret (v := .tuple #[.agg #[.slice z1 SB m1, .slice z2 CB m2], .int .i64 0]) (by simp [results, Try.results13, go_sem, HT.out.1, HT.out.2]) rfl (gives2_of HE.out (HF.out _ _) (HFI.out _ _))
set_option maxHeartbeats 2000000 in
theorem mo_revF {n lo : Nat} {x : Ar} {va : Value} {w : World} (hx : ArIn (n + 1) lo w x va) (hchk : chkA 8 x = 0) : Calls Try.prog 13 #[.int .i64 9, va] w fun e w' => Gives2 (n + 2) w.heap.size (moR (n + 1) 9 x).1 (moR (n + 1) 9 x).2 w e w' := by
  obtain ⟨a1, c1, a2, c2, rfl, R, hc⟩ := hx.form
  have I := in2_new w (.slice a1 x.shape.length c1) (.slice a2 x.cells.length c2)
  obtain ⟨W2, e2⟩ : ∃ W2, (w.alloc (.cells #[.slice a1 x.shape.length c1, .slice a2 x.cells.length c2] 25)).alloc (.cells #[.slice none 0 0, .slice none 0 0] 25) = W2 := ⟨_, rfl⟩
  rw [e2] at I
  have q0 := I.q0
  have q1 := I.q1
  have hl := R.1
  have CK := check_any (n + 1) x _ _ W2 (hx.next I.bel)
  rw [hchk] at CK
  have HI := hide I
  have HX := hide (And.intro hx hchk)
  have HRC := hide (And.intro R hc)
  obtain ⟨l8, c16⟩ := chk_len hchk
  have HMO := hide (moR_ok (n := n + 1) (op := 9) hchk)
  obtain ⟨SA, hSA⟩ : ∃ SA, x.shape.length = SA := ⟨_, rfl⟩
  obtain ⟨CA, hCA⟩ : ∃ CA, x.cells.length = CA := ⟨_, rfl⟩
  have HSC := hide (And.intro hSA hCA)
  simp only [hSA, hCA] at CK e2 q0 q1 HI HX l8 c16 hl ⊢
  clear R hc I hx hchk hSA hCA
  go_enter Try.func13, Try.ntmps13
  go_wp2_with fail
  clear e2 q0 q1
  refine CK.mono ?_
  rintro e w1 ⟨rfl, hb1⟩
  have I1 := HI.out.next hb1
  have q0 := I1.q0
  have q1 := I1.q1
  have p0 := I1.p0
  have p1 := I1.p1
  have f0 := I1.f0
  have f1 := I1.f1
  have HI1 := hide I1
  have CC := turned_any (HX.out.1.next I1.bel) HX.out.2 0 0 (fun h => ⟨h, rfl⟩)
  have HE : Hid (moR (n + 1) 9 x = (revR x 0, 0)) := by unfold Hid; rw [HMO.out]; simp
  clear I1 hb1 CK HI HX HRC HMO p0 p1 f0 f1
  go_wp2_with fail
  refine CC.mono ?_
  rintro e w2 ⟨⟨v, rfl, hv⟩, hb2⟩
  obtain ⟨z1, m1, z2, m2, rfl, -, -⟩ := hv.form
  have I2 := HI1.out.next hb2
  have p0 := I2.p0
  have p1 := I2.p1
  have f0 := I2.f0
  have f1 := I2.f1
  have HT := hide (I2.put (.slice z1 (revR x 0).shape.length m1) (.slice z2 (revR x 0).cells.length m2))
  have HF := hide (I2.give hv.deeper HI1.out.size)
  have HFI := hide I2.fin
  clear I2 hv hb2 CC HI1 q0 q1
  generalize (revR x 0).shape.length = SB at *
  generalize (revR x 0).cells.length = CB at *
  go_wp2
  exact bodyPost_ret (v := .tuple #[.agg #[.slice z1 SB m1, .slice z2 CB m2], .int .i64 0]) (by simp [results, Try.results13, go_sem, HT.out.1, HT.out.2]) rfl (gives2_of HE.out (HF.out _ _) (HFI.out _ _))
set_option maxHeartbeats 2000000 in
theorem mo_revL {n lo : Nat} {x : Ar} {va : Value} {w : World} (hx : ArIn (n + 1) lo w x va) (hchk : chkA 8 x = 0) : Calls Try.prog 13 #[.int .i64 10, va] w fun e w' => Gives2 (n + 2) w.heap.size (moR (n + 1) 10 x).1 (moR (n + 1) 10 x).2 w e w' := by
  obtain ⟨a1, c1, a2, c2, rfl, R, hc⟩ := hx.form
  have I := in2_new w (.slice a1 x.shape.length c1) (.slice a2 x.cells.length c2)
  obtain ⟨W2, e2⟩ : ∃ W2, (w.alloc (.cells #[.slice a1 x.shape.length c1, .slice a2 x.cells.length c2] 25)).alloc (.cells #[.slice none 0 0, .slice none 0 0] 25) = W2 := ⟨_, rfl⟩
  rw [e2] at I
  have q0 := I.q0
  have q1 := I.q1
  have hl := R.1
  have CK := check_any (n + 1) x _ _ W2 (hx.next I.bel)
  rw [hchk] at CK
  have HI := hide I
  have HX := hide (And.intro hx hchk)
  have HRC := hide (And.intro R hc)
  obtain ⟨l8, c16⟩ := chk_len hchk
  have HMO := hide (moR_ok (n := n + 1) (op := 10) hchk)
  obtain ⟨SA, hSA⟩ : ∃ SA, x.shape.length = SA := ⟨_, rfl⟩
  obtain ⟨CA, hCA⟩ : ∃ CA, x.cells.length = CA := ⟨_, rfl⟩
  have HSC := hide (And.intro hSA hCA)
  simp only [hSA, hCA] at CK e2 q0 q1 HI HX l8 c16 hl ⊢
  clear R hc I hx hchk hSA hCA
  go_enter Try.func13, Try.ntmps13
  go_wp2_with fail
  clear e2 q0 q1
  refine CK.mono ?_
  rintro e w1 ⟨rfl, hb1⟩
  have I1 := HI.out.next hb1
  have q0 := I1.q0
  have q1 := I1.q1
  have p0 := I1.p0
  have p1 := I1.p1
  have f0 := I1.f0
  have f1 := I1.f1
  have HI1 := hide I1
  have CC := turned_any (HX.out.1.next I1.bel) HX.out.2 (x.shape.length - 1) ((SA : Int) - 1) (fun h => ⟨by omega, by have := HSC.out.1; omega⟩)
  have HE : Hid (moR (n + 1) 10 x = (revR x (x.shape.length - 1), 0)) := by unfold Hid; rw [HMO.out]; simp
  clear I1 hb1 CK HI HX HRC HMO p0 p1 f0 f1
  go_wp2_with fail
  refine CC.mono ?_
  rintro e w2 ⟨⟨v, rfl, hv⟩, hb2⟩
  obtain ⟨z1, m1, z2, m2, rfl, -, -⟩ := hv.form
  have I2 := HI1.out.next hb2
  have p0 := I2.p0
  have p1 := I2.p1
  have f0 := I2.f0
  have f1 := I2.f1
  have HT := hide (I2.put (.slice z1 (revR x (x.shape.length - 1)).shape.length m1) (.slice z2 (revR x (x.shape.length - 1)).cells.length m2))
  have HF := hide (I2.give hv.deeper HI1.out.size)
  have HFI := hide I2.fin
  clear I2 hv hb2 CC HI1 q0 q1
  generalize (revR x (x.shape.length - 1)).shape.length = SB at *
  generalize (revR x (x.shape.length - 1)).cells.length = CB at *
  go_wp2
  exact bodyPost_ret (v := .tuple #[.agg #[.slice z1 SB m1, .slice z2 CB m2], .int .i64 0]) (by simp [results, Try.results13, go_sem, HT.out.1, HT.out.2]) rfl (gives2_of HE.out (HF.out _ _) (HFI.out _ _))
set_option maxHeartbeats 2000000 in
theorem mo_flip {n lo : Nat} {x : Ar} {va : Value} {w : World} (hx : ArIn (n + 1) lo w x va) (hchk : chkA 8 x = 0) : Calls Try.prog 13 #[.int .i64 11, va] w fun e w' => Gives2 (n + 2) w.heap.size (moR (n + 1) 11 x).1 (moR (n + 1) 11 x).2 w e w' := by
  obtain ⟨a1, c1, a2, c2, rfl, R, hc⟩ := hx.form
  have I := in2_new w (.slice a1 x.shape.length c1) (.slice a2 x.cells.length c2)
  obtain ⟨W2, e2⟩ : ∃ W2, (w.alloc (.cells #[.slice a1 x.shape.length c1, .slice a2 x.cells.length c2] 25)).alloc (.cells #[.slice none 0 0, .slice none 0 0] 25) = W2 := ⟨_, rfl⟩
  rw [e2] at I
  have q0 := I.q0
  have q1 := I.q1
  have hl := R.1
  have CK := check_any (n + 1) x _ _ W2 (hx.next I.bel)
  rw [hchk] at CK
  have HI := hide I
  have HX := hide (And.intro hx hchk)
  have HRC := hide (And.intro R hc)
  obtain ⟨l8, c16⟩ := chk_len hchk
  have HMO := hide (moR_ok (n := n + 1) (op := 11) hchk)
  obtain ⟨SA, hSA⟩ : ∃ SA, x.shape.length = SA := ⟨_, rfl⟩
  obtain ⟨CA, hCA⟩ : ∃ CA, x.cells.length = CA := ⟨_, rfl⟩
  have HSC := hide (And.intro hSA hCA)
  simp only [hSA, hCA] at CK e2 q0 q1 HI HX l8 c16 hl ⊢
  clear R hc I hx hchk hSA hCA
  go_enter Try.func13, Try.ntmps13
  go_wp2_with fail
  clear e2 q0 q1
  refine CK.mono ?_
  rintro e w1 ⟨rfl, hb1⟩
  have I1 := HI.out.next hb1
  have q0 := I1.q0
  have q1 := I1.q1
  have p0 := I1.p0
  have p1 := I1.p1
  have f0 := I1.f0
  have f1 := I1.f1
  have HI1 := hide I1
  have CC := flipped_any (HX.out.1.next I1.bel) HX.out.2
  have HE : Hid (moR (n + 1) 11 x = (flipR x, 0)) := by unfold Hid; rw [HMO.out]; simp
  clear I1 hb1 CK HI HX HRC HMO p0 p1 f0 f1
  go_wp2_with fail
  refine CC.mono ?_
  rintro e w2 ⟨⟨v, rfl, hv⟩, hb2⟩
  obtain ⟨z1, m1, z2, m2, rfl, -, -⟩ := hv.form
  have I2 := HI1.out.next hb2
  have p0 := I2.p0
  have p1 := I2.p1
  have f0 := I2.f0
  have f1 := I2.f1
  have HT := hide (I2.put (.slice z1 (flipR x).shape.length m1) (.slice z2 (flipR x).cells.length m2))
  have HF := hide (I2.give hv.deeper HI1.out.size)
  have HFI := hide I2.fin
  clear I2 hv hb2 CC HI1 q0 q1
  generalize (flipR x).shape.length = SB at *
  generalize (flipR x).cells.length = CB at *
  go_wp2
  exact bodyPost_ret (v := .tuple #[.agg #[.slice z1 SB m1, .slice z2 CB m2], .int .i64 0]) (by simp [results, Try.results13, go_sem, HT.out.1, HT.out.2]) rfl (gives2_of HE.out (HF.out _ _) (HFI.out _ _))
set_option maxHeartbeats 2000000 in
theorem mo_encl {n lo : Nat} {x : Ar} {va : Value} {w : World} (hx : ArIn (n + 1) lo w x va) (hchk : chkA 8 x = 0) : Calls Try.prog 13 #[.int .i64 15, va] w fun e w' => Gives2 (n + 2) w.heap.size (moR (n + 1) 15 x).1 (moR (n + 1) 15 x).2 w e w' := by
  obtain ⟨a1, c1, a2, c2, rfl, R, hc⟩ := hx.form
  have I := in2_new w (.slice a1 x.shape.length c1) (.slice a2 x.cells.length c2)
  obtain ⟨W2, e2⟩ : ∃ W2, (w.alloc (.cells #[.slice a1 x.shape.length c1, .slice a2 x.cells.length c2] 25)).alloc (.cells #[.slice none 0 0, .slice none 0 0] 25) = W2 := ⟨_, rfl⟩
  rw [e2] at I
  have q0 := I.q0
  have q1 := I.q1
  have hl := R.1
  have CK := check_any (n + 1) x _ _ W2 (hx.next I.bel)
  rw [hchk] at CK
  have HI := hide I
  have HX := hide (And.intro hx hchk)
  have HRC := hide (And.intro R hc)
  obtain ⟨l8, c16⟩ := chk_len hchk
  have HMO := hide (moR_ok (n := n + 1) (op := 15) hchk)
  obtain ⟨SA, hSA⟩ : ∃ SA, x.shape.length = SA := ⟨_, rfl⟩
  obtain ⟨CA, hCA⟩ : ∃ CA, x.cells.length = CA := ⟨_, rfl⟩
  have HSC := hide (And.intro hSA hCA)
  simp only [hSA, hCA] at CK e2 q0 q1 HI HX l8 c16 hl ⊢
  clear R hc I hx hchk hSA hCA
  go_enter Try.func13, Try.ntmps13
  go_wp2_with fail
  clear e2 q0 q1
  refine CK.mono ?_
  rintro e w1 ⟨rfl, hb1⟩
  have I1 := HI.out.next hb1
  have q0 := I1.q0
  have q1 := I1.q1
  have p0 := I1.p0
  have p1 := I1.p1
  have f0 := I1.f0
  have f1 := I1.f1
  have HI1 := hide I1
  have CC := enclosed_any (HX.out.1.next I1.bel) HX.out.2
  have HE : Hid (moR (n + 1) 15 x = enclR (n + 1) x) := by unfold Hid; rw [HMO.out]; simp
  clear I1 hb1 CK HI HX HRC HMO p0 p1 f0 f1
  go_wp2_with fail
  refine CC.mono ?_
  rintro e w2 ⟨⟨v, rfl, hv⟩, hb2⟩
  obtain ⟨z1, m1, z2, m2, rfl, -, -⟩ := hv.form
  have I2 := HI1.out.next hb2
  have p0 := I2.p0
  have p1 := I2.p1
  have f0 := I2.f0
  have f1 := I2.f1
  have HT := hide (I2.put (.slice z1 (enclR (n + 1) x).1.shape.length m1) (.slice z2 (enclR (n + 1) x).1.cells.length m2))
  have HF := hide (I2.give hv HI1.out.size)
  have HFI := hide I2.fin
  clear I2 hv hb2 CC HI1 q0 q1
  generalize (enclR (n + 1) x).1.shape.length = SB at *
  generalize (enclR (n + 1) x).1.cells.length = CB at *
  obtain ⟨E, hE⟩ : ∃ E, (enclR (n + 1) x).2 = E := ⟨_, rfl⟩
  rw [hE]
  have HEE := hide hE
  clear hE
  go_wp2
  exact bodyPost_ret (v := .tuple #[.agg #[.slice z1 SB m1, .slice z2 CB m2], .int .i64 E]) (by simp [results, Try.results13, go_sem, HT.out.1, HT.out.2]) rfl (by rw [← HEE.out]; exact gives2_eq HE.out (HF.out _ _) (HFI.out _ _))
set_option maxHeartbeats 2000000 in
theorem mo_disc {n lo : Nat} {x : Ar} {va : Value} {w : World} (hx : ArIn (n + 1) lo w x va) (hchk : chkA 8 x = 0) : Calls Try.prog 13 #[.int .i64 16, va] w fun e w' => Gives2 (n + 2) w.heap.size (moR (n + 1) 16 x).1 (moR (n + 1) 16 x).2 w e w' := by
  obtain ⟨a1, c1, a2, c2, rfl, R, hc⟩ := hx.form
  have I := in2_new w (.slice a1 x.shape.length c1) (.slice a2 x.cells.length c2)
  obtain ⟨W2, e2⟩ : ∃ W2, (w.alloc (.cells #[.slice a1 x.shape.length c1, .slice a2 x.cells.length c2] 25)).alloc (.cells #[.slice none 0 0, .slice none 0 0] 25) = W2 := ⟨_, rfl⟩
  rw [e2] at I
  have q0 := I.q0
  have q1 := I.q1
  have hl := R.1
  have CK := check_any (n + 1) x _ _ W2 (hx.next I.bel)
  rw [hchk] at CK
  have HI := hide I
  have HX := hide (And.intro hx hchk)
  have HRC := hide (And.intro R hc)
  obtain ⟨l8, c16⟩ := chk_len hchk
  have HMO := hide (moR_ok (n := n + 1) (op := 16) hchk)
  obtain ⟨SA, hSA⟩ : ∃ SA, x.shape.length = SA := ⟨_, rfl⟩
  obtain ⟨CA, hCA⟩ : ∃ CA, x.cells.length = CA := ⟨_, rfl⟩
  have HSC := hide (And.intro hSA hCA)
  simp only [hSA, hCA] at CK e2 q0 q1 HI HX l8 c16 hl ⊢
  clear R hc I hx hchk hSA hCA
  go_enter Try.func13, Try.ntmps13
  go_wp2_with fail
  clear e2 q0 q1
  refine CK.mono ?_
  rintro e w1 ⟨rfl, hb1⟩
  have I1 := HI.out.next hb1
  have q0 := I1.q0
  have q1 := I1.q1
  have p0 := I1.p0
  have p1 := I1.p1
  have f0 := I1.f0
  have f1 := I1.f1
  have HI1 := hide I1
  have CC := disclosed_any (HX.out.1.next I1.bel) HX.out.2
  have HE : Hid (moR (n + 1) 16 x = discR x) := by unfold Hid; rw [HMO.out]; simp
  clear I1 hb1 CK HI HX HRC HMO p0 p1 f0 f1
  go_wp2_with fail
  refine CC.mono ?_
  rintro e w2 ⟨⟨v, rfl, hv⟩, hb2⟩
  obtain ⟨z1, m1, z2, m2, rfl, -, -⟩ := hv.form
  have I2 := HI1.out.next hb2
  have p0 := I2.p0
  have p1 := I2.p1
  have f0 := I2.f0
  have f1 := I2.f1
  have HT := hide (I2.put (.slice z1 (discR x).1.shape.length m1) (.slice z2 (discR x).1.cells.length m2))
  have HF := hide (I2.give hv.deeper HI1.out.size)
  have HFI := hide I2.fin
  clear I2 hv hb2 CC HI1 q0 q1
  generalize (discR x).1.shape.length = SB at *
  generalize (discR x).1.cells.length = CB at *
  obtain ⟨E, hE⟩ : ∃ E, (discR x).2 = E := ⟨_, rfl⟩
  rw [hE]
  have HEE := hide hE
  clear hE
  go_wp2
  exact bodyPost_ret (v := .tuple #[.agg #[.slice z1 SB m1, .slice z2 CB m2], .int .i64 E]) (by simp [results, Try.results13, go_sem, HT.out.1, HT.out.2]) rfl (by rw [← HEE.out]; exact gives2_eq HE.out (HF.out _ _) (HFI.out _ _))
set_option maxHeartbeats 2000000 in
theorem mo_first {n lo : Nat} {x : Ar} {va : Value} {w : World} (hx : ArIn (n + 1) lo w x va) (hchk : chkA 8 x = 0) (hcap : Caps va) : Calls Try.prog 13 #[.int .i64 17, va] w fun e w' => Gives2 (n + 2) w.heap.size (moR (n + 1) 17 x).1 (moR (n + 1) 17 x).2 w e w' := by
  obtain ⟨a1, c1, a2, c2, rfl, R, hc⟩ := hx.form
  have I := in2_new w (.slice a1 x.shape.length c1) (.slice a2 x.cells.length c2)
  obtain ⟨W2, e2⟩ : ∃ W2, (w.alloc (.cells #[.slice a1 x.shape.length c1, .slice a2 x.cells.length c2] 25)).alloc (.cells #[.slice none 0 0, .slice none 0 0] 25) = W2 := ⟨_, rfl⟩
  rw [e2] at I
  have q0 := I.q0
  have q1 := I.q1
  have hl := R.1
  have CK := check_any (n + 1) x _ _ W2 (hx.next I.bel)
  rw [hchk] at CK
  have HI := hide I
  have HX := hide (And.intro hx hchk)
  have HRC := hide (And.intro R hc)
  obtain ⟨l8, c16⟩ := chk_len hchk
  have HMO := hide (moR_ok (n := n + 1) (op := 17) hchk)
  obtain ⟨SA, hSA⟩ : ∃ SA, x.shape.length = SA := ⟨_, rfl⟩
  obtain ⟨CA, hCA⟩ : ∃ CA, x.cells.length = CA := ⟨_, rfl⟩
  have HSC := hide (And.intro hSA hCA)
  simp only [hSA, hCA] at CK e2 q0 q1 HI HX l8 c16 hl ⊢
  clear R hc I hx hchk hSA hCA
  go_enter Try.func13, Try.ntmps13
  go_wp2_with fail
  clear e2 q0 q1
  refine CK.mono ?_
  rintro e w1 ⟨rfl, hb1⟩
  have I1 := HI.out.next hb1
  have q0 := I1.q0
  have q1 := I1.q1
  have p0 := I1.p0
  have p1 := I1.p1
  have f0 := I1.f0
  have f1 := I1.f1
  have HI1 := hide I1
  have CC := first_any (HX.out.1.next I1.bel) HX.out.2 (by have h := hcap; simp only [HSC.out.1, HSC.out.2] at h; exact h)
  have HE : Hid (moR (n + 1) 17 x = firstR x) := by unfold Hid; rw [HMO.out]; simp
  clear I1 hb1 CK HI HX HRC HMO p0 p1 f0 f1
  go_wp2_with fail
  refine CC.mono ?_
  rintro e w2 ⟨⟨v, rfl, hv⟩, hb2⟩
  obtain ⟨z1, m1, z2, m2, rfl, -, -⟩ := hv.form
  have I2 := HI1.out.next hb2
  have p0 := I2.p0
  have p1 := I2.p1
  have f0 := I2.f0
  have f1 := I2.f1
  have HT := hide (I2.put (.slice z1 (firstR x).1.shape.length m1) (.slice z2 (firstR x).1.cells.length m2))
  have HF := hide (I2.give hv.deeper HI1.out.size)
  have HFI := hide I2.fin
  clear I2 hv hb2 CC HI1 q0 q1
  generalize (firstR x).1.shape.length = SB at *
  generalize (firstR x).1.cells.length = CB at *
  obtain ⟨E, hE⟩ : ∃ E, (firstR x).2 = E := ⟨_, rfl⟩
  rw [hE]
  have HEE := hide hE
  clear hE
  go_wp2
  exact bodyPost_ret (v := .tuple #[.agg #[.slice z1 SB m1, .slice z2 CB m2], .int .i64 E]) (by simp [results, Try.results13, go_sem, HT.out.1, HT.out.2]) rfl (by rw [← HEE.out]; exact gives2_eq HE.out (HF.out _ _) (HFI.out _ _))
set_option maxHeartbeats 2000000 in
theorem mo_list {n lo : Nat} {x : Ar} {va : Value} {w : World} (hx : ArIn (n + 1) lo w x va) (hchk : chkA 8 x = 0) : Calls Try.prog 13 #[.int .i64 18, va] w fun e w' => Gives2 (n + 2) w.heap.size (moR (n + 1) 18 x).1 (moR (n + 1) 18 x).2 w e w' := by
  obtain ⟨a1, c1, a2, c2, rfl, R, hc⟩ := hx.form
  have I := in2_new w (.slice a1 x.shape.length c1) (.slice a2 x.cells.length c2)
  obtain ⟨W2, e2⟩ : ∃ W2, (w.alloc (.cells #[.slice a1 x.shape.length c1, .slice a2 x.cells.length c2] 25)).alloc (.cells #[.slice none 0 0, .slice none 0 0] 25) = W2 := ⟨_, rfl⟩
  rw [e2] at I
  have q0 := I.q0
  have q1 := I.q1
  have hl := R.1
  have CK := check_any (n + 1) x _ _ W2 (hx.next I.bel)
  rw [hchk] at CK
  have HI := hide I
  have HX := hide (And.intro hx hchk)
  have HRC := hide (And.intro R hc)
  obtain ⟨l8, c16⟩ := chk_len hchk
  have HMO := hide (moR_ok (n := n + 1) (op := 18) hchk)
  obtain ⟨SA, hSA⟩ : ∃ SA, x.shape.length = SA := ⟨_, rfl⟩
  obtain ⟨CA, hCA⟩ : ∃ CA, x.cells.length = CA := ⟨_, rfl⟩
  have HSC := hide (And.intro hSA hCA)
  simp only [hSA, hCA] at CK e2 q0 q1 HI HX l8 c16 hl ⊢
  clear R hc I hx hchk hSA hCA
  go_enter Try.func13, Try.ntmps13
  go_wp2_with fail
  clear e2 q0 q1
  refine CK.mono ?_
  rintro e w1 ⟨rfl, hb1⟩
  have I1 := HI.out.next hb1
  have q0 := I1.q0
  have q1 := I1.q1
  have p0 := I1.p0
  have p1 := I1.p1
  have f0 := I1.f0
  have f1 := I1.f1
  have HI1 := hide I1
  have CC := listed_any (HX.out.1.next I1.bel) HX.out.2
  have HE : Hid (moR (n + 1) 18 x = listR x) := by unfold Hid; rw [HMO.out]; simp
  clear I1 hb1 CK HI HX HRC HMO p0 p1 f0 f1
  go_wp2_with fail
  refine CC.mono ?_
  rintro e w2 ⟨⟨v, rfl, hv⟩, hb2⟩
  obtain ⟨z1, m1, z2, m2, rfl, -, -⟩ := hv.form
  have I2 := HI1.out.next hb2
  have p0 := I2.p0
  have p1 := I2.p1
  have f0 := I2.f0
  have f1 := I2.f1
  have HT := hide (I2.put (.slice z1 (listR x).1.shape.length m1) (.slice z2 (listR x).1.cells.length m2))
  have HF := hide (I2.give hv.deeper HI1.out.size)
  have HFI := hide I2.fin
  clear I2 hv hb2 CC HI1 q0 q1
  generalize (listR x).1.shape.length = SB at *
  generalize (listR x).1.cells.length = CB at *
  obtain ⟨E, hE⟩ : ∃ E, (listR x).2 = E := ⟨_, rfl⟩
  rw [hE]
  have HEE := hide hE
  clear hE
  go_wp2
  exact bodyPost_ret (v := .tuple #[.agg #[.slice z1 SB m1, .slice z2 CB m2], .int .i64 E]) (by simp [results, Try.results13, go_sem, HT.out.1, HT.out.2]) rfl (by rw [← HEE.out]; exact gives2_eq HE.out (HF.out _ _) (HFI.out _ _))
end Go.Proofs.Ytmjncdhahdpplaa
