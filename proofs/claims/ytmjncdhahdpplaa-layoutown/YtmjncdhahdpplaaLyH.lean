/-
  The contracts of layer 5's turned and flipped.
-/
import Derived.Test.YtmjncdhahdpplaaLyE
import Derived.Test.YtmjncdhahdpplaaLyG
namespace Go.Proofs.Ytmjncdhahdpplaa
open Go.ChangeShapes Go.WideShapes Go.ChangeAt Go.RowKit
set_option linter.unusedVariables false
set_option maxRecDepth 100000
theorem leads_turn {r : Nat} {x : Ar} {k : Nat} {S : List Int} (h : chkA r x = 0) (hk : k < x.shape.length) (hS : (∀ z ∈ x.shape, 0 < z) → prodL x.shape ≤ 16384 → S = strL x.shape) :
    Leads x.shape x.cells.length (wrap64 (gI S k * (gI x.shape k - 1))) (S.set k (wrap64 (-gI S k))) ∧ gathL x.shape x.cells (wrap64 (gI S k * (gI x.shape k - 1))) (S.set k (wrap64 (-gI S k))) = mkCs x.cells.length fun i => cAt x.cells (place x.shape (turnL x.shape (digits x.shape i) k)).toNat := by
  obtain ⟨h1, h2, h3⟩ := chk_axes h
  obtain ⟨l8, c16⟩ := chk_len h
  by_cases h0 : 0 < x.cells.length
  · obtain ⟨g1, g2⟩ := h2 h0
    have e := hS g1 (by omega)
    subst e
    have b1 := strL_le g1 k hk
    have b2 := h1 (gI x.shape k) (getD_mem hk)
    have b3 := g1 (gI x.shape k) (getD_mem hk)
    have p0 := Int.mul_nonneg (show 0 ≤ gI (strL x.shape) k by omega) (show 0 ≤ gI x.shape k - 1 by omega)
    have p1 := Int.mul_le_mul_of_nonneg_right (show gI (strL x.shape) k ≤ 16384 by omega) (show 0 ≤ gI x.shape k - 1 by omega)
    have e1 : wrap64 (gI (strL x.shape) k * (gI x.shape k - 1)) = gI (strL x.shape) k * (gI x.shape k - 1) := wrapId' (by omega) (by omega)
    have e2 : wrap64 (-gI (strL x.shape) k) = -gI (strL x.shape) k := wrapId' (by omega) (by omega)
    rw [e1, e2]
    refine ⟨fun _ => ⟨g1, g2, fun j hj => ?_, fun A hA => ?_⟩, ?_⟩
    · rw [gI_set _ _ _ _ (by rw [strL_length]; exact hk)]
      by_cases hjk : j = k
      · rw [if_pos hjk]; omega
      · rw [if_neg hjk]
        have := strL_le g1 j hj
        omega
    · have hl := ((inAxes_gI _ _).1 hA).1
      rw [turn_place k hk hl]
      have := place_bound (turn_in k hk hA)
      omega
    · refine cs_ext (by simp [gathL, mkCs_len]) fun i hi => ?_
      simp only [gathL, mkCs_len] at hi
      unfold gathL
      rw [mkCs_at _ _ _ hi, mkCs_at _ _ _ hi, turn_place k hk (digits_length _ _)]
  · refine ⟨fun h => absurd h h0, cs_ext (by simp [gathL, mkCs_len]) fun i hi => ?_⟩
    simp only [gathL, mkCs_len] at hi
    omega
theorem leads_flip {r : Nat} {x : Ar} {S : List Int} (h : chkA r x = 0) (hS : (∀ z ∈ x.shape, 0 < z) → prodL x.shape ≤ 16384 → S = strL x.shape) (hl : S.length = x.shape.length) :
    Leads x.shape.reverse x.cells.length 0 S.reverse ∧ Ar.mk x.shape.reverse (gathL x.shape.reverse x.cells 0 S.reverse) = flipR x := by
  obtain ⟨h1, h2, h3⟩ := chk_axes h
  obtain ⟨l8, c16⟩ := chk_len h
  by_cases h0 : 0 < x.cells.length
  · obtain ⟨g1, g2⟩ := h2 h0
    have e := hS g1 (by omega)
    subst e
    refine ⟨fun _ => ⟨fun z hz => g1 z (by simpa using hz), by rw [prodL_rev]; exact g2, fun j hj => ?_, fun A hA => ?_⟩, ?_⟩
    · rw [List.length_reverse] at hj
      rw [gI_rev _ _ (by rw [strL_length]; exact hj), strL_length]
      have := strL_le g1 (x.shape.length - 1 - j) (by omega)
      omega
    · have hla := ((inAxes_gI _ _).1 hA).1
      rw [List.length_reverse] at hla
      rw [Int.zero_add, rev_place hla]
      have := place_bound (rev_in hA)
      omega
    · unfold flipR
      congr 1
      refine cs_ext (by simp [gathL, mkCs_len]) fun i hi => ?_
      simp only [gathL, mkCs_len] at hi
      unfold gathL
      rw [mkCs_at _ _ _ hi, mkCs_at _ _ _ hi, Int.zero_add, rev_place (by rw [digits_length, List.length_reverse])]
  · refine ⟨fun h => absurd h h0, ?_⟩
    unfold flipR
    congr 1
    refine cs_ext (by simp [gathL, mkCs_len]) fun i hi => ?_
    simp only [gathL, mkCs_len] at hi
    omega
set_option maxHeartbeats 4000000 in
theorem turned_any {n lo : Nat} {x : Ar} {va : Value} {w : World} (hx : ArIn (n + 1) lo w x va) (hchk : chkA 8 x = 0) (k : Nat) (kv : Int) (hk : 0 < x.shape.length → k < x.shape.length ∧ kv = (k : Int)) : Calls Try.prog 32 #[va, .int .i64 kv] w fun e w' => GivesA (n + 1) (revR x k) w e w' := by
  obtain ⟨a1, c1, a2, c2, rfl, R, hc⟩ := hx.form
  have I := in2_new w (.slice a1 x.shape.length c1) (.slice a2 x.cells.length c2)
  obtain ⟨W2, e2⟩ : ∃ W2, (w.alloc (.cells #[.slice a1 x.shape.length c1, .slice a2 x.cells.length c2] 25)).alloc (.cells #[.slice none 0 0, .slice none 0 0] 25) = W2 := ⟨_, rfl⟩
  have hz2 : W2.heap.size = w.heap.size + 2 := by rw [← e2]; simp
  rw [e2] at I
  have q0 := I.q0
  have q1 := I.q1
  have hl := R.1
  have HI := hide I
  obtain ⟨l8, c16⟩ := chk_len hchk
  by_cases h0 : x.shape.length = 0
  · have HE : Hid (revR x k = x) := by unfold revR Hid; rw [if_pos h0]
    have C := copyA hchk (hx.next I.bel)
    rw [h0] at q0 HI I C e2 ⊢
    clear R hc I hx hchk hk
    generalize x.cells.length = CA at *
    go_enter Try.func32, Try.ntmps32
    go_wp2_with fail
    clear e2 q0 q1
    refine C.mono ?_
    rintro e w1 ⟨⟨v, rfl, hv⟩, hb1⟩
    obtain ⟨x1, k1, x2, k2, rfl, -, -⟩ := hv.form
    have I1 := HI.out.next hb1
    have p0 := I1.p0
    have p1 := I1.p1
    have f0 := I1.f0
    have f1 := I1.f1
    have HT := hide (I1.put (.slice x1 x.shape.length k1) (.slice x2 x.cells.length k2))
    have HF := hide (I1.give hv (by omega))
    have HFI := hide I1.fin
    clear I1 hv hb1 C HI hz2 h0
    generalize x.shape.length = SA at *
    generalize x.cells.length = CA at *
    go_wp2
    exact bodyPost_ret (v := .agg #[.slice x1 SA k1, .slice x2 CA k2]) (by simp [results, Try.results32, go_sem, HT.out.1, HT.out.2]) rfl ⟨⟨_, rfl, by rw [HE.out]; exact HF.out _ _⟩, HFI.out _ _⟩
  · obtain ⟨hks, rfl⟩ := hk (by omega)
    have HE : Hid (revR x k = .mk x.shape (mkCs x.cells.length fun i => cAt x.cells (place x.shape (turnL x.shape (digits x.shape i) k)).toNat)) := by unfold revR Hid; rw [if_neg h0]
    have CS := strides_any x.shape a1 c1 W2 (R.next I.bel) l8
    obtain ⟨b, off, rfl, hb, hcell⟩ := row_at R hks
    have HX := hide hx
    have HCH := hide hchk
    have HCL : Hid (w.cell? ⟨b, off + k, none⟩ = some (.int .i64 (gI x.shape k)) ∧ b < w.heap.size ∧ 0 ≤ gI x.shape k ∧ gI x.shape k ≤ 16384) := ⟨hcell, hb, (chk_axes hchk).1 _ (getD_mem hks)⟩
    clear R hc I hx hchk hk hcell hb
    go_enter Try.func32, Try.ntmps32
    go_wp2_with fail
    clear e2 q0 q1
    refine CS.mono ?_
    rintro e w1 ⟨S, hS, hSe, rfl, hSo, hb1⟩
    rw [hz2] at hSo hb1 ⊢
    have I1 := HI.out.belowS hb1 (by omega)
    have q0 := I1.q0
    have q1 := I1.q1
    obtain ⟨g0, g1, g2, g3⟩ := HCL.out
    have r0 := (I1.bel.cell (p := ⟨b, off + k, none⟩) g1).trans g0
    have s0 := World.rowIs.cell (i := k) hSo (by omega)
    have sf := World.rowIs.frozen hSo k
    have HSE := hide (And.intro hS (And.intro hSe hSo))
    have HI1 := hide I1
    obtain ⟨la, hla⟩ : ∃ la, gI x.shape k = la := ⟨_, rfl⟩
    obtain ⟨si, hsi⟩ : ∃ si, gI S k = si := ⟨_, rfl⟩
    rw [hla] at r0 g2 g3
    rw [hsi] at s0
    have HLA := hide (And.intro hla hsi)
    obtain ⟨SA, hSA⟩ : ∃ SA, x.shape.length = SA := ⟨_, rfl⟩
    obtain ⟨CA, hCA⟩ : ∃ CA, x.cells.length = CA := ⟨_, rfl⟩
    have HSC := hide (And.intro hSA hCA)
    clear hla hsi CS hS hSe hSo hb1 I1 g0 g1 HCL
    rw [hSA] at q0 hks HI1 l8 h0 hl ⊢
    rw [hCA] at q1 HI1 c16 ⊢
    clear hSA hCA HI
    go_wp2
    go_region
    all_goals
      go_wp2_with fail
      have I2 := (HI1.out.set (b := w.heap.size + 2) (i := k) (Nat.le_refl _) (.int .i64 (wrap64 (-si)))).drew
      have SO : Soft (w1.setCell ⟨w.heap.size + 2, k, none⟩ (.int .i64 (wrap64 (-si)))).drew (w.heap.size + 2) (S.set k (wrap64 (-si))) := HSE.out.2.2.set k _
      have C2 := copyA HCH.out (HX.out.next I2.bel)
      rw [HSC.out.1, HSC.out.2] at C2
      have HI2 := hide I2
      have HSO := hide SO
      clear HI1 q0 q1 r0 s0 sf I2 SO HX
      refine C2.mono ?_
      rintro e w2 ⟨⟨v, rfl, hv⟩, hb2⟩
      obtain ⟨y1, m1, y2, m2, rfl, -, -⟩ := hv.form
      have I3 := HI2.out.next hb2
      have L := leads_turn HCH.out (k := k) (by rw [HSC.out.1]; exact hks) HSE.out.2.1
      rw [HLA.out.1, HLA.out.2] at L
      have C3 := gather_any n _ x.shape x.cells y1 y2 (some ⟨w.heap.size + 2, 0, none⟩) m1 m2 SA (wrap64 (si * (la - 1))) (S.set k (wrap64 (-si))) w2 (by rw [Ar.eta]; exact hv) hb2.size (by rw [HSC.out.1]; exact l8) (by rw [HSC.out.2]; exact c16) ⟨0, (HSO.out.below hb2).row (Nat.zero_le _) (by rw [List.length_set, HSE.out.1, HSC.out.1]; omega)⟩ (by rw [List.length_set]; exact HSE.out.1) L.1
      rw [L.2] at C3
      have HL : Hid (w.heap.size + 2 ≤ (w1.setCell ⟨w.heap.size + 2, k, none⟩ (.int .i64 (wrap64 (-si)))).drew.heap.size) := HI2.out.size
      rw [HSC.out.1, HSC.out.2] at C3
      have HI3 := hide I3
      have HCC := hide C3
      rw [HSC.out.1, HSC.out.2]
      clear C3 C2 L I3 hv hb2 HI2 HSO HSE
      go_wp2_with fail
      refine HCC.out.mono ?_
      rintro e w3 ⟨⟨v, rfl, hv⟩, hb3⟩
      obtain ⟨z1, n1, z2, n2, rfl, -, -⟩ := hv.form
      have I4 := HI3.out.next hb3
      have p0 := I4.p0
      have p1 := I4.p1
      have f0 := I4.f0
      have f1 := I4.f1
      rw [← HSC.out.2, ← HE.out] at hv
      have ee : (Ar.mk x.shape (mkCs CA fun i => cAt x.cells (place x.shape (turnL x.shape (digits x.shape i) k)).toNat)) = revR x k := by rw [HE.out, HSC.out.2]
      rw [ee]
      have HT := hide (I4.put (.slice z1 (revR x k).shape.length n1) (.slice z2 (revR x k).cells.length n2))
      have HF := hide (I4.give hv HL.out)
      have HFI := hide I4.fin
      clear I4 hv hb3 HCC HI3 ee
      generalize (revR x k).shape.length = SB at *
      generalize (revR x k).cells.length = CB at *
      go_wp2
      exact bodyPost_ret (v := .agg #[.slice z1 SB n1, .slice z2 CB n2]) (by simp [results, Try.results32, go_sem, HT.out.1, HT.out.2]) rfl ⟨⟨_, rfl, HF.out _ _⟩, HFI.out _ _⟩
set_option maxHeartbeats 4000000 in
theorem flipped_any {n lo : Nat} {x : Ar} {va : Value} {w : World} (hx : ArIn (n + 1) lo w x va) (hchk : chkA 8 x = 0) : Calls Try.prog 33 #[va] w fun e w' => GivesA (n + 1) (flipR x) w e w' := by
  obtain ⟨a1, c1, a2, c2, rfl, R, hc⟩ := hx.form
  have I := in2_new w (.slice a1 x.shape.length c1) (.slice a2 x.cells.length c2)
  obtain ⟨W2, e2⟩ : ∃ W2, (w.alloc (.cells #[.slice a1 x.shape.length c1, .slice a2 x.cells.length c2] 25)).alloc (.cells #[.slice none 0 0, .slice none 0 0] 25) = W2 := ⟨_, rfl⟩
  have hz2 : W2.heap.size = w.heap.size + 2 := by rw [← e2]; simp
  rw [e2] at I
  have q0 := I.q0
  have hl := R.1
  have HI := hide I
  obtain ⟨l8, c16⟩ := chk_len hchk
  have CS := strides_any x.shape a1 c1 W2 (R.next I.bel) l8
  have HX := hide hx
  have HCH := hide hchk
  clear R hc I hx hchk
  go_enter Try.func33, Try.ntmps33
  go_wp2_with fail
  clear e2 q0
  refine CS.mono ?_
  rintro e w1 ⟨S, hS, hSe, rfl, hSo, hb1⟩
  rw [hz2] at hSo hb1 ⊢
  have I1 := HI.out.belowS hb1 (by omega)
  have CR := reverse_any S (w.heap.size + 2) x.shape.length w1 hSo.cells (by omega)
  rw [hS] at CR
  have HSE := hide (And.intro hS hSe)
  have HI1 := hide I1
  have HSL := hide hSo.lt
  clear CS hS hSe hSo hb1 I1 HI hz2
  go_wp2_with fail
  refine CR.mono ?_
  rintro e w2 ⟨rfl, hS2, h2⟩
  have I2 := HI1.out.belowS (h2.belowB (B := w.heap.size + 2) (Nat.le_refl _) (Nat.le_refl _)) (Nat.le_refl _)
  have q0 := I2.q0
  have q1 := I2.q1
  have CC := copy_at n 8 x lo _ w2 HCH.out (HX.out.next I2.bel)
  have HI2 := hide I2
  have HS2 := hide (And.intro hS2 (show w.heap.size + 2 < w2.heap.size by rw [h2.size]; exact HSL.out))
  clear CR hS2 h2 I2 HI1 HSL HX
  go_wp2_with fail
  refine CC.mono ?_
  rintro e w3 ⟨⟨v, rfl, -, bs, bc, rfl, hbs0, hbs1, hrow, hcs⟩, hb3⟩
  have I3 := HI2.out.next hb3.b
  have HI3 := hide I3
  obtain ⟨SA, hSA⟩ : ∃ SA, x.shape.length = SA := ⟨_, rfl⟩
  obtain ⟨CA, hCA⟩ : ∃ CA, x.cells.length = CA := ⟨_, rfl⟩
  have HSC := hide (And.intro hSA hCA)
  have SO4 : SoftC (w3.alloc (.cells #[.slice (some ⟨bs, 0, none⟩) SA SA, .slice (some ⟨bc, 0, none⟩) CA CA] 25)) bs x.shape := fun i hi => ⟨((one_alloc _ _).cell (p := ⟨bs, i, none⟩) hbs1).trans (hrow i hi), ((one_alloc _ _).frozen (p := ⟨bs, i, none⟩) hbs1).trans (hb3.z.2.2 ⟨bs, i, none⟩ hbs0)⟩
  have CR2 := reverse_any x.shape bs SA _ SO4 l8
  rw [hSA] at CR2
  have HS3 : Hid (SoftC w3 (w.heap.size + 2) S.reverse) := fun i hi => by
    obtain ⟨g1, g2⟩ := HS2.out.1 i hi
    exact ⟨(hb3.cell (p := ⟨w.heap.size + 2, i, none⟩) HS2.out.2).trans g1, (hb3.frozen (p := ⟨w.heap.size + 2, i, none⟩) HS2.out.2).trans g2⟩
  have HCS := hide hcs
  have HBS : Hid (w2.heap.size ≤ bs ∧ bs < w3.heap.size ∧ w.heap.size + 2 < w2.heap.size) := ⟨hbs0, hbs1, HS2.out.2⟩
  rw [hSA, hCA]
  clear CC I3 hrow hcs hb3 SO4 hbs0 hbs1 HI2 HS2 q0 q1 hSA hCA
  go_wp2_with fail
  refine CR2.mono ?_
  rintro e w5 ⟨rfl, hS5, h5⟩
  obtain ⟨g0, g1, g2⟩ := HBS.out
  have hs4 : (w3.alloc (.cells #[.slice (some ⟨bs, 0, none⟩) SA SA, .slice (some ⟨bc, 0, none⟩) CA CA] 25)).heap.size = w3.heap.size + 1 := by simp
  have hs5 : w5.heap.size = w3.heap.size + 1 := by rw [h5.size, hs4]
  have B35 : Below w2.heap.size w3 w5 := ((one_alloc w3 _).mono (show w2.heap.size ≤ w3.heap.size by omega)).trans (h5.belowB g0 g0)
  have I5 := HI3.out.belowS B35 (by omega)
  have t0 := h5.cell (b := w3.heap.size) (by omega) (by omega) (cell_new0 w3 #[.slice (some ⟨bs, 0, none⟩) SA SA, .slice (some ⟨bc, 0, none⟩) CA CA] 25 0 _ rfl)
  have t1 := h5.cell (b := w3.heap.size) (by omega) (by omega) (cell_new0 w3 #[.slice (some ⟨bs, 0, none⟩) SA SA, .slice (some ⟨bc, 0, none⟩) CA CA] 25 1 _ rfl)
  have hcs5 := HCS.out w5 (by omega) fun k h1 h2 => (h5.keep k h2 h2).trans ((one_alloc w3 _).block k h1)
  have hS5' : SoftC w5 (w.heap.size + 2) S.reverse := fun i hi => by
    obtain ⟨g1, g2⟩ := HS3.out i hi
    exact ⟨(B35.cell (p := ⟨w.heap.size + 2, i, none⟩) (by show w.heap.size + 2 < _; omega)).trans g1, (B35.frozen (p := ⟨w.heap.size + 2, i, none⟩) (by show w.heap.size + 2 < _; omega)).trans g2⟩
  have L := leads_flip HCH.out HSE.out.2 HSE.out.1
  have hA5 : ArIn (n + 1) w2.heap.size w5 (.mk x.shape.reverse x.cells) (.agg #[.slice (some ⟨bs, 0, none⟩) x.shape.reverse.length SA, .slice (some ⟨bc, 0, none⟩) x.cells.length CA]) :=
    arIn_mk (x := .mk x.shape.reverse x.cells) (hS5.row (by omega) g0 (by rw [List.length_reverse]; omega)) (by show x.cells.length ≤ _; omega) hcs5 rfl rfl
  have CG := gather_any n w2.heap.size x.shape.reverse x.cells (some ⟨bs, 0, none⟩) (some ⟨bc, 0, none⟩) (some ⟨w.heap.size + 2, 0, none⟩) SA CA SA 0 S.reverse w5 hA5 (by omega) (by rw [List.length_reverse]; omega) c16 ⟨0, hS5'.row (by omega) (Nat.zero_le _) (by rw [List.length_reverse, HSE.out.1]; omega)⟩ (by rw [List.length_reverse, List.length_reverse]; exact HSE.out.1) L.1
  rw [List.length_reverse, HSC.out.1, HSC.out.2, L.2] at CG
  have HI5 := hide I5
  have HCG := hide CG
  have HLO : Hid (w.heap.size + 2 ≤ w2.heap.size) := by unfold Hid; omega
  rw [HSC.out.1] at l8 hl
  rw [HSC.out.2] at c16
  clear CG L hA5 hS5 hS5' hcs5 I5 B35 h5 hs4 hs5 g0 g1 g2 HBS HCS HS3 CR2 HI3 HSE
  go_wp2_with fail
  refine HCG.out.mono ?_
  rintro e w6 ⟨⟨v, rfl, hv⟩, hb6⟩
  obtain ⟨z1, n1, z2, n2, rfl, -, -⟩ := hv.form
  have I6 := HI5.out.next hb6
  have p0 := I6.p0
  have p1 := I6.p1
  have f0 := I6.f0
  have f1 := I6.f1
  have HT := hide (I6.put (.slice z1 (flipR x).shape.length n1) (.slice z2 (flipR x).cells.length n2))
  have HF := hide (I6.give hv HLO.out)
  have HFI := hide I6.fin
  clear I6 hv hb6 HCG HI5 t0 t1
  generalize (flipR x).shape.length = SB at *
  generalize (flipR x).cells.length = CB at *
  go_wp2
  exact bodyPost_ret (v := .agg #[.slice z1 SB n1, .slice z2 CB n2]) (by simp [results, Try.results33, go_sem, HT.out.1, HT.out.2]) rfl ⟨⟨_, rfl, HF.out _ _⟩, HFI.out _ _⟩
end Go.Proofs.Ytmjncdhahdpplaa
