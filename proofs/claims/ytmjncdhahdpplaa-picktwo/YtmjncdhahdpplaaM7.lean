/-
  The contract of the document's rep.
  The contract of the document's from.
  The document's drop and rot are the pieces' own.
  The contract of the document's take.
  The document's take is the pieces' own.
  The contract of the document's Number of layer 6.
  The contract of layer 6's statements' works.
  The contract of the document's Dy of layer 6.
-/
import Derived.Test.YtmjncdhahdpplaaM6
import Derived.Test.YtmjncdhahdpplaaChecked
import GoSem.Claim
import GoSem.ClaimJoined
import GoSem.ClaimMapViews
import Derived.JoinedTies
import Derived.KernelRfl
import Derived.WalkKit
import Derived.ProofKit
import Derived.Below
import Derived.Deep.OwnRows
import Derived.Deep.QuietTactic
import Derived.BigQuiet
import Derived.Deep.RegionWith
import Derived.Laws.MakeOwn
import Derived.Deep.RegionHeld3
import Derived.Laws.IdiomCopy
import Derived.Deep.Cut
import Derived.Deep.LoopGhost
import Derived.OpenShut
import Derived.ChangeOld
import Derived.SizedLaws
import Derived.Deep.Slices
import Derived.Deep.Strs
import Derived.Laws.AppendOwn
import Derived.BigFrame
import Derived.Deep.CutRange
import Derived.Deep.RegionLaw
import Derived.Laws.OwnMore
import Derived.Lib.SliceRun
import Derived.Laws.CopyOwn
import Derived.Lib.Overlaps
import Derived.Lib.Mul64
namespace Go.Proofs.Ytmjncdhahdpplaa
open Go.ChangeShapes Go.WideShapes Go.ChangeAt Go.RowKit
set_option linter.unusedVariables false
set_option maxRecDepth 100000
theorem repR_err {x Y : Ar} {k D : Nat} {E : Int} (hD : gI Y.shape k = (D : Int)) (h : oftY x D = E) (hE : ¬ E = 0) : repR x Y k = (zeroA, E) := by
  subst h
  unfold oftY at hE ⊢
  unfold repR
  rw [hD, Int.toNat_natCast]
  by_cases h1 : 1 < x.shape.length
  · rw [if_pos h1, if_pos h1]
  · rw [if_neg h1] at hE ⊢
    rw [if_neg h1]
    by_cases h2 : ¬ firstUp (repF x) x.cells.length = 0
    · rw [if_pos h2, if_pos h2]
    · rw [if_neg h2] at hE ⊢
      rw [if_neg h2]
      by_cases h3 : x.shape.length = 1 ∧ ¬ (x.cells.length : Int) = (D : Int)
      · rw [if_pos h3, if_pos h3]
      · rw [if_neg h3] at hE ⊢
        rw [if_neg h3]
        by_cases h4 : 16384 < (oftL x.cells D).length
        · rw [if_pos h4, if_pos h4]
        · rw [if_neg h4] at hE; exact absurd rfl hE
theorem repR_ok {x Y : Ar} {k D : Nat} (hD : gI Y.shape k = (D : Int)) (h : oftY x D = 0) : repR x Y k = (if ¬ sizeE (Y.shape.set k ((oftL x.cells D).length : Int)) = 0 then (zeroA, sizeE (Y.shape.set k ((oftL x.cells D).length : Int))) else (alongA Y k (oftL x.cells D), 0)) ∧ (oftL x.cells D).length ≤ 16384 := by
  unfold oftY at h
  unfold repR
  rw [hD, Int.toNat_natCast]
  by_cases h1 : 1 < x.shape.length
  · rw [if_pos h1] at h; omega
  · rw [if_neg h1] at h ⊢
    by_cases h2 : ¬ firstUp (repF x) x.cells.length = 0
    · rw [if_pos h2] at h; omega
    · rw [if_neg h2] at h ⊢
      by_cases h3 : x.shape.length = 1 ∧ ¬ (x.cells.length : Int) = (D : Int)
      · rw [if_pos h3] at h; omega
      · rw [if_neg h3] at h ⊢
        by_cases h4 : 16384 < (oftL x.cells D).length
        · rw [if_pos h4] at h; omega
        · rw [if_neg h4]; exact ⟨rfl, by omega⟩
set_option maxHeartbeats 4000000 in
theorem rrep_any {n lo lo' : Nat} {x y : Ar} {va vb : Value} {w0 w : World} (last : Bool) (hx : ArIn (n + 1) lo w0 x va) (hy : ArIn (n + 1) lo' w0 y vb) (hb0 : Below w0.heap.size w0 w) (hcx : chkA 8 x = 0) (hcy : chkA 8 y = 0) (hcap : Caps vb) :
    Calls Try.prog 49 #[va, vb, .bool last] w fun e w' => Gives2Z (n + 1) w0 (repR x (lstA y) (axL last (lstA y))).1 (repR x (lstA y) (axL last (lstA y))).2 w e w' := by
  obtain ⟨a1, c1, a2, c2, rfl, -, -⟩ := hx.form
  obtain ⟨b1, d1, b2, d2, rfl, RY, hcY⟩ := hy.form
  obtain ⟨hd1, hd2⟩ := caps_form hcap
  obtain ⟨i0, hi0, hz00, hz01, hz02⟩ := info33'
  obtain ⟨hcYL, hcells, hS0⟩ := lst_facts hcy
  obtain ⟨l8, c16⟩ := chk_len hcYL
  obtain ⟨ab, cb, hcf⟩ := cells_fn hcY
  have I := in3_new w (.slice a1 x.shape.length c1) (.slice a2 x.cells.length c2) (.slice b1 y.shape.length d1) (.slice b2 y.cells.length d2)
  obtain ⟨W3, e3⟩ : ∃ W3, ((w.alloc (.cells #[.slice a1 x.shape.length c1, .slice a2 x.cells.length c2] 25)).alloc (.cells #[.slice b1 y.shape.length d1, .slice b2 y.cells.length d2] 25)).alloc (.cells #[.slice none 0 0, .slice none 0 0] 25) = W3 := ⟨_, rfl⟩
  have hfr : ∀ i, W3.frozen? ⟨w.heap.size + 1, i, none⟩ = false := fun i => by
    rw [← e3]
    exact ((one_alloc _ _).frozen (p := ⟨w.heap.size + 1, i, none⟩) (by simp)).trans (frozen_new1 w _ 25 _ i)
  rw [e3] at I
  have r0 := I.r0
  have r1 := I.r1
  have C1 := rlisted_row (w := W3) hy (hb0.trans (I.bel.mono hb0.size)) hd1
  obtain ⟨Y, hY⟩ : ∃ Y, lstA y = Y := ⟨_, rfl⟩
  unfold LstIs at C1
  rw [hY] at C1 hcYL hcells hS0 l8 c16 ⊢
  have HI := hide I
  have HB0 := hide hb0
  have HX := hide hx
  have HCK := hide (And.intro hcx hcYL)
  have HCF : Hid (CellsFn n lo' w0 y.cells b2 ab cb) := hcf
  have HFR := hide hfr
  obtain ⟨SX, hSX⟩ : ∃ SX, x.shape.length = SX := ⟨_, rfl⟩
  obtain ⟨CX, hCX⟩ : ∃ CX, x.cells.length = CX := ⟨_, rfl⟩
  obtain ⟨S0, hS00⟩ : ∃ S0, y.shape.length = S0 := ⟨_, rfl⟩
  obtain ⟨SY, hSY⟩ : ∃ SY, Y.shape.length = SY := ⟨_, rfl⟩
  obtain ⟨CY, hCY⟩ : ∃ CY, y.cells.length = CY := ⟨_, rfl⟩
  have HSC := hide (And.intro hSX (And.intro hCX (And.intro hSY (And.intro hCY hcells))))
  rw [hcells] at c16
  simp only [hSX, hCX, hS00, hSY, hCY] at e3 r0 r1 HI HX C1 hS0 l8 c16 ⊢
  clear I RY hcY hx hy hcap hb0 hcx hcy hSX hCX hSY hCY hS00 hcf hd1 hd2 hfr hcells hcYL hY
  obtain ⟨k, hkk⟩ : ∃ k, axL last Y = k := ⟨_, rfl⟩
  have hk : k < SY := by rw [← hkk, ← HSC.out.2.2.1]; exact axL_lt last (by rw [HSC.out.2.2.1]; omega)
  have HK : Hid ((last = true → k = SY - 1) ∧ (last = false → k = 0)) := by
    rw [← hkk]; unfold axL; rw [HSC.out.2.2.1]
    exact ⟨fun h => by rw [h]; rfl, fun h => by rw [h]; rfl⟩
  rw [hkk]
  have hky : k < Y.shape.length := by rw [HSC.out.2.2.1]; exact hk
  have hDb := (chk_axes HCK.out.2).1 (gI Y.shape k) (getD_mem hky)
  obtain ⟨D, hD⟩ : ∃ D : Nat, gI Y.shape k = (D : Int) := ⟨(gI Y.shape k).toNat, by omega⟩
  have hD16 : D ≤ 16384 := by omega
  have HD := hide hD
  have HKY := hide hky
  clear hkk hDb hD hky
  go_enter Try.func49, Try.ntmps49
  go_wp2_with fail
  clear e3
  refine C1.mono ?_
  clear C1 r0 r1
  rintro e w4 ⟨⟨s1, k1, rfl, hk1, hr1⟩, hb4⟩
  have I4 := HI.out.next hb4
  have hz3 := HI.out.size
  have r0 := I4.r0
  have r1 := I4.r1
  have fr0 := (hb4.frozen (p := ⟨w.heap.size + 1, 0, none⟩) (by show w.heap.size + 1 < _; omega)).trans (HFR.out 0)
  have fr1 := (hb4.frozen (p := ⟨w.heap.size + 1, 1, none⟩) (by show w.heap.size + 1 < _; omega)).trans (HFR.out 1)
  obtain ⟨W4, e4⟩ : ∃ W4, (w4.setCell ⟨w.heap.size + 1, 0, none⟩ (.slice s1 SY k1)).setCell ⟨w.heap.size + 1, 1, none⟩ (.slice b2 CY d2) = W4 := ⟨_, rfl⟩
  have I5 : In3 w (.slice a1 SX c1) (.slice a2 CX c2) (.slice s1 SY k1) (.slice b2 CY d2) W4 := by rw [← e4]; exact I4.setR _ _
  have hNB5 := HB0.out.trans (I5.bel.mono HB0.out.size)
  have RYW : Row 0 W4 s1 Y.shape := hr1 W4 hNB5 (by rw [← e4]; exact ((Keeps.refl _ _).setCell (p := ⟨w.heap.size + 1, 0, none⟩) (by show w.heap.size + 1 < _; omega) _).setCell (p := ⟨w.heap.size + 1, 1, none⟩) (by show w.heap.size + 1 < _; omega) _)
  have HRY := hide RYW
  have HI5 := hide I5
  have HNB5 := hide hNB5
  obtain ⟨yb, yo, rfl, hyb, hyc⟩ := row_at HRY.out (j := k) HKY.out
  have eg : Y.shape[k]?.getD 0 = (D : Int) := HD.out
  rw [eg] at hyc
  have HYC := hide hyc
  have hSY : (0 : Int) < (SY : Int) := by omega
  clear I4 I5 RYW hr1 hb4 eg hyb hyc hNB5 HFR
  go_upto_if 21 with fail
  clear e4 r0 r1 fr0 fr1
  have q0 := HI5.out.q0
  have q1 := HI5.out.q1
  have r0 := HI5.out.r0
  have r1 := HI5.out.r1
  go_cut [8] from 22 to 25 (fun s wx => s = .int .i64 (k : Int) ∧ wx = W4)
  case first =>
    cases last with
    | false =>
      have h0 := HK.out.2 rfl
      have H0 := hide h0
      clear h0
      go_wp2
      go_meet
      exact ⟨by rw [H0.out]; rfl, rfl⟩
    | true =>
      have H0 := hide (HK.out.1 rfl)
      go_wp2
      go_meet
      exact ⟨congrArg (Value.int .i64) (by have := H0.out; omega), rfl⟩
  case rest =>
  obtain ⟨rfl, hwc⟩ := hcut
  have hwc' := hwc.symm
  subst hwc'
  clear hwc HK
  have hkz : (k : Int) < (SY : Int) := by omega
  have u0 := HYC.out
  have HCO : Hid (Calls Try.prog 87 #[.agg #[.slice a1 SX c1, .slice a2 CX c2], .int .i64 (D : Int)] W4.drew fun e w' => OftZ x D W4.drew e w') := roften_any HX.out HNB5.out.drew HCK.out.1 hD16
  unfold OftZ at HCO
  obtain ⟨EO, hEO⟩ : ∃ EO, oftY x D = EO := ⟨_, rfl⟩
  rw [hEO] at HCO
  have HEO := hide hEO
  clear hEO
  go_upto_region 5 with fail
  go_cut [9, 10] from 26 to 35 (fun s9 s10 wx => ∃ aw N cw, s9 = .slice aw N cw ∧ s10 = .int .i64 EO ∧ (EO = 0 → N = (oftL x.cells D).length ∧ Row W4.heap.size wx aw (oftL x.cells D)) ∧ Below W4.heap.size W4 wx)
  case first =>
    go_region_with (go_at_call 87; refine HCO.out.mono ?_; rintro e w5 ⟨⟨aw, N, cw, rfl, hrow⟩, hb5⟩)
    all_goals
      have HF := hide (And.intro hrow hb5)
      clear hrow hb5
      go_wp2
      go_meet
    all_goals
      case rel => exact ⟨_, _, _, rfl, rfl, HF.out.1, (Below.refl _ _).drew.trans HF.out.2⟩
  case rest =>
  obtain ⟨aw, N, cw, rfl, rfl, hrow, hb5⟩ := hcut
  clear HCO q0 q1 r0 r1 u0 hkz
  have I6 := HI5.out.next hb5
  have HI6 := hide I6
  have HB5 := hide hb5
  have q0 := I6.q0
  have q1 := I6.q1
  have r0 := I6.r0
  have r1 := I6.r1
  have p0 := I6.p0
  have p1 := I6.p1
  have f0 := I6.f0
  have f1 := I6.f1
  by_cases hEn : ¬ EO = 0
  · have HE5 : Hid (repR x Y k = (zeroA, EO)) := repR_err HD.out HEO.out hEn
    have HT := hide (HI6.out.put (.slice none 0 0) (.slice none 0 0))
    have HF : Hid (∀ u v, Gives2Z (n + 1) w0 (repR x Y k).1 (repR x Y k).2 w (.returned (.tuple #[.agg #[.slice none 0 0, .slice none 0 0], .int .i64 EO])) ((wc.setCell ⟨w.heap.size + 2, 0, none⟩ u).setCell ⟨w.heap.size + 2, 1, none⟩ v)) := fun u v => gives2z_of HE5.out (fun W _ _ => zeroA_in _ _ _) (HI6.out.fin u v)
    have hEb : (EO == 0) = false := by simp [hEn]
    clear HCF HE5 hrow I6 hb5
    go_wp2
    exact bodyPost_ret (v := .tuple #[.agg #[.slice none 0 0, .slice none 0 0], .int .i64 EO]) (by simp [results, Try.results49, go_sem, HT.out.1, HT.out.2]) rfl (HF.out _ _)
  have hE0 : EO = 0 := Classical.not_not.1 hEn
  obtain ⟨hN, RW⟩ := hrow hE0
  obtain ⟨L, hL⟩ : ∃ L, (oftL x.cells D).length = L := ⟨_, rfl⟩
  obtain ⟨hrep, hL16⟩ := repR_ok HD.out (HEO.out.trans hE0)
  rw [hL] at hrep hL16 hN
  have hN2 : L = N := hN.symm
  subst hN2
  subst hE0
  have HLL := hide hL
  have HREP := hide hrep
  have HRW := hide RW
  have C1 := flat_any (w := wc) Y.shape (some ⟨yb, yo, none⟩) k1 k (HRY.out.next hb5) (by rw [HSC.out.2.2.1]; omega) (by omega) HKY.out
  rw [HSC.out.2.2.1] at C1
  clear hrow hL hrep RW I6 hb5 hEn hN
  go_wp2_with fail
  refine C1.mono ?_
  clear C1
  rintro e w5 ⟨⟨af, kf, rfl, -, RF⟩, hb6⟩
  obtain ⟨FL, hFL⟩ : ∃ FL, Y.shape.take k ++ Y.shape.drop (k + 1) = FL := ⟨_, rfl⟩
  rw [hFL] at RF ⊢
  have hlt : (Y.shape.take k).length = k := by rw [List.length_take]; have := HKY.out; omega
  have hFl : FL.length = SY - 1 := by rw [← hFL, List.length_append, hlt, List.length_drop, HSC.out.2.2.1]; omega
  obtain ⟨FN, hFN⟩ : ∃ FN, FL.length = FN := ⟨_, rfl⟩
  have C2 := wide_any (w := w5) FL af kf k (L : Int) RF (by omega) (by omega) (by omega)
  have hWL : FL.take k ++ (L : Int) :: FL.drop k = Y.shape.set k (L : Int) := by
    rw [← hFL, List.take_append_of_le_length (by omega), List.take_of_length_le (by omega), List.drop_append_of_le_length (by omega), List.drop_of_length_le (by omega), List.nil_append, List.set_eq_take_append_cons_drop, if_pos HKY.out]
  have hsl : (Y.shape.set k (L : Int)).length = SY := by rw [List.length_set, HSC.out.2.2.1]
  rw [hWL] at C2
  unfold RowIs at C2
  rw [hsl, hFN] at C2
  rw [hFN]
  have HB6 := hide hb6
  have HKL := hide hk
  clear RF hFL hlt hWL hb6 hFl hFN hsl
  go_wp2_with fail
  refine C2.mono ?_
  clear C2
  rintro e w6 ⟨⟨ao, ko, rfl, -, RO⟩, hb7⟩
  have HB7 := hide (HB6.out.trans (hb7.mono HB6.out.size))
  have HRO := hide RO
  have HS65 := hide (And.intro HB6.out.size hb7.size)
  have I8 := HI6.out.next HB7.out
  obtain ⟨O, hO⟩ : ∃ O, w6.heap.size = O := ⟨_, rfl⟩
  obtain ⟨W7, e7⟩ : ∃ W7, w6.alloc (.cells #[.slice ao SY ko, .slice none 0 0] 25) = W7 := ⟨_, rfl⟩
  have z7 : W7.heap.size = O + 1 := by rw [← e7]; simp [hO]
  have B7 : Below w6.heap.size w6 W7 := by rw [← e7]; exact one_alloc _ _
  have o0 : W7.cell? ⟨O, 0, none⟩ = some (.slice ao SY ko) := by rw [← e7, ← hO]; exact cell_new0 _ _ 25 0 _ rfl
  have o1 : W7.cell? ⟨O, 1, none⟩ = some (.slice none 0 0) := by rw [← e7, ← hO]; exact cell_new0 _ _ 25 1 _ rfl
  have of1 : W7.frozen? ⟨O, 1, none⟩ = false := by rw [← e7, ← hO]; exact frozen_new _ _ 25 1
  have HI9 := hide (I8.next B7)
  have HE7 := hide e7
  have HZ := hide (And.intro hO (And.intro z7 I8.size))
  have HBO := hide B7
  clear RO hb7 HB6 I8 hO e7 z7 B7 q0 q1 r0 r1 p0 p1 f0 f1
  go_upto_region 9 with fail
  rw [HE7.out, HZ.out.1]
  clear HE7
  have C3 := rsize_any (Y.shape.set k (L : Int)) ao ko W7 (HRO.out.next HBO.out)
  rw [List.length_set, HSC.out.2.2.1] at C3
  obtain ⟨SV, hSV⟩ : ∃ SV, sizeV (Y.shape.set k (L : Int)) = SV := ⟨_, rfl⟩
  have p0 := HI9.out.p0
  have p1 := HI9.out.p1
  have f0 := HI9.out.f0
  have f1 := HI9.out.f1
  by_cases hsN : ¬ sizeE (Y.shape.set k (L : Int)) = 0
  · have HE5 : Hid (repR x Y k = (zeroA, sizeE (Y.shape.set k (L : Int)))) := HREP.out.trans (if_pos hsN)
    rw [hSV] at C3
    have HT := hide (HI9.out.put (.slice none 0 0) (.slice none 0 0))
    have HF : Hid (∀ u v, Gives2Z (n + 1) w0 (repR x Y k).1 (repR x Y k).2 w (.returned (.tuple #[.agg #[.slice none 0 0, .slice none 0 0], .int .i64 (sizeE (Y.shape.set k (L : Int)))])) ((W7.setCell ⟨w.heap.size + 2, 0, none⟩ u).setCell ⟨w.heap.size + 2, 1, none⟩ v)) := fun u v => gives2z_of HE5.out (fun W _ _ => zeroA_in _ _ _) (HI9.out.fin u v)
    generalize sizeE (Y.shape.set k (L : Int)) = EE at *
    have hEb : (EE == 0) = false := by simp [hsN]
    clear HCF HE5 HREP hSV
    go_wp2_with fail
    refine C3.mono ?_
    clear C3
    rintro e w8 ⟨rfl, rfl⟩
    go_wp2
    exact bodyPost_ret (v := .tuple #[.agg #[.slice none 0 0, .slice none 0 0], .int .i64 EE]) (by simp [results, Try.results49, go_sem, HT.out.1, HT.out.2]) rfl (HF.out _ _)
  have hsE : sizeE (Y.shape.set k (L : Int)) = 0 := Classical.not_not.1 hsN
  have HREP2 : Hid (repR x Y k = (alongA Y k (oftL x.cells D), 0)) := HREP.out.trans (if_neg hsN)
  rw [hsE, hSV] at C3
  obtain ⟨N, hNN⟩ : ∃ N : Nat, SV = (N : Int) ∧ N ≤ 16384 := by have := sizeV_le hsE; exact ⟨SV.toNat, by omega, by omega⟩
  obtain ⟨hNv, hN16⟩ := hNN
  rw [hNv] at C3 hSV
  have HSV := hide (And.intro hsE hSV)
  clear hsN hSV HREP hsE hNv
  obtain ⟨QF, hQF⟩ : ∃ Q : Nat → Nat, Q = alongQ D (sizeV (Y.shape.drop (k + 1))).toNat L (fun i => (gI (oftL x.cells D) i).toNat) := ⟨_, rfl⟩
  have HQ : Hid (∀ t, t < N → ∃ a v : Nat, a < L ∧ gI (digits (Y.shape.set k (L : Int)) (t : Int)) k = (a : Int) ∧ gI (oftL x.cells D) a = (v : Int) ∧ plcV Y.shape ((digits (Y.shape.set k (L : Int)) (t : Int)).set k (v : Int)) = (QF t : Int) ∧ QF t < CY) := fun t ht => by
    have := rep_place HCK.out.2 HKY.out HD.out (l := oftL x.cells D) (oftL_in x.cells D) (by rw [HLL.out]; exact HSV.out.1) (t := t) (by rw [HLL.out, HSV.out.2]; omega)
    rw [HLL.out, HSC.out.2.2.2.2, HSC.out.2.2.2.1, ← hQF] at this
    exact this
  have HAL : Hid (alongA Y k (oftL x.cells D) = .mk (Y.shape.set k (L : Int)) (mkCs N fun p => cAt y.cells (QF p))) := by
    unfold Hid alongA
    rw [HLL.out, HD.out, Int.toNat_natCast, HSV.out.2, Int.toNat_natCast, HSC.out.2.2.2.2, ← hQF]
  obtain ⟨T, hT⟩ : ∃ T : Nat → Value × Value × Value, T = fun p => cellT y.cells ab cb (QF p) := ⟨_, rfl⟩
  have HTT := hide hT
  have HG7 := hide (GrowC.new (T := T) o0 o1 of1)
  have hO5 : Hid (O < W7.heap.size) := by unfold Hid; have := HZ.out; omega
  clear hQF hT o1 of1 p0 p1 f0 f1
  go_wp2_with fail
  refine C3.mono ?_
  clear C3
  rintro e w8 ⟨rfl, rfl⟩
  clear o0
  go_wp2
  go_loopg [14] N (fun g i wr => ∃ (t : Nat) (v : Value), g + t = N ∧ i = .int .i64 (t : Int) ∧ GrowC w8 O (.slice ao SY ko) T t v wr)
  case atStart => exact ⟨0, _, rfl, rfl, HG7.out⟩
  case round =>
    clear HG7
    obtain ⟨t, v, hg, rfl, hgr⟩ := hrel
    obtain ⟨wo, hwo⟩ : ∃ wo, wo = wr := ⟨_, rfl⟩
    subst hwo
    have HGR := hide hgr
    have hz := HZ.out
    have BW := hgr.below (B := O) (Nat.le_refl _) (by omega)
    have I10 := HI9.out.belowS BW (by omega)
    have BW6 : Below w6.heap.size w6 wo := HBO.out.trans (by rw [hz.1]; exact BW)
    have HBW6 := hide BW6
    have o0 := hgr.c0
    by_cases hlt : t < N
    · have hltz : (t : Int) < (N : Int) := by omega
      obtain ⟨a, vv, ha, hga, hgv, hpl, hp2⟩ := HQ.out t hlt
      have C := rplaces_soft (Y.shape.set k (L : Int)) (t : Int) ao ko wo (HRO.out.next BW6)
      rw [List.length_set, HSC.out.2.2.1] at C
      have HI10 := hide I10
      clear I10 hgr BW BW6
      go_wp2_with fail
      refine C.mono ?_
      clear C
      rintro e w9' ⟨hb9', h4⟩
      obtain ⟨b, rfl, hbw, hbl, SC⟩ := h4 HSV.out.1 (by omega) (by rw [HSV.out.2]; omega)
      clear h4
      have hBwc : Below wc.heap.size wc w9' := HB7.out.trans ((HBW6.out.trans (hb9'.mono HBW6.out.size)).mono HB7.out.size)
      rw [List.length_set, HSC.out.2.2.1]
      obtain ⟨DG, hDG⟩ : ∃ DG, digits (Y.shape.set k (L : Int)) (t : Int) = DG := ⟨_, rfl⟩
      have hDl : DG.length = SY := by rw [← hDG, digits_length, List.length_set, HSC.out.2.2.1]
      rw [hDG] at SC hga hpl
      obtain ⟨d0, d1⟩ := SC k (by rw [hDl]; exact hk)
      rw [hga] at d0
      obtain ⟨wb, wf, rfl, hwb, hwcell⟩ := row_at HRW.out (j := a) (by rw [HLL.out]; exact ha)
      have ew : (oftL x.cells D)[a]?.getD 0 = (vv : Int) := hgv
      rw [ew] at hwcell
      have u1 := (hBwc.cell (p := ⟨wb, wf + a, none⟩) hwb).trans hwcell
      have HSCk := SC.set k (by rw [hDl]; exact hk) (vv : Int)
      obtain ⟨w10, e10⟩ : ∃ w10, w9'.setCell ⟨b, k, none⟩ (.int .i64 (vv : Int)) = w10 := ⟨_, rfl⟩
      rw [e10] at HSCk
      have z10 : w10.heap.size = w9'.heap.size := by rw [← e10]; simp
      have hb10 : Below wo.heap.size wo w10 := by rw [← e10]; exact hb9'.setCell (p := ⟨b, k, none⟩) hbw _
      have I11 := HI10.out.next hb10
      have hlD : (DG.set k (vv : Int)).length = SY := by rw [List.length_set, hDl]
      have hB4 : Below W4.heap.size W4 w10 := HB5.out.trans ((HB7.out.trans ((HBW6.out.trans (hb10.mono HBW6.out.size)).mono HB7.out.size)).mono HB5.out.size)
      have C9 := rplace_any Y.shape (DG.set k (vv : Int)) (some ⟨yb, yo, none⟩) (some ⟨b, 0, none⟩) k1 SY w10 (HRY.out.next hB4) (HSCk.row (lo := 0) (by rw [z10]; exact hbl) (Nat.zero_le _) (by rw [hlD]; omega))
      rw [hpl, hlD, HSC.out.2.2.1] at C9
      generalize plcE Y.shape (DG.set k (vv : Int)) = PE at C9
      have HI11 := hide I11
      have HB10 := hide hb10
      have r0' := I11.r0
      have haz : (a : Int) < (L : Int) := by omega
      have hkz : (k : Int) < (SY : Int) := by omega
      have HP2 := hide hp2
      have hT0 : Hid (T t = cellT y.cells ab cb (QF t)) := by unfold Hid; rw [HTT.out]
      clear SC hDG hDl hga hlD hb9' hwcell hwb ew hBwc HSCk z10 hb10 I11 hB4 hbw hbl hpl hp2 hgv o0
      go_wp2_with fail
      clear e10 d0 d1 r0' u1
      refine C9.mono ?_
      clear C9
      rintro e w9 ⟨rfl, hb9⟩
      have HB9 := hide (HB10.out.trans (hb9.mono HB10.out.size))
      have HG9 := hide (HB9.out.mono HGR.out.io.size)
      have I9 := HI11.out.next hb9
      have hNB9 := HB0.out.trans (I9.bel.mono HB0.out.size)
      have hs9 := I9.size
      have r1 := I9.r1
      have hp2 : QF t < CY := HP2.out
      have HTi0 : T t = cellT y.cells ab cb (QF t) := hT0.out
      have hcf2 := HCF.out
      unfold CellsFn at hcf2
      rw [HSC.out.2.2.2.1] at hcf2
      have HCF2 := hide hcf2
      clear hcf2
      generalize QF t = p at *
      clear I9 hb9 HI11 HB10 HP2 hT0 HI10 HTT HQ HSC HCK HZ HCF haz hkz
      obtain ⟨bb, off, rfl, -, hbb, hcells⟩ := HCF2.out (by omega)
      obtain ⟨g0, g1, g2, -⟩ := hcells p hp2
      have u0 := (hNB9.cell (p := ⟨bb, off + p * 3, none⟩) hbb).trans g0
      have u1 := (hNB9.cell (p := ⟨bb, off + p * 3 + 1, none⟩) hbb).trans g1
      have u2 := (hNB9.cell (p := ⟨bb, off + p * 3 + 2, none⟩) hbb).trans g2
      have HTi : Hid (T t = (.int .i64 (cAt y.cells p).1, .int .i64 (cAt y.cells p).2.1, .slice (ab p) (cAt y.cells p).2.2.length (cb p))) := HTi0
      have hp5 : (0 : Int) ≤ (p : Int) := by omega
      have hp6 : (p : Int) < (CY : Int) := by omega
      clear g0 g1 g2 hcells HTi0
      generalize (cAt y.cells p).1 = kk at *
      generalize (cAt y.cells p).2.1 = NN at *
      generalize (cAt y.cells p).2.2.length = nb at *
      generalize ab p = abp at *
      generalize cb p = cbp at *
      have hO5v := hO5.out
      have d1' := (HG9.out.cell (p := ⟨O, 1, none⟩) hO5v).trans HGR.out.c1
      have d2' := (HG9.out.frozen (p := ⟨O, 1, none⟩) hO5v).trans HGR.out.f1
      have BA := one_alloc w9 (.cells #[.int .i64 kk, .int .i64 NN, .slice abp nb cbp] 36)
      have hs59 : w8.heap.size ≤ w9.heap.size := Nat.le_trans HGR.out.io.size HG9.out.size
      have x0 : (w9.alloc (.cells #[.int .i64 kk, .int .i64 NN, .slice abp nb cbp] 36)).cell? ⟨O, 1, none⟩ = some v := (BA.cell (p := ⟨O, 1, none⟩) (by show O < _; omega)).trans d1'
      have HSTEP : Hid (rowT T (t + 1) = rowT T t ++ [.int .i64 kk, .int .i64 NN, .slice abp nb cbp]) := by unfold Hid; rw [rowT_step, HTi.out]
      have OW9 : w9.ownsRow w8.heap.size 36 3 v t (rowT T t) := owns_below HGR.out.own HB9.out
      have HOWN : Hid ((w9.alloc (.cells #[.int .i64 kk, .int .i64 NN, .slice abp nb cbp] 36)).drew.ownsRow w8.heap.size 36 3 v t (rowT T t)) := OW9.alloc (.cells #[.int .i64 kk, .int .i64 NN, .slice abp nb cbp] 36)
      have HNEWS : Hid (∀ i u, [Value.int .i64 kk, .int .i64 NN, .slice abp nb cbp][i]? = some u → (w9.alloc (.cells #[.int .i64 kk, .int .i64 NN, .slice abp nb cbp] 36)).drew.cell? ((⟨w9.heap.size, 0, none⟩ : Addr).add i) = some u) := by
        intro i u hu
        rw [add_off, Nat.zero_add]
        exact cell_new0 w9 _ 36 i u (by simpa using hu)
      have HONE : Hid (∀ u ∈ [Value.int .i64 kk, .int .i64 NN, .slice abp nb cbp], u.oneCell' = true) := by
        intro u hu
        simp at hu
        rcases hu with rfl | rfl | rfl <;> rfl
      have HMAX : Hid (t + 1 ≤ maxLen ∧ (t + 1) * 40 ≤ 140737488355328 ∧ w8.heap.size ≤ (w9.alloc (.cells #[.int .i64 kk, .int .i64 NN, .slice abp nb cbp] 36)).drew.heap.size) := by
        refine ⟨by unfold maxLen; omega, by omega, ?_⟩
        have : (w9.alloc (.cells #[.int .i64 kk, .int .i64 NN, .slice abp nb cbp] 36)).drew.heap.size = w9.heap.size + 1 := by simp
        omega
      have HAB : Hid (Below w8.heap.size wo (w9.alloc (.cells #[.int .i64 kk, .int .i64 NN, .slice abp nb cbp] 36)).drew) := (HG9.out.trans ((Below.refl _ _).alloc (by show _ ≤ w9.heap.size; omega) _)).drew
      clear BA HTi hbb HG9 OW9 hs59 HB9 hNB9 hO5v
      go_wp2
      go_region_law (refine step_append_own rfl (.tmp 89) (.tmp 95) 23 rfl w8.heap.size 36 i0 (.agg #[.int .i64 0, .int .i64 0, .slice none 0 0]) 3 40 Try.underlying23 hi0 hz00 hz01 hz02 rfl (by decide) v t (rowT T t) (by first | rfl | go_simp) HOWN.out ⟨w9.heap.size, 0, none⟩ 1 1 [.int .i64 kk, .int .i64 NN, .slice abp nb cbp] (by first | rfl | go_simp) rfl HNEWS.out HONE.out HMAX.out.1 HMAX.out.2.1 HMAX.out.2.2 ?_; intro v' w1 hown1 hb1; obtain ⟨g, cp, rfl, -⟩ := owns_form hown1 (Nat.succ_pos t); have dd1 := (HAB.out.trans hb1).cell (p := ⟨O, 1, none⟩) hO5.out |>.trans HGR.out.c1; have dd3 := (HAB.out.trans hb1).frozen (p := ⟨O, 1, none⟩) hO5.out |>.trans HGR.out.f1)
      all_goals
        have hown2 : w1.ownsRow w8.heap.size 36 3 (.slice (some ⟨g, 0, none⟩) (t + 1) cp) (t + 1) (rowT T (t + 1)) := by rw [HSTEP.out]; exact hown1
        have HNX := hide (HGR.out.step hO5.out (HAB.out.trans hb1) hown2)
        clear hown1 hown2 hb1 dd1 dd3 HOWN HNEWS HONE HMAX HAB HSTEP x0 u0 u1 u2
        go_wp2
        go_roundg (N - (t + 1))
        case rel => exact ⟨t + 1, _, by omega, by go_num, HNX.out⟩
        case measure => omega
    · have hte : t = N := by omega
      subst hte
      obtain ⟨g2, cp2, rfl, hcells⟩ := owns_cellsT T hgr.own
      have d1' := hgr.c1
      have p0 := I10.p0
      have p1 := I10.p1
      have f0 := I10.f0
      have f1 := I10.f1
      have HT := hide (I10.put (.slice ao SY ko) (.slice g2 t cp2))
      have HFIN : Hid (∀ u v, Gives2Z (n + 1) w0 (repR x Y k).1 (repR x Y k).2 w (.returned (.tuple #[.agg #[.slice ao SY ko, .slice g2 t cp2], .int .i64 0])) ((wo.setCell ⟨w.heap.size + 2, 0, none⟩ u).setCell ⟨w.heap.size + 2, 1, none⟩ v)) := by
        intro u v
        refine gives2z_of (HREP2.out.trans (by rw [HAL.out])) (fun W hW hK => ?_) (I10.fin u v)
        have hs6 := HI6.out.size
        have hs65 := HS65.out
        have K3 : Keeps (w.heap.size + 3) wo W := (((Keeps.refl _ _).setCell (p := ⟨w.heap.size + 2, 0, none⟩) (by show w.heap.size + 2 < _; omega) u).setCell (p := ⟨w.heap.size + 2, 1, none⟩) (by show w.heap.size + 2 < _; omega) v).trans (hK.mono (by omega))
        have hcl : (Ar.mk (Y.shape.set k (L : Int)) (mkCs t fun p => cAt y.cells (QF p))).cells.length = t := mkCs_len _ _
        have RF := (((HRO.out.next BW6).low (show w.heap.size + 3 ≤ w5.heap.size by omega)).keeps K3).low (Nat.zero_le _)
        refine arIn_mk (x := .mk (Y.shape.set k (L : Int)) (mkCs t fun p => cAt y.cells (QF p))) RF (by rw [hcl]; omega) ?_ (by show (Y.shape.set k (L : Int)).length = SY; rw [List.length_set, HSC.out.2.2.1]) hcl
        rcases hcells with h0 | ⟨g, rfl, hg1, hg2, hcc⟩
        · exact Or.inl (List.eq_nil_of_length_eq_zero (by rw [hcl]; exact h0))
        · refine Or.inr ⟨g, 0, rfl, Nat.zero_le _, Nat.lt_of_lt_of_le hg2 K3.1, fun i hi => ?_⟩
          rw [hcl] at hi
          obtain ⟨_, _, -, -, -, -, hp2⟩ := HQ.out i hi
          obtain ⟨b, off, -, -, hb, hcl2⟩ := HCF.out (by rw [HSC.out.2.2.2.1]; omega)
          obtain ⟨-, -, -, hce⟩ := hcl2 (QF i) (by rw [HSC.out.2.2.2.1]; exact hp2)
          obtain ⟨e0, e1, e2⟩ := hcc i hi
          rw [Nat.zero_add]
          have ap : ∀ (o : Nat) (q : Value), wo.cell? ⟨g, o, none⟩ = some q → W.cell? ⟨g, o, none⟩ = some q := fun o q h => (K3.cell (p := ⟨g, o, none⟩) (by show w.heap.size + 3 ≤ g; omega) hg2).trans h
          refine ⟨_, _, _, ap _ _ e0, ap _ _ e1, ap _ _ e2, ?_⟩
          have ec : cAt (Ar.mk (Y.shape.set k (L : Int)) (mkCs t fun p => cAt y.cells (QF p))).cells i = cAt y.cells (QF i) := mkCs_at _ _ _ hi
          rw [ec, HTT.out]
          exact hce.mono (Nat.zero_le _) hW fun x v h => h.mono (Nat.zero_le _) hW
      clear I10 hgr HGR HCF hcells BW HQ HSC HCK HTT HREP2 HAL hz HZ
      go_wp2
      exact bodyPost_ret (v := .tuple #[.agg #[.slice ao SY ko, .slice g2 t cp2], .int .i64 0]) (by simp [results, Try.results49, go_sem, HT.out.1, HT.out.2]) rfl (HFIN.out _ _)
end Go.Proofs.Ytmjncdhahdpplaa
namespace Go.Proofs.Ytmjncdhahdpplaa
open Go.ChangeShapes Go.WideShapes Go.ChangeAt Go.RowKit
set_option linter.unusedVariables false
set_option maxRecDepth 100000
theorem lkL_step (x : Ar) (c : Nat) : (List.range (c + 1)).map (fun i => (cAt x.cells i).2.1) = (List.range c).map (fun i => (cAt x.cells i).2.1) ++ [(cAt x.cells c).2.1] := by simp [List.range_succ]
theorem lookR_rank {x y : Ar} (h : y.shape.length = 0 ∨ 9 < x.shape.length + y.shape.length) : lookR x y = (zeroA, 6) := if_pos h
theorem lookR_up {x y : Ar} {E : Int} (h : ¬ (y.shape.length = 0 ∨ 9 < x.shape.length + y.shape.length)) (hE : firstUp (lkF x y) x.cells.length = E) (hn : ¬ E = 0) : lookR x y = (zeroA, E) := by
  unfold lookR; rw [if_neg h, hE, if_pos hn]
theorem lookR_size {x y : Ar} (h : ¬ (y.shape.length = 0 ∨ 9 < x.shape.length + y.shape.length)) (hE : firstUp (lkF x y) x.cells.length = 0) (hn : ¬ sizeE (x.shape ++ y.shape.tail) = 0) : lookR x y = (zeroA, sizeE (x.shape ++ y.shape.tail)) := by
  unfold lookR; rw [if_neg h, hE, if_neg (by simp), if_pos hn]
theorem lookR_ok {x y : Ar} {m : Nat} (hx : chkA 8 x = 0) (hy : chkA 8 y = 0) (h : ¬ (y.shape.length = 0 ∨ 9 < x.shape.length + y.shape.length)) (hE : firstUp (lkF x y) x.cells.length = 0) (hs : sizeE (x.shape ++ y.shape.tail) = 0) (hm : sizeV y.shape.tail = (m : Int)) : lookR x y = (.mk (x.shape ++ y.shape.tail) (itmsA y m (lkL x) 0 0).cells, 0) ∧ (∀ i, i < (lkL x).length → 0 ≤ gI (lkL x) i ∧ gI (lkL x) i < gI y.shape 0) ∧ sizeE (((lkL x).length : Int) :: y.shape.tail) = 0 := by
  have hin : ∀ i, i < (lkL x).length → 0 ≤ gI (lkL x) i ∧ gI (lkL x) i < gI y.shape 0 := fun i hi => by
    rw [lkL_len] at hi
    have h0 := firstUp_none hE i hi
    rw [lkL_at x i hi]
    unfold lkF at h0
    by_cases h1 : (cAt x.cells i).1 = 0
    · rw [if_neg (by simp [h1])] at h0
      by_cases h2 : (cAt x.cells i).2.1 < 0 ∨ gI y.shape 0 ≤ (cAt x.cells i).2.1
      · rw [if_pos h2] at h0; omega
      · omega
    · rw [if_pos h1] at h0; omega
  have hS : 0 < y.shape.length := by omega
  have hsz : sizeE (((lkL x).length : Int) :: y.shape.tail) = 0 := by
    have := look_size hx hy hS hs
    rw [lkL_len]
    cases hsh : y.shape with
    | nil => rw [hsh] at hS; simp at hS
    | cons d t => rw [hsh] at this; exact this
  refine ⟨?_, hin, hsz⟩
  rw [items_along (D := 0) hS hm (fun i hi => (hin i hi).1) hsz 0 0]
  unfold lookR
  rw [if_neg h, hE, if_neg (by simp), if_neg (by rw [hs]; simp)]
set_option maxHeartbeats 4000000 in
theorem rfrom_any {n lo lo' : Nat} {x y : Ar} {va vb : Value} {w0 w : World} (hx : ArIn (n + 1) lo w0 x va) (hy : ArIn (n + 1) lo' w0 y vb) (hb0 : Below w0.heap.size w0 w) (hcx : chkA 8 x = 0) (hcy : chkA 8 y = 0) (hcap : Caps vb) :
    Calls Try.prog 48 #[va, vb] w fun e w' => Gives2Z (n + 1) w0 (lookR x y).1 (lookR x y).2 w e w' := by
  obtain ⟨a1, c1, a2, c2, rfl, R, hc⟩ := hx.form
  obtain ⟨b1, d1, b2, d2, rfl, RY, hcY⟩ := hy.form
  obtain ⟨hd1, hd2⟩ := caps_form hcap
  obtain ⟨i3, hi3, hz30, hz31, hz32⟩ := infoI3
  obtain ⟨l8, c16⟩ := chk_len hcx
  obtain ⟨l8y, c16y⟩ := chk_len hcy
  obtain ⟨ab, cb, hcf⟩ := cells_fn hc
  have I := in3_new w (.slice a1 x.shape.length c1) (.slice a2 x.cells.length c2) (.slice b1 y.shape.length d1) (.slice b2 y.cells.length d2)
  obtain ⟨W3, e3⟩ : ∃ W3, ((w.alloc (.cells #[.slice a1 x.shape.length c1, .slice a2 x.cells.length c2] 25)).alloc (.cells #[.slice b1 y.shape.length d1, .slice b2 y.cells.length d2] 25)).alloc (.cells #[.slice none 0 0, .slice none 0 0] 25) = W3 := ⟨_, rfl⟩
  rw [e3] at I
  have q0 := I.q0
  have q1 := I.q1
  have r0 := I.r0
  have r1 := I.r1
  have p0 := I.p0
  have p1 := I.p1
  have f0 := I.f0
  have f1 := I.f1
  have HI := hide I
  have HB0 := hide hb0
  have HX := hide hx
  have HY := hide (And.intro hy hcap)
  have HCK := hide (And.intro hcx hcy)
  have HRR := hide (And.intro R RY)
  have HCF : Hid (CellsFn n lo w0 x.cells a2 ab cb) := hcf
  have HDD := hide hd1
  obtain ⟨SX, hSX⟩ : ∃ SX, x.shape.length = SX := ⟨_, rfl⟩
  obtain ⟨CX, hCX⟩ : ∃ CX, x.cells.length = CX := ⟨_, rfl⟩
  obtain ⟨SY, hSY⟩ : ∃ SY, y.shape.length = SY := ⟨_, rfl⟩
  obtain ⟨CY, hCY⟩ : ∃ CY, y.cells.length = CY := ⟨_, rfl⟩
  have HSC := hide (And.intro hSX (And.intro hCX (And.intro hSY hCY)))
  simp only [hSX, hCX, hSY, hCY] at e3 q0 q1 r0 r1 HI HX HY l8 c16 l8y c16y ⊢
  clear I R RY hc hcY hx hy hcap hb0 hcx hcy hSX hCX hSY hCY hcf hd1 hd2
  by_cases hb : SY = 0 ∨ 9 < SX + SY
  · have HE5 : Hid (lookR x y = (zeroA, 6)) := lookR_rank (by rw [HSC.out.1, HSC.out.2.2.1]; exact hb)
    have HT := hide (HI.out.put (.slice none 0 0) (.slice none 0 0))
    have HF : Hid (∀ u v, Gives2Z (n + 1) w0 (lookR x y).1 (lookR x y).2 w (.returned (.tuple #[.agg #[.slice none 0 0, .slice none 0 0], .int .i64 6])) ((W3.setCell ⟨w.heap.size + 2, 0, none⟩ u).setCell ⟨w.heap.size + 2, 1, none⟩ v)) := fun u v => gives2z_of HE5.out (fun W _ _ => zeroA_in _ _ _) (HI.out.fin u v)
    clear HCF HE5
    by_cases hb1 : SY = 0
    · have hb2 : ((SY : Int) == 0) = true := by simp [hb1]
      clear hb hb1
      go_enter Try.func48, Try.ntmps48
      go_wp2
      exact bodyPost_ret (v := .tuple #[.agg #[.slice none 0 0, .slice none 0 0], .int .i64 6]) (by simp [results, Try.results48, go_sem, HT.out.1, HT.out.2]) rfl (HF.out _ _)
    · have hb2 : ((SY : Int) == 0) = false := by simp [hb1]
      have hb3 : (9 : Int) < (SX : Int) + (SY : Int) := by omega
      clear hb hb1
      go_enter Try.func48, Try.ntmps48
      go_wp2
      exact bodyPost_ret (v := .tuple #[.agg #[.slice none 0 0, .slice none 0 0], .int .i64 6]) (by simp [results, Try.results48, go_sem, HT.out.1, HT.out.2]) rfl (HF.out _ _)
  have HNB : Hid (¬ (y.shape.length = 0 ∨ 9 < x.shape.length + y.shape.length)) := by unfold Hid; rw [HSC.out.1, HSC.out.2.2.1]; exact hb
  have hb1 : 0 < SY := by omega
  have hb2 : ((SY : Int) == 0) = false := by simp; omega
  have hb3 : ¬ (9 : Int) < (SX : Int) + (SY : Int) := by omega
  have hb9 : SX + SY ≤ 9 := by omega
  clear hb
  obtain ⟨yb, yo, rfl, hyb, hyc⟩ := row_at HRR.out.2 (j := 0) (by rw [HSC.out.2.2.1]; exact hb1)
  have hDb := (chk_axes HCK.out.2).1 (gI y.shape 0) (getD_mem (by rw [HSC.out.2.2.1]; exact hb1))
  obtain ⟨D, hD⟩ : ∃ D : Nat, gI y.shape 0 = (D : Int) := ⟨(gI y.shape 0).toNat, by omega⟩
  have hD16 : D ≤ 16384 := by omega
  have eg : y.shape[0]?.getD 0 = (D : Int) := hD
  rw [eg, Nat.add_zero] at hyc
  have HYC := hide (And.intro hyb hyc)
  have HD := hide hD
  clear hDb hD eg hyb hyc
  go_enter Try.func48, Try.ntmps48
  go_wp2
  clear e3 q0 q1 r0 r1 p0 p1 f0 f1
  go_loopg [6, 7] CX (fun g wv i wr => ∃ t : Nat, g + t = CX ∧ i = .int .i64 (t : Int) ∧ firstUp (lkF x y) t = 0 ∧ Below W3.heap.size W3 wr ∧ wr.ownsRow W3.heap.size 3 1 wv t (((List.range t).map fun i => (cAt x.cells i).2.1).map (Value.int .i64)))
  case atStart => exact ⟨0, rfl, rfl, rfl, Below.refl _ _, World.ownsRow_nil _ _ _ _⟩
  case round =>
    obtain ⟨t, hg, rfl, hfu, hnx, hown⟩ := hrel
    have I6 := HI.out.next hnx
    have q0 := I6.q0
    have q1 := I6.q1
    have r0 := I6.r0
    have hNB := HB0.out.trans (I6.bel.mono HB0.out.size)
    by_cases hlt : t < CX
    · have hltz : (t : Int) < (CX : Int) := by omega
      obtain ⟨bb, off, rfl, -, hbb, hcells⟩ := HCF.out (by rw [HSC.out.2.1]; omega)
      obtain ⟨g0, g1, -, -⟩ := hcells t (by rw [HSC.out.2.1]; exact hlt)
      have u0 := (hNB.cell (p := ⟨bb, off + t * 3, none⟩) hbb).trans g0
      have u1 := (hNB.cell (p := ⟨bb, off + t * 3 + 1, none⟩) hbb).trans g1
      have u2 := (hNB.cell (p := ⟨yb, yo, none⟩) HYC.out.1).trans HYC.out.2
      have HLF : Hid (lkF x y t = if ¬ (cAt x.cells t).1 = 0 then 5 else if (cAt x.cells t).2.1 < 0 ∨ (D : Int) ≤ (cAt x.cells t).2.1 then 8 else 0) := by unfold Hid lkF; rw [HD.out]
      have HST := hide (lkL_step x t)
      have HUP : Hid (∀ E : Int, lkF x y t = E → ¬ E = 0 → lookR x y = (zeroA, E)) := fun E hE hn => lookR_up HNB.out (by rw [HSC.out.2.1, firstUp_hit hfu (by rw [hE]; exact hn) CX hlt, hE]) hn
      have HFU := hide hfu
      have HI6 := hide I6
      generalize (cAt x.cells t).1 = kd at *
      generalize hNN : (cAt x.cells t).2.1 = NN at *
      clear hNN g0 g1 hcells hbb hNB I6 hfu
      by_cases hk : kd = 0
      · by_cases hn : NN < 0 ∨ (D : Int) ≤ NN
        · have HE5 : Hid (lookR x y = (zeroA, 8)) := HUP.out 8 (by rw [HLF.out, if_neg (by simp [hk]), if_pos hn]) (by decide)
          have p0 := HI6.out.p0
          have p1 := HI6.out.p1
          have f0 := HI6.out.f0
          have f1 := HI6.out.f1
          have HT := hide fun q => (HI6.out.next (belowN (Below.refl _ _) q)).put (.slice none 0 0) (.slice none 0 0)
          have HF : Hid (∀ q u v, Gives2Z (n + 1) w0 (lookR x y).1 (lookR x y).2 w (.returned (.tuple #[.agg #[.slice none 0 0, .slice none 0 0], .int .i64 8])) (((wr.drewN q).setCell ⟨w.heap.size + 2, 0, none⟩ u).setCell ⟨w.heap.size + 2, 1, none⟩ v)) := fun q u v => gives2z_of HE5.out (fun W _ _ => zeroA_in _ _ _) ((HI6.out.next (belowN (Below.refl _ _) q)).fin u v)
          rw [hk] at u0
          clear hk HCF HE5 HUP HLF HST hown hnx
          by_cases hn1 : NN < 0
          · clear hn
            go_wp2
            go_quiet (fail)
            go_wp2
            exact bodyPost_ret (v := .tuple #[.agg #[.slice none 0 0, .slice none 0 0], .int .i64 8]) (by simp [results, Try.results48, go_sem, (HT.out _).1, (HT.out _).2]) rfl (HF.out _ _ _)
          · have hn2 : (D : Int) ≤ NN := by omega
            clear hn
            go_wp2
            go_quiet (fail)
            go_wp2
            exact bodyPost_ret (v := .tuple #[.agg #[.slice none 0 0, .slice none 0 0], .int .i64 8]) (by simp [results, Try.results48, go_sem, (HT.out _).1, (HT.out _).2]) rfl (HF.out _ _ _)
        · have HF1 : Hid (firstUp (lkF x y) (t + 1) = 0) := by unfold Hid; rw [firstUp_step HFU.out, HLF.out, if_neg (by simp [hk]), if_neg hn]
          have hn1 : ¬ NN < 0 := by omega
          have hn2 : ¬ (D : Int) ≤ NN := by omega
          rw [hk] at u0
          clear hk HUP HLF hn
          go_wp2
          go_quiet (fail)
          go_upto_region 11 with fail
          obtain ⟨wq, hwq⟩ : ∃ wq, wr.drewN nq = wq := ⟨_, rfl⟩
          have hnx := belowN hnx nq
          have hown : (wr.drewN nq).ownsRow W3.heap.size 3 1 _ t _ := hown
          rw [hwq] at hown hnx ⊢
          have q1 : wq.cell? ⟨w.heap.size, 1, none⟩ = some (.slice (some ⟨bb, off, none⟩) CX c2) := by rw [← hwq]; exact q1
          have u1 : wq.cell? ⟨bb, off + t * 3 + 1, none⟩ = some (.int .i64 NN) := by rw [← hwq]; exact u1
          clear hwq q0 r0 u0 u2 HI6
          have OWN := hown.alloc (.cells #[.int .i64 NN] 3)
          have HNW : Hid (∀ i u, [Value.int .i64 NN][i]? = some u → (wq.alloc (.cells #[.int .i64 NN] 3)).cell? ((⟨wq.heap.size, 0, none⟩ : Addr).add i) = some u) := by
            intro i u hu
            rw [add_off, Nat.zero_add]
            exact cell_new0 wq _ 3 i u (by simpa using hu)
          have HZZ : Hid (W3.heap.size ≤ (wq.alloc (.cells #[.int .i64 NN] 3)).heap.size) := Nat.le_trans hnx.size (one_alloc _ _).size
          have HNX := hide (hnx.trans ((one_alloc wq (.cells #[.int .i64 NN] 3)).mono hnx.size))
          clear hown hnx
          go_wp2_with (at_builtin; refine wpList_append_B rfl _ _ 22 rfl W3.heap.size 3 i3 (.int .i64 0) 1 8 Try.underlying22 hi3 hz30 hz31 hz32 rfl (by decide) _ _ _ rfl OWN ⟨wq.heap.size, 0, none⟩ 1 1 [.int .i64 NN] rfl rfl HNW.out ?c2 ?c3 ?c4 HZZ.out ?_)
          case c2 => first | rfl | (intro u hu; simp at hu; subst hu; rfl)
          case c3 => unfold maxLen; omega
          case c4 => omega
          intro v' w1 hown1 hb1
          have hown2 : w1.ownsRow W3.heap.size 3 1 v' (t + 1) (((List.range (t + 1)).map fun i => (cAt x.cells i).2.1).map (Value.int .i64)) := by rw [HST.out]; simpa using hown1
          have HF := hide (And.intro (HNX.out.trans hb1) hown2)
          clear hown1 hown2 hb1 OWN HNW HZZ HNX HST
          clear hltz
          go_wp2
          go_roundg (CX - (t + 1))
          case rel => exact ⟨t + 1, by omega, by go_num, HF1.out, HF.out.1, HF.out.2⟩
          case measure => omega
      · have HE5 : Hid (lookR x y = (zeroA, 5)) := HUP.out 5 (by rw [HLF.out, if_pos hk]) (by decide)
        have p0 := HI6.out.p0
        have p1 := HI6.out.p1
        have f0 := HI6.out.f0
        have f1 := HI6.out.f1
        have HT := hide (HI6.out.put (.slice none 0 0) (.slice none 0 0))
        have HF : Hid (∀ u v, Gives2Z (n + 1) w0 (lookR x y).1 (lookR x y).2 w (.returned (.tuple #[.agg #[.slice none 0 0, .slice none 0 0], .int .i64 5])) ((wr.setCell ⟨w.heap.size + 2, 0, none⟩ u).setCell ⟨w.heap.size + 2, 1, none⟩ v)) := fun u v => gives2z_of HE5.out (fun W _ _ => zeroA_in _ _ _) (HI6.out.fin u v)
        have hkb : (kd == 0) = false := by simp [hk]
        clear HCF HE5 HUP HLF HST hown hnx
        go_wp2
        exact bodyPost_ret (v := .tuple #[.agg #[.slice none 0 0, .slice none 0 0], .int .i64 5]) (by simp [results, Try.results48, go_sem, HT.out.1, HT.out.2]) rfl (HF.out _ _)
    · have hte : t = CX := by omega
      subst hte
      have hll : (lkL x).length = t := by rw [lkL_len, HSC.out.2.1]
      have HLK : (List.range t).map (fun i => (cAt x.cells i).2.1) = lkL x := by unfold lkL; rw [HSC.out.2.1]
      rw [HLK] at hown
      obtain ⟨aw, cw, rfl, RW⟩ := owns_rowE (lkL x) (by rw [hll]; omega) (by rw [hll]; exact hown)
      rw [hll]
      have HFE : Hid (firstUp (lkF x y) x.cells.length = 0) := by unfold Hid; rw [HSC.out.2.1]; exact hfu
      have HRW := hide RW
      have HI6 := hide I6
      obtain ⟨SM, hSM⟩ : ∃ SM, SY - 1 = SM := ⟨_, rfl⟩
      have HTL : Hid (y.shape.tail.length = SM) := by unfold Hid; rw [List.length_tail, HSC.out.2.2.1, hSM]
      have HP1 := hide fun W => part_l (P := Try.prog) Try.underlying22 size3 (some ⟨yb, yo, none⟩) SY d1 1 1 rfl hb1 W
      have hp1 := HP1.out
      have RT : Row lo' w0 (subA (some ⟨yb, yo, none⟩) 1 d1 1) y.shape.tail := by
        have := HRR.out.2.part 1 d1 (y.shape.length - 1) (by have := HSC.out.2.2.1; omega) HDD.out
        rw [List.take_of_length_le (by rw [List.length_drop]; omega), List.drop_one] at this; exact this
      obtain ⟨at', hat⟩ : ∃ at', subA (some ⟨yb, yo, none⟩) 1 d1 1 = at' := ⟨_, rfl⟩
      obtain ⟨ct, hct⟩ : ∃ ct, d1 - 1 = ct := ⟨_, rfl⟩
      simp only [hat, hct, hSM] at hp1 RT
      have HL1 : Hid (Lies wr a1 (x.shape.map (Value.int .i64))) := Lies.row_next HRR.out.1 hNB
      have hsl1 : (x.shape.map (Value.int .i64)).length = SX * 1 := by rw [List.length_map, HSC.out.1]; omega
      have hsl2 : (y.shape.tail.map (Value.int .i64)).length = SM * 1 := by rw [List.length_map, HTL.out]; omega
      have HMX : Hid (0 + SX ≤ maxLen ∧ (0 + SX) * 8 ≤ 140737488355328 ∧ SX + SM ≤ maxLen ∧ (SX + SM) * 8 ≤ 140737488355328) := ⟨by unfold maxLen; omega, by omega, by unfold maxLen; omega, by omega⟩
      have HRT := hide RT
      have hS9 : SX + SM ≤ 8 := by omega
      clear hown RW hfu I6 hnx HLK HP1 RT hat hct hSM hll
      go_wp2_with (at_builtin; refine wpList_append_any rfl _ _ 22 rfl wr.heap.size 3 i3 (.int .i64 0) 1 8 Try.underlying22 hi3 hz30 hz31 hz32 rfl (by decide) (.slice none 0 0) 0 [] (by first | rfl | go_simp) (World.ownsRow_nil _ _ _ _) a1 SX c1 (x.shape.map (Value.int .i64)) (by first | rfl | go_simp) hsl1 HL1.out HMX.out.1 HMX.out.2.1 (Nat.le_refl _) ?_)
      intro v1 w4 hown4 hb4
      obtain ⟨al, cl, rfl, -⟩ := owns_cap hown4
      have I7 := HI6.out.next hb4
      have r0' := I7.r0
      have HL2 : Hid (Lies w4 at' (y.shape.tail.map (Value.int .i64))) := Lies.row_next HRT.out (HB0.out.trans (I7.bel.mono HB0.out.size))
      have HO4 := hide hown4
      have HS4 := hide hb4.size
      have HB4 := hide hb4
      clear hown4 hb4 I7 q0 q1 r0 HL1
      go_wp2_with (at_builtin; refine wpList_append_any rfl _ _ 22 rfl wr.heap.size 3 i3 (.int .i64 0) 1 8 Try.underlying22 hi3 hz30 hz31 hz32 rfl (by decide) (.slice al SX cl) SX (x.shape.map (Value.int .i64)) (by first | rfl | go_simp) HO4.out at' SM ct (y.shape.tail.map (Value.int .i64)) (by first | rfl | go_simp) hsl2 HL2.out HMX.out.2.2.1 HMX.out.2.2.2 HS4.out ?_)
      intro v2 w5 hown5 hb5
      have hlen : (x.shape ++ y.shape.tail).length = SX + SM := by rw [List.length_append, HSC.out.1, HTL.out]
      obtain ⟨al2, cl2, rfl, RL⟩ := owns_rowE (x.shape ++ y.shape.tail) (by rw [hlen]; omega) (by rw [hlen]; simpa using hown5)
      have hb45 := HB4.out.trans hb5
      have I8 := HI6.out.next hb45
      have C := rsize_any (x.shape ++ y.shape.tail) al2 cl2 w5 RL
      rw [hlen] at C ⊢
      have HRL := hide RL
      have HI8 := hide I8
      have HB45 := hide hb45
      clear hown5 hb5 RL hb45 I8 HO4 HS4 HB4 HL2 r0' HMX hsl1 hsl2
      generalize sizeV (x.shape ++ y.shape.tail) = SV at C
      by_cases hsN : ¬ sizeE (x.shape ++ y.shape.tail) = 0
      · have HE5 : Hid (lookR x y = (zeroA, sizeE (x.shape ++ y.shape.tail))) := lookR_size HNB.out HFE.out hsN
        have HT := hide (HI8.out.put (.slice none 0 0) (.slice none 0 0))
        have HF : Hid (∀ u v, Gives2Z (n + 1) w0 (lookR x y).1 (lookR x y).2 w (.returned (.tuple #[.agg #[.slice none 0 0, .slice none 0 0], .int .i64 (sizeE (x.shape ++ y.shape.tail))])) ((w5.setCell ⟨w.heap.size + 2, 0, none⟩ u).setCell ⟨w.heap.size + 2, 1, none⟩ v)) := fun u v => gives2z_of HE5.out (fun W _ _ => zeroA_in _ _ _) (HI8.out.fin u v)
        generalize sizeE (x.shape ++ y.shape.tail) = EE at *
        have hEb : (EE == 0) = false := by simp [hsN]
        have p0 := HI8.out.p0
        have p1 := HI8.out.p1
        have f0 := HI8.out.f0
        have f1 := HI8.out.f1
        clear HCF HE5
        go_wp2_with fail
        refine C.mono ?_
        clear C
        rintro e w6 ⟨rfl, rfl⟩
        go_wp2
        exact bodyPost_ret (v := .tuple #[.agg #[.slice none 0 0, .slice none 0 0], .int .i64 EE]) (by simp [results, Try.results48, go_sem, HT.out.1, HT.out.2]) rfl (HF.out _ _)
      have hsE : sizeE (x.shape ++ y.shape.tail) = 0 := Classical.not_not.1 hsN
      rw [hsE] at C
      clear hsN
      obtain ⟨m, hm, hm16⟩ := sizeV_nat y.shape.tail
      obtain ⟨hok, hin, hsz⟩ := lookR_ok HCK.out.1 HCK.out.2 HNB.out HFE.out hsE hm
      have HE5 := hide hok
      have hll : (lkL x).length = t := by rw [lkL_len, HSC.out.2.1]
      have hS0 : 0 < y.shape.length := by rw [HSC.out.2.2.1]; exact hb1
      have HNm : t * m ≤ 16384 := by
        rcases Nat.eq_zero_or_pos t with h | h
        · rw [h]; omega
        · rw [hll] at hsz
          have h1 := size_cons hsz (by omega)
          have h2 := (sizeV_le hsz).2
          rw [h1, hm, ← Int.natCast_mul] at h2
          omega
      have hY := HY.out
      rw [← HSC.out.2.2.1, ← HSC.out.2.2.2] at hY
      have CI := ritems_any (w := w5) (cw := cw) 0 0 hY.1 (HB0.out.trans (HI8.out.bel.mono HB0.out.size)) (HRW.out.next HB45.out) hS0 (by rw [HSC.out.2.2.1]; exact l8y) hm (by rw [HSC.out.2.2.2]; exact c16y) hY.2 (by rw [hll]; omega) (by rw [hll]; exact HNm) hm16 (fun i hi h0 => by
        have hi2 := (hin i hi).2
        rw [HD.out] at hi2
        exact ⟨(item_le HCK.out.2 hS0 HD.out hm (j := (gI (lkL x) i).toNat) (by omega)).1, by omega⟩)
      rw [HSC.out.2.2.1, HSC.out.2.2.2, hll] at CI
      have HCI := hide CI
      have r0 := HI8.out.r0
      have r1 := HI8.out.r1
      clear hok hin hsz hll HNm hY CI hsE hm
      go_wp2_with (go_at_call 67; refine C.mono ?_; rintro e w6 ⟨rfl, rfl⟩)
      clear C
      refine HCI.out.mono ?_
      clear HCI
      rintro e w9 ⟨⟨vr, rfl, hv⟩, hb9'⟩
      have I9 := HI8.out.next hb9'
      obtain ⟨o1, k1, o2, k2, rfl, -, -⟩ := (hv w9 (HB0.out.trans (I9.bel.mono HB0.out.size)) (Keeps.refl _ _)).form
      have p0 := I9.p0
      have p1 := I9.p1
      have f0 := I9.f0
      have f1 := I9.f1
      obtain ⟨CO, hCO⟩ : ∃ CO, (itmsA y m (lkL x) 0 0).cells.length = CO := ⟨_, rfl⟩
      have HT := hide (I9.put (.slice al2 (SX + SM) cl2) (.slice o2 CO k2))
      have HFIN : Hid (∀ u v, Gives2Z (n + 1) w0 (lookR x y).1 (lookR x y).2 w (.returned (.tuple #[.agg #[.slice al2 (SX + SM) cl2, .slice o2 CO k2], .int .i64 0])) ((w9.setCell ⟨w.heap.size + 2, 0, none⟩ u).setCell ⟨w.heap.size + 2, 1, none⟩ v)) := by
        intro u v
        refine gives2z_of HE5.out (fun W hW hK => ?_) (I9.fin u v)
        have hs := HI6.out.size
        have hs5 := HB45.out.size
        have K2 : Keeps (w.heap.size + 3) w9 W := (((Keeps.refl _ _).setCell (p := ⟨w.heap.size + 2, 0, none⟩) (by show w.heap.size + 2 < _; omega) u).setCell (p := ⟨w.heap.size + 2, 1, none⟩) (by show w.heap.size + 2 < _; omega) v).trans (hK.mono (by omega))
        have hA := hv W hW (K2.mono (by omega))
        obtain ⟨o1', k1', o2', k2', he, -, hcc⟩ := hA.form
        simp only [Value.agg.injEq, Array.mk.injEq, List.cons.injEq, Value.slice.injEq, and_true, true_and] at he
        obtain ⟨-, rfl, rfl⟩ := he
        obtain ⟨-, -, -, -, -, -, hcl, -⟩ := hA
        have RF := (((HRL.out.next hb9').low (show w.heap.size + 3 ≤ wr.heap.size by omega)).keeps K2).low (Nat.zero_le _)
        exact arIn_mk (x := .mk (x.shape ++ y.shape.tail) (itmsA y m (lkL x) 0 0).cells) RF hcl hcc (by rw [← hlen]; rfl) hCO
      rw [hCO]
      clear I9 hv hb9'
      have hfld := field25
      go_wp2
      exact bodyPost_ret (v := .tuple #[.agg #[.slice al2 (SX + SM) cl2, .slice o2 CO k2], .int .i64 0]) (by simp [results, Try.results48, go_sem, HT.out.1, HT.out.2]) rfl (HFIN.out _ _)
end Go.Proofs.Ytmjncdhahdpplaa
namespace Go.Proofs.Ytmjncdhahdpplaa
open Go.ChangeShapes Go.WideShapes Go.ChangeAt Go.RowKit
set_option linter.unusedVariables false
set_option maxRecDepth 100000
theorem drop_is {x y : Ar} (hy : chkA 8 y = 0) (hS : 0 < y.shape.length) {D m : Nat} (hD : gI y.shape 0 = (D : Int)) (hm : sizeV y.shape.tail = (m : Int)) (hn : (numR x).2 = 0) : drpR x y = (itmsA y m (fromL (drpF (numR x).1 D) (drpN (numR x).1 D)) 0 0, 0) := by
  have hle := drp_le (numR x).1 D
  have hsz := drop_size hy hS hD (L := drpN (numR x).1 D) (by omega)
  have hset : y.shape.set 0 ((drpN (numR x).1 D : Nat) : Int) = ((drpN (numR x).1 D : Nat) : Int) :: y.shape.tail := by
    cases hsh : y.shape with
    | nil => rw [hsh] at hS; simp at hS
    | cons d t => rfl
  rw [hset] at hsz
  unfold drpR
  rw [if_neg (by rw [hn]; simp), hD, Int.toNat_natCast, items_along (D := D) hS hm (fun i hi => by rw [fromL_len] at hi; rw [fromL_at _ _ i hi]; omega) (by rw [fromL_len]; exact hsz)]
theorem rot_is {x y : Ar} {k : Nat} (hn : (numR x).2 = 0) : rotR x y k = (rotY (numR x).1 y k, 0) := by
  unfold rotR rotY
  rw [if_neg (by rw [hn]; simp)]
  by_cases h : y.shape.length = 0
  · rw [if_pos h, if_pos h]
  · rw [if_neg h, if_neg h]
end Go.Proofs.Ytmjncdhahdpplaa
namespace Go.Proofs.Ytmjncdhahdpplaa
open Go.ChangeShapes Go.WideShapes Go.ChangeAt Go.RowKit
set_option linter.unusedVariables false
set_option maxRecDepth 100000
/-- Which items Take has; -1 where it fills. -/
def takI (z : Int) (D K i : Nat) : Int := if z < 0 then (D : Int) - (K : Int) + (i : Int) else (i : Int)
def takJ (z : Int) (D K i : Nat) : Int := if takI z D K i < 0 ∨ (D : Int) ≤ takI z D K i then -1 else takI z D K i
def takL (z : Int) (D K : Nat) : List Int := (List.range K).map (takJ z D K)
theorem takL_len (z : Int) (D K : Nat) : (takL z D K).length = K := by simp [takL]
theorem takL_at (z : Int) (D K i : Nat) (hi : i < K) : gI (takL z D K) i = takJ z D K i := by simp [gI, takL, hi]
theorem tak_step (z : Int) (D K c : Nat) : (List.range (c + 1)).map (takJ z D K) = (List.range c).map (takJ z D K) ++ [takJ z D K c] := by simp [List.range_succ]
/-- Whether something other than numbers would fill. -/
def takB (y : Ar) (D K : Nat) : Bool := decide (D < K ∧ 0 < y.cells.length ∧ ¬ (cAt y.cells 0).1 = 0)
def takY (z : Int) (y : Ar) (D m : Nat) : Ar × Int :=
  if 16384 < z ∨ z < -16384 then (zeroA, 12) else
  if ¬ sizeE ((z.natAbs : Int) :: y.shape.tail) = 0 then (zeroA, sizeE ((z.natAbs : Int) :: y.shape.tail)) else
  if takB y D z.natAbs = true ∧ (cAt y.cells 0).1 = 2 then (zeroA, 5) else
  (itmsA y m (takL z D z.natAbs) (if takB y D z.natAbs = true then 1 else 0) (if takB y D z.natAbs = true then 32 else 0), 0)
theorem takY_big {z : Int} (y : Ar) (D m : Nat) (h : 16384 < z ∨ z < -16384) : takY z y D m = (zeroA, 12) := if_pos h
theorem takY_size {z : Int} {y : Ar} {K : Nat} (D m : Nat) (h : ¬ (16384 < z ∨ z < -16384)) (hK : z.natAbs = K) (hs : ¬ sizeE ((K : Int) :: y.shape.tail) = 0) : takY z y D m = (zeroA, sizeE ((K : Int) :: y.shape.tail)) := by
  unfold takY; rw [if_neg h, hK, if_pos hs]
theorem takY_box {z : Int} {y : Ar} {K D : Nat} (m : Nat) (h : ¬ (16384 < z ∨ z < -16384)) (hK : z.natAbs = K) (hs : sizeE ((K : Int) :: y.shape.tail) = 0) (hb : takB y D K = true ∧ (cAt y.cells 0).1 = 2) : takY z y D m = (zeroA, 5) := by
  unfold takY; rw [if_neg h, hK, if_neg (by rw [hs]; simp), if_pos hb]
theorem takY_ok {z : Int} {y : Ar} {K D : Nat} (m : Nat) (h : ¬ (16384 < z ∨ z < -16384)) (hK : z.natAbs = K) (hs : sizeE ((K : Int) :: y.shape.tail) = 0) (hb : ¬ (takB y D K = true ∧ (cAt y.cells 0).1 = 2)) : takY z y D m = (itmsA y m (takL z D K) (if takB y D K = true then 1 else 0) (if takB y D K = true then 32 else 0), 0) := by
  unfold takY; rw [if_neg h, hK, if_neg (by rw [hs]; simp), if_neg hb]
set_option maxHeartbeats 4000000 in
theorem rtake_two {ws : World} {n lo D m : Nat} {y : Ar} {va : Value} {w0 w : World} (z : Int) (hy : ArW n lo ws w0 y va) (hbs : Below ws.heap.size ws w) (hb0 : Below w0.heap.size w0 w) (hcy : chkA 8 y = 0) (hcap : Caps va) (hS : 0 < y.shape.length) (hD : gI y.shape 0 = (D : Int)) (hm : sizeV y.shape.tail = (m : Int)) (hI : I64 z) :
    Calls Try.prog 51 #[.int .i64 z, va] w fun e w' => Gives2Z (n + 1) w0 (takY z y D m).1 (takY z y D m).2 w e w' := by
  obtain ⟨a1, c1, a2, c2, rfl, R, hc⟩ := id hy
  obtain ⟨hc1, hc2⟩ := caps_form hcap
  obtain ⟨i3, hi3, hz30, hz31, hz32⟩ := infoI3
  obtain ⟨l8, c16⟩ := chk_len hcy
  obtain ⟨ab, cb, hcf⟩ := cells_fn hc
  have I := in2_new w (.slice a1 y.shape.length c1) (.slice a2 y.cells.length c2)
  obtain ⟨W2, e2⟩ : ∃ W2, (w.alloc (.cells #[.slice a1 y.shape.length c1, .slice a2 y.cells.length c2] 25)).alloc (.cells #[.slice none 0 0, .slice none 0 0] 25) = W2 := ⟨_, rfl⟩
  rw [e2] at I
  have hD16 : D ≤ 16384 := by have := ((chk_axes hcy).1 (gI y.shape 0) (getD_mem hS)).2; omega
  have HP1 := hide fun W => part_l (P := Try.prog) Try.underlying22 size3 a1 y.shape.length c1 1 1 rfl hS W
  have hp1 := HP1.out
  have ht : ((y.shape.drop 1).take (y.shape.length - 1)) = y.shape.tail := by rw [List.take_of_length_le (by rw [List.length_drop]; omega), List.drop_one]
  have RT : Row lo ws (subA a1 1 c1 1) y.shape.tail := by have := R.part 1 c1 (y.shape.length - 1) (by omega) hc1; rw [ht] at this; exact this
  have tl : y.shape.tail.length = y.shape.length - 1 := by rw [List.length_tail]
  have q0 := I.q0
  have q1 := I.q1
  have p0 := I.p0
  have p1 := I.p1
  have f0 := I.f0
  have f1 := I.f1
  have HI := hide I
  have HB0 := hide hb0
  have HBS := hide hbs
  have HY := hide (And.intro hy hcap)
  have HCK := hide (And.intro hcy (And.intro hD (And.intro hm hS)))
  have HRR := hide (And.intro R RT)
  have HCF : Hid (CellsFn n lo w0 y.cells a2 ab cb) := hcf
  have hI1 : -9223372036854775808 ≤ z ∧ z ≤ 9223372036854775807 := hI
  obtain ⟨SA, hSA⟩ : ∃ SA, y.shape.length = SA := ⟨_, rfl⟩
  obtain ⟨CA, hCA⟩ : ∃ CA, y.cells.length = CA := ⟨_, rfl⟩
  have HSC := hide (And.intro hSA hCA)
  obtain ⟨SM, hSM⟩ : ∃ SM, SA - 1 = SM := ⟨_, rfl⟩
  have HTL : Hid (y.shape.tail.length = SM) := by unfold Hid; rw [tl, hSA, hSM]
  obtain ⟨at', hat⟩ : ∃ at', subA a1 1 c1 1 = at' := ⟨_, rfl⟩
  obtain ⟨ct, hct⟩ : ∃ ct, c1 - 1 = ct := ⟨_, rfl⟩
  simp only [hSA, hCA] at e2 q0 q1 HI HY hS l8 c16 hp1 ⊢
  rw [hat] at HRR
  simp only [hat, hct, hSM] at hp1
  have hSM8 : SM ≤ 8 := by omega
  clear I R RT hc hy hcap hb0 hcy hD hm hSA hCA hcf ht tl hI HP1 hat hct hSM hc1 hc2
  by_cases hb : 16384 < z ∨ z < -16384
  · have HE5 : Hid (takY z y D m = (zeroA, 12)) := takY_big y D m hb
    have HT := hide (HI.out.put (.slice none 0 0) (.slice none 0 0))
    have HF : Hid (∀ u v, Gives2Z (n + 1) w0 (takY z y D m).1 (takY z y D m).2 w (.returned (.tuple #[.agg #[.slice none 0 0, .slice none 0 0], .int .i64 12])) ((W2.setCell ⟨w.heap.size + 1, 0, none⟩ u).setCell ⟨w.heap.size + 1, 1, none⟩ v)) := fun u v => gives2z_of HE5.out (fun W _ _ => zeroA_in _ _ _) (HI.out.fin u v)
    clear HCF
    by_cases hb1 : 16384 < z
    · clear hb
      go_enter Try.func51, Try.ntmps51
      go_wp2
      exact bodyPost_ret (v := .tuple #[.agg #[.slice none 0 0, .slice none 0 0], .int .i64 12]) (by simp [results, Try.results51, go_sem, HT.out.1, HT.out.2]) rfl (HF.out _ _)
    · have hb2 : z < -16384 := by omega
      clear hb
      go_enter Try.func51, Try.ntmps51
      go_wp2
      exact bodyPost_ret (v := .tuple #[.agg #[.slice none 0 0, .slice none 0 0], .int .i64 12]) (by simp [results, Try.results51, go_sem, HT.out.1, HT.out.2]) rfl (HF.out _ _)
  have hb1 : ¬ 16384 < z := by omega
  have hb2 : ¬ z < -16384 := by omega
  have HNB := hide hb
  clear hb
  obtain ⟨K, hK⟩ : ∃ K, z.natAbs = K := ⟨_, rfl⟩
  have hK16 : K ≤ 16384 := by omega
  obtain ⟨W3, e3⟩ : ∃ W3, W2.alloc (.cells #[.int .i64 (K : Int)] 3) = W3 := ⟨_, rfl⟩
  have B3 : Below W2.heap.size W2 W3 := by rw [← e3]; exact one_alloc _ _
  have I3 := HI.out.next B3
  have HOW : Hid (W3.ownsRow W2.heap.size 3 1 (.slice (some ⟨W2.heap.size, 0, none⟩) 1 1) 1 [.int .i64 (K : Int)]) := by
    refine ⟨rfl, Or.inr ⟨W2.heap.size, 1, #[.int .i64 (K : Int)], rfl, Nat.le_refl _, ?_, Nat.le_refl _, by unfold maxLen; omega, rfl, rfl⟩⟩
    rw [← e3]; exact heap_top _ _
  have HLS : Hid (Lies W3 at' (y.shape.tail.map (Value.int .i64))) := Lies.row_next HRR.out.2 (HBS.out.trans (I3.bel.mono HBS.out.size))
  have hsl : (y.shape.tail.map (Value.int .i64)).length = SM * 1 := by rw [List.length_map, HTL.out]; omega
  have HMX : Hid (1 + SM ≤ maxLen ∧ (1 + SM) * 8 ≤ 140737488355328 ∧ W2.heap.size ≤ W3.heap.size) := ⟨by unfold maxLen; omega, by omega, B3.size⟩
  have HE3 := hide e3
  have HI3 := hide I3
  have HB3 := hide B3
  have HKZ := hide hK
  have q0' := I3.q0
  clear hK I3 B3 e3
  go_enter Try.func51, Try.ntmps51
  go_upto_if 24 with fail
  clear e2
  go_cut [6] from 22 to 26 (fun s wx => s = .int .i64 (K : Int) ∧ wx = W2)
  case first =>
    have hKZ := HKZ.out
    by_cases hz : z < 0
    · have hw : IntKind.i64.wrap (-z) = (K : Int) := by rw [IntWalk.i64_in _ ⟨by omega, by omega⟩]; omega
      clear hKZ
      go_wp2
      go_meet
      exact ⟨rfl, rfl⟩
    · clear hKZ
      go_wp2
      go_meet
      exact ⟨congrArg (Value.int .i64) (by have := HKZ.out; omega), rfl⟩
  case rest =>
  obtain ⟨rfl, hwc⟩ := hcut
  have hwc' := hwc.symm
  subst hwc'
  clear hwc
  have e3 := HE3.out
  go_wp2_with (at_builtin; refine wpList_append_any rfl _ _ 22 rfl W2.heap.size 3 i3 (.int .i64 0) 1 8 Try.underlying22 hi3 hz30 hz31 hz32 rfl (by decide) (.slice (some ⟨W2.heap.size, 0, none⟩) 1 1) 1 [.int .i64 (K : Int)] (by first | rfl | go_simp) HOW.out at' SM ct (y.shape.tail.map (Value.int .i64)) (by first | rfl | go_simp) hsl HLS.out HMX.out.1 HMX.out.2.1 HMX.out.2.2 ?_)
  intro v' w4 hown4 hb4
  clear e3 q0'
  have hown5 : w4.ownsRow W2.heap.size 3 1 v' ((K : Int) :: y.shape.tail).length (((K : Int) :: y.shape.tail).map (Value.int .i64)) := by
    rw [List.length_cons, HTL.out, Nat.add_comm]; simpa using hown4
  obtain ⟨al, cl, rfl, RL⟩ := owns_rowE ((K : Int) :: y.shape.tail) (by rw [List.length_cons, HTL.out]; omega) hown5
  have hlen : ((K : Int) :: y.shape.tail).length = SM + 1 := by rw [List.length_cons, HTL.out]
  have I4 := HI.out.next (HB3.out.trans hb4)
  have C := rsize_any ((K : Int) :: y.shape.tail) al cl w4 RL
  rw [hlen] at C ⊢
  have HI4 := hide I4
  have q0 := I4.q0
  have q1 := I4.q1
  have p0 := I4.p0
  have p1 := I4.p1
  have f0 := I4.f0
  have f1 := I4.f1
  have HSW : Hid (W2.heap.size ≤ w4.heap.size) := (HB3.out.trans hb4).size
  clear hown4 hown5 RL hlen HOW HLS hsl HMX HE3 HI3 HB3 hb4 I4
  generalize sizeV ((K : Int) :: y.shape.tail) = SV at C
  by_cases hsN : ¬ sizeE ((K : Int) :: y.shape.tail) = 0
  · have HE5 : Hid (takY z y D m = (zeroA, sizeE ((K : Int) :: y.shape.tail))) := takY_size D m HNB.out HKZ.out hsN
    have HT := hide (HI4.out.put (.slice none 0 0) (.slice none 0 0))
    have HF : Hid (∀ u v, Gives2Z (n + 1) w0 (takY z y D m).1 (takY z y D m).2 w (.returned (.tuple #[.agg #[.slice none 0 0, .slice none 0 0], .int .i64 (sizeE ((K : Int) :: y.shape.tail))])) ((w4.setCell ⟨w.heap.size + 1, 0, none⟩ u).setCell ⟨w.heap.size + 1, 1, none⟩ v)) := fun u v => gives2z_of HE5.out (fun W _ _ => zeroA_in _ _ _) (HI4.out.fin u v)
    generalize sizeE ((K : Int) :: y.shape.tail) = EE at *
    have hEb : (EE == 0) = false := by simp [hsN]
    clear HCF HE5
    go_wp2_with fail
    refine C.mono ?_
    clear C
    rintro e w5 ⟨rfl, rfl⟩
    go_wp2
    exact bodyPost_ret (v := .tuple #[.agg #[.slice none 0 0, .slice none 0 0], .int .i64 EE]) (by simp [results, Try.results51, go_sem, HT.out.1, HT.out.2]) rfl (HF.out _ _)
  have hsE : sizeE ((K : Int) :: y.shape.tail) = 0 := Classical.not_not.1 hsN
  rw [hsE] at C
  have HSE := hide hsE
  clear hsE hsN
  go_wp2_with fail
  refine C.mono ?_
  clear C
  rintro e w5 ⟨rfl, rfl⟩
  obtain ⟨yb, yo, rfl, hyb, hyc⟩ := row_at HRR.out.1 (j := 0) HCK.out.2.2.2
  have eg : y.shape[0]?.getD 0 = (D : Int) := HCK.out.2.1
  rw [eg, Nat.add_zero] at hyc
  have hbw := HBS.out.trans (HI4.out.bel.mono HBS.out.size)
  have u0 := (hbw.cell (p := ⟨yb, yo, none⟩) hyb).trans hyc
  have hS1 : (0 : Int) < (SA : Int) := by omega
  obtain ⟨W6, e6⟩ : ∃ W6, w5.alloc (.cells #[.int .i64 0, .int .i64 0, .slice none 0 0] 36) = W6 := ⟨_, rfl⟩
  have B6 : Below w5.heap.size w5 W6 := by rw [← e6]; exact one_alloc _ _
  have z6 : W6.heap.size = w5.heap.size + 1 := by rw [← e6]; simp
  have F0 : W6.cell? ⟨w5.heap.size, 0, none⟩ = some (.int .i64 0) := by rw [← e6]; exact cell_new0 _ _ 36 0 _ rfl
  have F1 : W6.cell? ⟨w5.heap.size, 1, none⟩ = some (.int .i64 0) := by rw [← e6]; exact cell_new0 _ _ 36 1 _ rfl
  have F2 : W6.cell? ⟨w5.heap.size, 2, none⟩ = some (.slice none 0 0) := by rw [← e6]; exact cell_new0 _ _ 36 2 _ rfl
  have G0 : W6.frozen? ⟨w5.heap.size, 0, none⟩ = false := by rw [← e6]; exact frozen_new _ _ 36 0
  have G1 : W6.frozen? ⟨w5.heap.size, 1, none⟩ = false := by rw [← e6]; exact frozen_new _ _ 36 1
  have G2 : W6.frozen? ⟨w5.heap.size, 2, none⟩ = false := by rw [← e6]; exact frozen_new _ _ 36 2
  have HI6 := hide (HI4.out.next B6)
  have HE6 := hide e6
  have HFF := hide (And.intro F0 (And.intro F1 (And.intro F2 (And.intro G0 (And.intro G1 G2)))))
  have HB6 := hide (And.intro B6 z6)
  clear hyc hyb eg hbw e6 B6 z6 F0 F1 F2 G0 G1 G2
  go_upto_region 13 with fail
  rw [HE6.out]
  clear HE6 q0 q1 p0 p1 f0 f1 u0
  have q0 := HI6.out.q0
  have q1 := HI6.out.q1
  have HC0 : Hid (0 < CA → ∃ bb off, a2 = some ⟨bb, off, none⟩ ∧ W6.cell? ⟨bb, off, none⟩ = some (.int .i64 (cAt y.cells 0).1)) := fun h => by
    obtain ⟨bb, off, e, -, hbb, hcells⟩ := HCF.out (by rw [HSC.out.2]; exact h)
    obtain ⟨g0, -⟩ := hcells 0 (by rw [HSC.out.2]; exact h)
    rw [Nat.zero_mul, Nat.add_zero] at g0
    exact ⟨bb, off, e, ((HB0.out.trans (HI6.out.bel.mono HB0.out.size)).cell (p := ⟨bb, off, none⟩) hbb).trans g0⟩
  have HTB : Hid (takB y D K = decide (D < K ∧ 0 < CA ∧ ¬ (cAt y.cells 0).1 = 0)) := by unfold Hid takB; rw [HSC.out.2]
  obtain ⟨tb, htb⟩ : ∃ tb, takB y D K = tb := ⟨_, rfl⟩
  rw [htb] at HTB
  by_cases hbox : takB y D K = true ∧ (cAt y.cells 0).1 = 2
  · have HE5 : Hid (takY z y D m = (zeroA, 5)) := takY_box m HNB.out HKZ.out HSE.out hbox
    have hB' := of_decide_eq_true (HTB.out.symm.trans (htb.symm.trans hbox.1))
    obtain ⟨hkd, hc0, hk0⟩ := hB'
    obtain ⟨bb, off, rfl, k0⟩ := HC0.out hc0
    rw [hbox.2] at k0
    have hkdz : (D : Int) < (K : Int) := by omega
    have hc0z : (0 : Int) < (CA : Int) := by omega
    have HT := hide (HI6.out.put (.slice none 0 0) (.slice none 0 0))
    have p0 := HI6.out.p0
    have p1 := HI6.out.p1
    have f0 := HI6.out.f0
    have f1 := HI6.out.f1
    have HF : Hid (∀ u v, Gives2Z (n + 1) w0 (takY z y D m).1 (takY z y D m).2 w (.returned (.tuple #[.agg #[.slice none 0 0, .slice none 0 0], .int .i64 5])) ((W6.setCell ⟨w.heap.size + 1, 0, none⟩ u).setCell ⟨w.heap.size + 1, 1, none⟩ v)) := fun u v => gives2z_of HE5.out (fun W _ _ => zeroA_in _ _ _) (HI6.out.fin u v)
    clear HCF HE5 hbox hk0 HC0 HTB htb
    go_wp2
    exact bodyPost_ret (v := .tuple #[.agg #[.slice none 0 0, .slice none 0 0], .int .i64 5]) (by simp [results, Try.results51, go_sem, HT.out.1, HT.out.2]) rfl (HF.out _ _)
  have HE5 := hide (takY_ok m HNB.out HKZ.out HSE.out hbox)
  rw [htb] at HE5 hbox
  obtain ⟨fk, hfk⟩ : ∃ fk : Int, (if tb = true then 1 else 0) = fk := ⟨_, rfl⟩
  obtain ⟨fN, hfN⟩ : ∃ fN : Int, (if tb = true then 32 else 0) = fN := ⟨_, rfl⟩
  rw [hfk, hfN] at HE5
  have HFK := hide (And.intro hfk hfN)
  have HBX := hide hbox
  clear htb hfk hfN hbox
  obtain ⟨A, hA⟩ : ∃ A, w5.heap.size = A := ⟨_, rfl⟩
  have HA := hide hA
  rw [hA] at HFF HB6 HSW ⊢
  clear hA
  go_cut [64] from 48 to 63 (fun s wx => s = .bool tb ∧ wx = W6)
  case first =>
    by_cases hkd : D < K
    · have hkdz : (D : Int) < (K : Int) := by omega
      by_cases hc0 : 0 < CA
      · have hc0z : (0 : Int) < (CA : Int) := by omega
        obtain ⟨bb, off, rfl, k0⟩ := HC0.out hc0
        by_cases hk0 : (cAt y.cells 0).1 = 0
        · have htf : tb = false := by rw [HTB.out]; exact decide_eq_false fun h => h.2.2 hk0
          rw [hk0] at k0
          have HTF := hide htf
          clear hk0 htf
          go_wp2
          go_meet
          exact ⟨by rw [HTF.out], rfl⟩
        · have htf : tb = true := by rw [HTB.out]; exact decide_eq_true ⟨hkd, hc0, hk0⟩
          have HTF := hide htf
          generalize (cAt y.cells 0).1 = kd at *
          clear htf
          go_wp2
          go_meet
          exact ⟨by rw [HTF.out]; simp [hk0], rfl⟩
      · have hc0z : ¬ (0 : Int) < (CA : Int) := by omega
        have htf : tb = false := by rw [HTB.out]; exact decide_eq_false fun h => hc0 h.2.1
        have HTF := hide htf
        clear htf
        go_wp2
        go_meet
        exact ⟨by rw [HTF.out], rfl⟩
    · have hkdz : ¬ (D : Int) < (K : Int) := by omega
      have htf : tb = false := by rw [HTB.out]; exact decide_eq_false fun h => hkd h.1
      have HTF := hide htf
      clear htf
      go_wp2
      go_meet
      exact ⟨by rw [HTF.out], rfl⟩
  case rest =>
  obtain ⟨rfl, hwc⟩ := hcut
  have hwc' := hwc.symm
  subst hwc'
  clear hwc
  go_upto_if 64 with fail
  go_cut [11] from 65 to 72 (fun s wx => s = .pointer (some ⟨A, 0, none⟩) ∧ Below A w5 wx ∧ wx.heap.size = A + 1 ∧ wx.cell? ⟨A, 0, none⟩ = some (.int .i64 fk) ∧ wx.cell? ⟨A, 1, none⟩ = some (.int .i64 fN) ∧ wx.cell? ⟨A, 2, none⟩ = some (.slice none 0 0))
  case first =>
    cases tb with
    | false =>
      have HF := HFK.out
      simp only [Bool.false_eq_true, if_false] at HF
      obtain ⟨rfl, rfl⟩ := HF
      go_wp2
      go_meet
      exact ⟨rfl, HB6.out.1, HB6.out.2, HFF.out.1, HFF.out.2.1, HFF.out.2.2.1⟩
    | true =>
      have HF := HFK.out
      simp only [if_true] at HF
      obtain ⟨rfl, rfl⟩ := HF
      obtain ⟨hkd, hc0, hk0⟩ := of_decide_eq_true HTB.out.symm
      obtain ⟨bb, off, rfl, k0⟩ := HC0.out hc0
      have hc0z : (0 : Int) < (CA : Int) := by omega
      have hk2 : ¬ (cAt y.cells 0).1 = 2 := fun h => HBX.out ⟨rfl, h⟩
      generalize (cAt y.cells 0).1 = kd at *
      have hk2b : (kd == 2) = false := by simp [hk2]
      have F0 := HFF.out.1
      have F1 := HFF.out.2.1
      have F2 := HFF.out.2.2.1
      have G0 := HFF.out.2.2.2.1
      have G1 := HFF.out.2.2.2.2.1
      have G2 := HFF.out.2.2.2.2.2
      have HWX : Hid (Below A w5 (((W6.setCell ⟨A, 0, none⟩ (.int .i64 1)).setCell ⟨A, 1, none⟩ (.int .i64 32)).setCell ⟨A, 2, none⟩ (.slice none 0 0)) ∧ (((W6.setCell ⟨A, 0, none⟩ (.int .i64 1)).setCell ⟨A, 1, none⟩ (.int .i64 32)).setCell ⟨A, 2, none⟩ (.slice none 0 0)).heap.size = A + 1 ∧ (((W6.setCell ⟨A, 0, none⟩ (.int .i64 1)).setCell ⟨A, 1, none⟩ (.int .i64 32)).setCell ⟨A, 2, none⟩ (.slice none 0 0)).cell? ⟨A, 0, none⟩ = some (.int .i64 1) ∧ (((W6.setCell ⟨A, 0, none⟩ (.int .i64 1)).setCell ⟨A, 1, none⟩ (.int .i64 32)).setCell ⟨A, 2, none⟩ (.slice none 0 0)).cell? ⟨A, 1, none⟩ = some (.int .i64 32) ∧ (((W6.setCell ⟨A, 0, none⟩ (.int .i64 1)).setCell ⟨A, 1, none⟩ (.int .i64 32)).setCell ⟨A, 2, none⟩ (.slice none 0 0)).cell? ⟨A, 2, none⟩ = some (.slice none 0 0)) := by
        refine ⟨((HB6.out.1.setCell (p := ⟨A, 0, none⟩) (Nat.le_refl _) _).setCell (p := ⟨A, 1, none⟩) (Nat.le_refl _) _).setCell (p := ⟨A, 2, none⟩) (Nat.le_refl _) _, by simp [HB6.out.2], ?_, ?_, ?_⟩
        · rw [World.cell?_setCell_other _ _ _ _ (by simp), World.cell?_setCell_other _ _ _ _ (by simp)]
          exact World.cell?_setCell_same' _ _ _ (by rw [F0]; rfl)
        · rw [World.cell?_setCell_other _ _ _ _ (by simp)]
          exact World.cell?_setCell_same' _ _ _ (by rw [World.cell?_setCell_other _ _ _ _ (by simp), F1]; rfl)
        · exact World.cell?_setCell_same' _ _ _ (by rw [World.cell?_setCell_other _ _ _ _ (by simp), World.cell?_setCell_other _ _ _ _ (by simp), F2]; rfl)
      clear hk0 hk2 HB6 HFF
      go_wp2
      go_meet
      exact ⟨rfl, HWX.out⟩
  case rest =>
  obtain ⟨rfl, hbc, hzc, F0, F1, F2⟩ := hcut
  clear q0 q1 HFF HB6 HI6 HC0 HTB HFK HBX
  have I7 := HI4.out.next (by rw [HA.out]; exact hbc)
  have HI7 := hide I7
  have HFL := hide (And.intro F0 (And.intro F1 (And.intro F2 hzc)))
  clear hbc hzc F0 F1 F2 I7
  go_wp2
  go_loopg [12, 13] K (fun g wv i wr => ∃ t : Nat, g + t = K ∧ i = .int .i64 (t : Int) ∧ Below wc.heap.size wc wr ∧ wr.ownsRow wc.heap.size 3 1 wv t (((List.range t).map (takJ z D K)).map (Value.int .i64)))
  case atStart => exact ⟨0, rfl, rfl, Below.refl _ _, World.ownsRow_nil _ _ _ _⟩
  case round =>
    obtain ⟨t, hg, rfl, hnx, hown⟩ := hrel
    by_cases hlt : t < K
    · have hltz : (t : Int) < (K : Int) := by omega
      obtain ⟨jv, hjv⟩ : ∃ jv, takJ z D K t = jv := ⟨_, rfl⟩
      obtain ⟨ji, hji⟩ : ∃ ji, takI z D K t = ji := ⟨_, rfl⟩
      have HJV : Hid (jv = if ji < 0 ∨ (D : Int) ≤ ji then -1 else ji) := by unfold Hid; rw [← hjv, ← hji]; rfl
      have HJI : Hid (ji = if z < 0 then (D : Int) - (K : Int) + (t : Int) else (t : Int)) := by unfold Hid; rw [← hji]; rfl
      have hjb : -16384 ≤ ji ∧ ji ≤ 32768 := by rw [HJI.out]; split <;> omega
      have HST : Hid ((List.range (t + 1)).map (takJ z D K) = (List.range t).map (takJ z D K) ++ [jv]) := by unfold Hid; rw [tak_step, hjv]
      clear hjv hji
      go_upto_if 80 with fail
      go_cut [14] from 79 to 85 (fun s wx => s = .int .i64 ji ∧ wx = wr)
      case first =>
        by_cases hz : z < 0
        · have hw1 : IntKind.i64.wrap ((D : Int) - (K : Int)) = (D : Int) - (K : Int) := IntWalk.i64_in _ ⟨by omega, by omega⟩
          have hw2 : IntKind.i64.wrap ((D : Int) - (K : Int) + (t : Int)) = (D : Int) - (K : Int) + (t : Int) := IntWalk.i64_in _ ⟨by omega, by omega⟩
          clear hown hnx
          go_wp2
          go_meet
          exact ⟨congrArg (Value.int .i64) (by rw [HJI.out, if_pos hz]), rfl⟩
        · clear hown hnx
          go_wp2
          go_meet
          exact ⟨congrArg (Value.int .i64) (by rw [HJI.out, if_neg (by omega)]), rfl⟩
      case rest =>
      obtain ⟨rfl, hwx⟩ := hcut
      have hwx' := hwx.symm
      subst hwx'
      clear hwx HJI
      go_upto_region 24 with fail
      obtain ⟨bj, hbj⟩ : ∃ bj : Bool, decide (ji < 0 ∨ (D : Int) ≤ ji) = bj := ⟨_, rfl⟩
      have HBJ := hide hbj
      clear hbj
      go_cut [92] from 86 to 91 (fun s wx => s = .bool bj ∧ wx = wr)
      case first =>
        by_cases hj0 : ji < 0
        · have HX : Hid (bj = true) := by unfold Hid; rw [← HBJ.out]; exact decide_eq_true (Or.inl hj0)
          clear hown hnx
          go_wp2
          go_meet
          exact ⟨by rw [HX.out], rfl⟩
        · by_cases hj1 : (D : Int) ≤ ji
          · have HX : Hid (bj = true) := by unfold Hid; rw [← HBJ.out]; exact decide_eq_true (Or.inr hj1)
            clear hown hnx
            go_wp2
            go_meet
            exact ⟨by rw [HX.out], rfl⟩
          · have HX : Hid (bj = false) := by unfold Hid; rw [← HBJ.out]; exact decide_eq_false (by omega)
            clear hown hnx
            go_wp2
            go_meet
            exact ⟨by rw [HX.out], rfl⟩
      case rest =>
      obtain ⟨rfl, hwx⟩ := hcut
      have hwx' := hwx.symm
      subst hwx'
      clear hwx
      go_upto_if 92 with fail
      go_cut [14] from 93 to 93 (fun s wx => s = .int .i64 jv ∧ wx = wr)
      case first =>
        cases bj with
        | true =>
          have HX := hide (of_decide_eq_true HBJ.out)
          clear hown hnx
          go_wp2
          go_meet
          exact ⟨congrArg (Value.int .i64) (by rw [HJV.out, if_pos HX.out]), rfl⟩
        | false =>
          have HX := hide (of_decide_eq_false HBJ.out)
          clear hown hnx
          go_wp2
          go_meet
          exact ⟨congrArg (Value.int .i64) (by rw [HJV.out, if_neg HX.out]), rfl⟩
      case rest =>
      obtain ⟨rfl, hwx⟩ := hcut
      have hwx' := hwx.symm
      subst hwx'
      clear hwx HJV hjb
      have OWN := hown.alloc (.cells #[.int .i64 jv] 3)
      have HNW : Hid (∀ i u, [Value.int .i64 jv][i]? = some u → (wr.alloc (.cells #[.int .i64 jv] 3)).cell? ((⟨wr.heap.size, 0, none⟩ : Addr).add i) = some u) := by
        intro i u hu
        rw [add_off, Nat.zero_add]
        exact cell_new0 wr _ 3 i u (by simpa using hu)
      have HZZ : Hid (wc.heap.size ≤ (wr.alloc (.cells #[.int .i64 jv] 3)).heap.size) := Nat.le_trans hnx.size (one_alloc _ _).size
      have HNX := hide (hnx.trans ((one_alloc wr (.cells #[.int .i64 jv] 3)).mono hnx.size))
      clear hown hnx
      go_wp2_with (at_builtin; refine wpList_append_B rfl _ _ 22 rfl wc.heap.size 3 i3 (.int .i64 0) 1 8 Try.underlying22 hi3 hz30 hz31 hz32 rfl (by decide) _ _ _ rfl OWN ⟨wr.heap.size, 0, none⟩ 1 1 [.int .i64 jv] rfl rfl HNW.out ?c2 ?c3 ?c4 HZZ.out ?_)
      case c2 => first | rfl | (intro u hu; simp at hu; subst hu; rfl)
      case c3 => unfold maxLen; omega
      case c4 => omega
      intro v' w1 hown1 hb1
      have hown2 : w1.ownsRow wc.heap.size 3 1 v' (t + 1) (((List.range (t + 1)).map (takJ z D K)).map (Value.int .i64)) := by rw [HST.out]; simpa using hown1
      have HF := hide (And.intro (HNX.out.trans hb1) hown2)
      clear hown1 hown2 hb1 OWN HNW HZZ HNX HST
      clear hltz
      go_wp2
      go_roundg (K - (t + 1))
      case rel => exact ⟨t + 1, by omega, by go_num, HF.out.1, HF.out.2⟩
      case measure => omega
    · have hte : t = K := by omega
      subst hte
      obtain ⟨aw, cw, rfl, RW⟩ := owns_rowE (takL z D t) (by rw [takL_len]; omega) (by rw [takL_len]; exact hown)
      have I8 := HI7.out.next hnx
      have hck := HCK.out
      obtain ⟨m', hm', hm16⟩ := sizeV_nat y.shape.tail
      obtain rfl : m' = m := by have := hck.2.2.1; omega
      have hS0 : 0 < y.shape.length := hck.2.2.2
      have HNm : t * m' ≤ 16384 := by
        rcases Nat.eq_zero_or_pos t with h | h
        · rw [h]; omega
        · have h1 := size_cons HSE.out (by omega)
          have h2 := (sizeV_le HSE.out).2
          rw [h1, hm', ← Int.natCast_mul] at h2
          omega
      have hY := HY.out
      rw [← HSC.out.1, ← HSC.out.2] at hY
      have C := ritems_two (w := wr) (cw := cw) fk fN hY.1 (HBS.out.trans (I8.bel.mono HBS.out.size)) (HB0.out.trans (I8.bel.mono HB0.out.size)) RW hS0 (by rw [HSC.out.1]; exact l8) hm' (by rw [HSC.out.2]; exact c16) hY.2 (by rw [takL_len]; omega) (by rw [takL_len]; exact HNm) hm16 (fun i hi h0 => by
        rw [takL_len] at hi
        rw [takL_at z D t i hi] at h0 ⊢
        unfold takJ at h0 ⊢
        by_cases hc : takI z D t i < 0 ∨ (D : Int) ≤ takI z D t i
        · rw [if_pos hc] at h0; omega
        · rw [if_neg hc] at h0 ⊢
          exact ⟨(item_le hck.1 hS0 hck.2.1 hm' (j := (takI z D t i).toNat) (by omega)).1, by omega⟩)
      rw [HSC.out.1, HSC.out.2, takL_len] at C
      have r0 := I8.q0
      have r1 := I8.q1
      have HI8 := hide I8
      have HSZ : Hid (w.heap.size + 2 ≤ wr.heap.size) := I8.size
      have hFL := HFL.out
      have k0 := (hnx.cell (p := ⟨A, 0, none⟩) (by show A < _; omega)).trans hFL.1
      have k1 := (hnx.cell (p := ⟨A, 1, none⟩) (by show A < _; omega)).trans hFL.2.1
      have k2 := (hnx.cell (p := ⟨A, 2, none⟩) (by show A < _; omega)).trans hFL.2.2.1
      rw [takL_len]
      clear hown hnx I8 hck hY RW HNm hFL
      go_wp2_with fail
      refine C.mono ?_
      clear C
      rintro e w9 ⟨⟨vr, rfl, hv⟩, hb9⟩
      have I9 := HI8.out.next hb9
      obtain ⟨b1, d1, b2, d2, rfl, -, -⟩ := (hv w9 (HB0.out.trans (I9.bel.mono HB0.out.size)) (Keeps.refl _ _)).form
      have p0 := I9.p0
      have p1 := I9.p1
      have f0 := I9.f0
      have f1 := I9.f1
      generalize (itmsA y m' (takL z D t) fk fN).shape.length = SO at *
      generalize (itmsA y m' (takL z D t) fk fN).cells.length = CO at *
      have HT := hide (I9.put (.slice b1 SO d1) (.slice b2 CO d2))
      have HFIN : Hid (∀ u v, Gives2Z (n + 1) w0 (takY z y D m').1 (takY z y D m').2 w (.returned (.tuple #[.agg #[.slice b1 SO d1, .slice b2 CO d2], .int .i64 0])) ((w9.setCell ⟨w.heap.size + 1, 0, none⟩ u).setCell ⟨w.heap.size + 1, 1, none⟩ v)) := by
        intro u v
        refine gives2z_of HE5.out (fun W hW hK => hv W hW ?_) (I9.fin u v)
        have hs := HSZ.out
        exact (((Keeps.refl _ _).setCell (p := ⟨w.heap.size + 1, 0, none⟩) (by show w.heap.size + 1 < _; omega) u).setCell (p := ⟨w.heap.size + 1, 1, none⟩) (by show w.heap.size + 1 < _; omega) v).trans (hK.mono (by omega))
      clear I9 hv hb9
      go_wp2
      exact bodyPost_ret (v := .tuple #[.agg #[.slice b1 SO d1, .slice b2 CO d2], .int .i64 0]) (by simp [results, Try.results51, go_sem, HT.out.1, HT.out.2]) rfl (HFIN.out _ _)
end Go.Proofs.Ytmjncdhahdpplaa
namespace Go.Proofs.Ytmjncdhahdpplaa
open Go.ChangeShapes Go.WideShapes Go.ChangeAt Go.RowKit
set_option linter.unusedVariables false
set_option maxRecDepth 100000
theorem chk_kind {f : Ar → Int} {c : Ce} (h : chkC f c = 0) : c.1 = 0 ∨ c.1 = 1 ∨ c.1 = 2 := by
  unfold chkC at h
  by_cases h1 : c.1 = 2 ∧ c.2.1 = 0 ∧ c.2.2.length = 1
  · exact Or.inr (Or.inr h1.1)
  · rw [if_neg h1] at h
    by_cases h2 : c.2.2.length = 0 ∧ (c.1 = 0 ∨ c.1 = 1 ∧ Good c.2.1)
    · rcases h2.2 with h3 | h3
      · exact Or.inl h3
      · exact Or.inr (Or.inl h3.1)
    · rw [if_neg h2] at h; omega
theorem take_is {x y : Ar} (hy : chkA 8 y = 0) (hS : 0 < y.shape.length) {D m : Nat} (hD : gI y.shape 0 = (D : Int)) (hm : sizeV y.shape.tail = (m : Int)) (hn : (numR x).2 = 0) : takR x y = takY (numR x).1 y D m := by
  unfold takR
  rw [if_neg (by rw [hn]; simp)]
  generalize (numR x).1 = z
  have hset : ∀ v : Int, y.shape.set 0 v = v :: y.shape.tail := fun v => by
    cases hsh : y.shape with
    | nil => rw [hsh] at hS; simp at hS
    | cons d t => rfl
  rw [hset]
  by_cases hb : 16384 < z ∨ z < -16384
  · rw [if_pos hb, takY_big y D m hb]
  rw [if_neg hb]
  obtain ⟨K, hK⟩ : ∃ K, z.natAbs = K := ⟨_, rfl⟩
  rw [hK]
  by_cases hs : ¬ sizeE ((K : Int) :: y.shape.tail) = 0
  · rw [if_pos hs, takY_size D m hb hK hs]
  rw [if_neg hs]
  have hs0 : sizeE ((K : Int) :: y.shape.tail) = 0 := Classical.not_not.1 hs
  have hN : (sizeV ((K : Int) :: y.shape.tail)).toNat = K * m := by
    rcases Nat.eq_zero_or_pos K with h0 | h0
    · rw [h0, sizeV_zero (l := ((0 : Nat) : Int) :: y.shape.tail) ⟨_, List.mem_cons_self, rfl⟩]; simp
    · rw [size_cons hs0 (by omega), hm, ← Int.natCast_mul, Int.toNat_natCast]
  rw [hN]
  have hCA : y.cells.length = D * m := by
    rcases Nat.eq_zero_or_pos D with h0 | h0
    · have h1 := (chkA_iff 8 y).1 hy
      have hz : hasZero y.shape := ⟨gI y.shape 0, getD_mem hS, by rw [hD, h0]; rfl⟩
      have := h1.2.1
      rw [sizeV_zero hz] at this
      rw [h0, Nat.zero_mul]; omega
    · exact (item_le hy hS hD hm (j := 0) h0).2
  have hlt : 0 < y.cells.length → (y.cells.length < K * m ↔ D < K) := fun h => by
    have hm0 : 0 < m := by
      rcases Nat.eq_zero_or_pos m with h0 | h0
      · rw [hCA, h0] at h; simp at h
      · exact h0
    rw [hCA]
    exact ⟨fun h => Nat.lt_of_mul_lt_mul_right h, fun h => Nat.mul_lt_mul_of_pos_right h hm0⟩
  have hkd : 0 < y.cells.length → (cAt y.cells 0).1 = 0 ∨ (cAt y.cells 0).1 = 1 ∨ (cAt y.cells 0).1 = 2 := fun h => chk_kind (((chkA_iff 8 y).1 hy).2.2.2 0 h)
  have hfe : (y.cells.length < K * m ∧ ¬ (fillR y).2.2 = 0) ↔ (takB y D K = true ∧ (cAt y.cells 0).1 = 2) := by
    unfold takB fillR
    by_cases hc : 0 < y.cells.length
    · rw [if_pos hc, hlt hc]
      rcases hkd hc with h | h | h
      · rw [h]; simp
      · rw [h]; simp
      · rw [h]; simp [hc]
    · rw [if_neg hc]; simp [hc]
  by_cases hbx : takB y D K = true ∧ (cAt y.cells 0).1 = 2
  · rw [if_pos (hfe.2 hbx), takY_box m hb hK hs0 hbx]
    have hc : 0 < y.cells.length := (of_decide_eq_true hbx.1).2.1
    unfold fillR
    rw [if_pos hc, hbx.2]
    simp
  rw [if_neg (fun h => hbx (hfe.1 h)), takY_ok m hb hK hs0 hbx]
  unfold itmsA
  rw [takL_len]
  congr 2
  refine mkCs_congr fun p hp => ?_
  have hm0 : 0 < m := by
    rcases Nat.eq_zero_or_pos m with h | h
    · rw [h] at hp; simp at hp
    · exact h
  have hj : p / m < K := Nat.div_lt_of_lt_mul (by rw [Nat.mul_comm]; exact hp)
  obtain ⟨j, hjd⟩ : ∃ j, p / m = j := ⟨_, rfl⟩
  obtain ⟨q, hqd⟩ : ∃ q, p % m = q := ⟨_, rfl⟩
  have hq : q < m := by rw [← hqd]; exact Nat.mod_lt _ hm0
  have hpe : p = j * m + q := by rw [← hjd, ← hqd, Nat.mul_comm]; exact (Nat.div_add_mod p m).symm
  rw [hjd] at hj
  unfold itC
  rw [hjd, hqd, takL_at z D K j hj, hCA]
  -- where nothing comes from the array, both fill alike
  have hfill : D < K → (((fillR y).1, (fillR y).2.1, []) : Ce) = ((if takB y D K = true then 1 else 0), (if takB y D K = true then 32 else 0), []) := fun hDK => by
    unfold takB fillR
    by_cases hc : 0 < y.cells.length
    · rw [if_pos hc]
      rcases hkd hc with h | h | h
      · rw [h]; simp
      · rw [h]; simp [hDK, hc]
      · exact absurd ⟨decide_eq_true ⟨hDK, hc, by rw [h]; decide⟩, h⟩ hbx
    · rw [if_neg hc]; simp [hc]
  have cmpM : ∀ a b r : Nat, r < m → (a * m ≤ b * m + r ↔ a ≤ b) := fun a b r hr => by
    constructor
    · intro h
      rcases Nat.lt_or_ge b a with g | g
      · have := Nat.mul_le_mul_right m (show b + 1 ≤ a by omega)
        rw [Nat.succ_mul] at this; omega
      · exact g
    · intro h
      have := Nat.mul_le_mul_right m h
      omega
  have hJin : ∀ i : Int, takI z D K j = i → 0 ≤ i → i < (D : Int) → takJ z D K j = i := fun i h h1 h2 => by unfold takJ; rw [h, if_neg (by omega)]
  have hJout : ∀ i : Int, takI z D K j = i → (i < 0 ∨ (D : Int) ≤ i) → takJ z D K j = -1 := fun i h h1 => by unfold takJ; rw [h, if_pos h1]
  unfold layC
  by_cases hz : z < 0
  · have hI : takI z D K j = (D : Int) - (K : Int) + (j : Int) := if_pos hz
    rw [if_pos hz, if_pos hz]
    by_cases hDK : D < K
    · have e1 : K * m - D * m = (K - D) * m := (Nat.sub_mul K D m).symm
      have e2 : D * m - K * m = 0 := by have := Nat.mul_le_mul_right m (show D ≤ K by omega); omega
      have e3 : Nat.min (D * m) (K * m) = D * m := Nat.min_eq_left (Nat.mul_le_mul_right m (by omega))
      have e4 : (K - D) * m + D * m = K * m := by rw [← Nat.add_mul]; congr 1; omega
      rw [e1, e2, e3, e4]
      have hc := cmpM (K - D) j q hq
      rw [← hpe] at hc
      by_cases hin : K - D ≤ j
      · rw [if_pos ⟨hc.2 hin, hp⟩, hJin _ hI (by omega) (by omega), if_pos (by omega)]
        congr 1
        have : ((D : Int) - (K : Int) + (j : Int)).toNat = j - (K - D) := by omega
        have e5 : (j - (K - D)) * m + (K - D) * m = j * m := by rw [← Nat.add_mul]; congr 1; omega
        rw [this]
        omega
      · rw [if_neg (fun h => hin (hc.1 h.1)), hJout _ hI (by omega), if_neg (by omega)]
        exact hfill hDK
    · have e1 : K * m - D * m = 0 := by have := Nat.mul_le_mul_right m (show K ≤ D by omega); omega
      have e2 : D * m - K * m = (D - K) * m := (Nat.sub_mul D K m).symm
      have e3 : Nat.min (D * m) (K * m) = K * m := Nat.min_eq_right (Nat.mul_le_mul_right m (by omega))
      rw [e1, e2, e3, if_pos ⟨Nat.zero_le _, by omega⟩, hJin _ hI (by omega) (by omega), if_pos (by omega)]
      congr 1
      have : ((D : Int) - (K : Int) + (j : Int)).toNat = (D - K) + j := by omega
      rw [this, Nat.add_mul, hpe]
      omega
  · have hI : takI z D K j = (j : Int) := if_neg hz
    rw [if_neg hz, if_neg hz]
    have hc := cmpM D j q hq
    rw [← hpe] at hc
    by_cases hin : D ≤ j
    · have h1 := hc.2 hin
      have e3 : Nat.min (D * m) (K * m) ≤ D * m := Nat.min_le_left _ _
      rw [if_neg (by omega), hJout _ hI (by omega), if_neg (by omega)]
      exact hfill (by omega)
    · have h1 : p < D * m := by
        rcases Nat.lt_or_ge p (D * m) with h | h
        · exact h
        · exact absurd (hc.1 h) hin
      have e3 : p < Nat.min (D * m) (K * m) := Nat.lt_min.2 ⟨h1, hp⟩
      rw [if_pos ⟨Nat.zero_le _, by omega⟩, hJin _ hI (by omega) (by omega), if_pos (by omega), Int.toNat_natCast]
      congr 1
      omega
end Go.Proofs.Ytmjncdhahdpplaa
namespace Go.Proofs.Ytmjncdhahdpplaa
open Go.ChangeShapes Go.WideShapes Go.ChangeAt Go.RowKit
set_option linter.unusedVariables false
set_option maxRecDepth 100000
set_option maxHeartbeats 4000000 in
theorem rnumber_any {n lo : Nat} {x : Ar} {va : Value} {w : World} (hx : ArIn (n + 1) lo w x va) (hchk : chkA 8 x = 0) : Calls Try.prog 50 #[va] w fun e w' => e = .returned (.tuple #[.int .i64 (numR x).1, .int .i64 (numR x).2]) ∧ Below w.heap.size w w' := by
  obtain ⟨a1, c1, a2, c2, rfl, R, hc⟩ := hx.form
  have hb0 := one_alloc w (.cells #[.slice a1 x.shape.length c1, .slice a2 x.cells.length c2] 25)
  have q0 := cell_new0 w #[.slice a1 x.shape.length c1, .slice a2 x.cells.length c2] 25 0 _ rfl
  have q1 := cell_new0 w #[.slice a1 x.shape.length c1, .slice a2 x.cells.length c2] 25 1 _ rfl
  have hl := R.1
  by_cases h0 : 0 < x.shape.length
  · have HE : Hid (numR x = (0, 6)) := by unfold Hid numR; rw [if_pos h0]
    clear R hc hx hchk
    have h1 : (0 : Int) < (x.shape.length : Int) := by omega
    generalize x.shape.length = SA at *
    generalize x.cells.length = CA at *
    go_enter Try.func50, Try.ntmps50
    go_wp2
    exact bodyPost_ret (v := .tuple #[.int .i64 0, .int .i64 6]) (by simp [results, Try.results50, go_sem]) rfl ⟨by rw [HE.out], one_alloc _ _⟩
  · obtain ⟨-, hone⟩ := atom_one hchk (by omega)
    obtain ⟨ab, cb, hcf⟩ := cells_fn hc
    obtain ⟨b, off, rfl, -, hb, hcells⟩ := hcf (by omega)
    obtain ⟨g0, g1, g2, -⟩ := hcells 0 (by omega)
    simp only [Nat.zero_mul, Nat.add_zero] at g0 g1 g2
    have r0 := (hb0.cell (p := ⟨b, off, none⟩) hb).trans g0
    have r1 := (hb0.cell (p := ⟨b, off + 1, none⟩) hb).trans g1
    have HE : Hid (numR x = if ¬ (cAt x.cells 0).1 = 0 then (0, 5) else ((cAt x.cells 0).2.1, 0)) := by unfold Hid numR; rw [if_neg h0]
    have hs0 : x.shape.length = 0 := by omega
    clear hcells hcf hc R hx hchk g0 g1 g2 hb0
    rw [hs0, hone] at q0 q1 r0 r1 ⊢
    generalize (cAt x.cells 0).1 = ck at *
    generalize (cAt x.cells 0).2.1 = cN at *
    clear hs0 hone h0 hl
    by_cases hk : ck = 0
    · have HE5 : Hid (numR x = (cN, 0)) := by unfold Hid; rw [HE.out, if_neg (by simpa using hk)]
      subst hk
      clear HE
      go_enter Try.func50, Try.ntmps50
      go_wp2
      exact bodyPost_ret (v := .tuple #[.int .i64 cN, .int .i64 0]) (by simp [results, Try.results50, go_sem]) rfl ⟨by rw [HE5.out], one_alloc _ _⟩
    · have HE5 : Hid (numR x = (0, 5)) := by unfold Hid; rw [HE.out, if_pos hk]
      have hkb : (ck == 0) = false := beq_eq_false_iff_ne.2 hk
      clear HE
      go_enter Try.func50, Try.ntmps50
      go_wp2
      exact bodyPost_ret (v := .tuple #[.int .i64 0, .int .i64 5]) (by simp [results, Try.results50, go_sem]) rfl ⟨by rw [HE5.out], one_alloc _ _⟩
end Go.Proofs.Ytmjncdhahdpplaa
namespace Go.Proofs.Ytmjncdhahdpplaa
open Go.ChangeShapes Go.WideShapes Go.ChangeAt Go.RowKit
set_option linter.unusedVariables false
set_option maxRecDepth 100000
theorem w_take : (takR (atomA (-5)) (lstA (numsA [1, 2, 3]))).2 = 0 ∧ (takR (atomA (-5)) (lstA (numsA [1, 2, 3]))).1.shape.length = 1 ∧ (takR (atomA (-5)) (lstA (numsA [1, 2, 3]))).1.cells.length = 5 ∧ (cAt (takR (atomA (-5)) (lstA (numsA [1, 2, 3]))).1.cells 2).2.1 = 1 := by decide
theorem w_from : (lookR (numsA [2, 0]) (numsA [1, 2, 3])).2 = 0 ∧ (lookR (numsA [2, 0]) (numsA [1, 2, 3])).1.shape.length = 1 ∧ (lookR (numsA [2, 0]) (numsA [1, 2, 3])).1.cells.length = 2 ∧ (cAt (lookR (numsA [2, 0]) (numsA [1, 2, 3])).1.cells 0).2.1 = 3 := by decide
theorem w_at : (lookR (atomA 3) (numsA [1, 2, 3])).2 = 8 ∧ (lookR (atomA 3) (numsA [1, 2, 3])).1.shape.length = 0 ∧ (lookR (atomA 3) (numsA [1, 2, 3])).1.cells.length = 0 := by decide
theorem chk_123 : chkA 8 (numsA [1, 2, 3]) = 0 := chk_nums _ (by decide)
theorem chk_20 : chkA 8 (numsA [2, 0]) = 0 := chk_nums _ (by decide)
set_option maxHeartbeats 8000000 in
theorem pworks_any (w : World) : Calls Try.prog 18 #[] w fun e w' => e = .returned (.bool true) ∧ Below w.heap.size w w' := by
  have HB0 := hide (one_alloc w (.cells #[.int .i64 1, .int .i64 2, .int .i64 3] 2))
  have C1 := rnumsK_any 0 [1, 2, 3] _ 3 _ ((row_new w [1, 2, 3] 2 (0, 0) (by simp)).low (Nat.zero_le _)) (by decide)
  simp only [List.map_cons, List.map_nil, List.length_cons, List.length_nil, Nat.zero_add] at C1
  go_enter Try.func18, Try.ntmps18
  go_wp2_with fail
  refine C1.mono ?_
  rintro e w2 ⟨⟨v, rfl, kc, hv⟩, hb2⟩
  obtain ⟨x1, m1, x2, m2, rfl, -, -⟩ := hv.form
  have es : (numsA [1, 2, 3]).shape.length = 1 := rfl
  have ec : (numsA [1, 2, 3]).cells.length = 3 := rfl
  simp only [es, ec] at hv kc ⊢
  obtain ⟨W3, e3⟩ : ∃ W3, w2.alloc (.cells #[.slice x1 1 m1, .slice x2 3 m2] 25) = W3 := ⟨_, rfl⟩
  obtain ⟨B3, V3⟩ := var_new (W3 := w) (HB0.out.trans (hb2.mono HB0.out.size)) hv kc
  rw [e3] at B3 V3
  have HBW := hide B3
  have HV : Hid (∀ W, Below W3.heap.size W3 W → Var 1 W w2.heap.size (numsA [1, 2, 3]) (.slice x1 1 m1) (.slice x2 3 m2)) := fun W h => V3.next h
  have KS : Hid (∀ W, Below W3.heap.size W3 W → (Below W3.heap.size W3 W ∧ W.cell? ⟨w2.heap.size, 0, none⟩ = some (.slice x1 1 m1) ∧ W.cell? ⟨w2.heap.size, 1, none⟩ = some (.slice x2 3 m2))) := fun W h => ⟨h, (HV.out W h).c0, (HV.out W h).c1⟩
  obtain ⟨⟨T, ET⟩, hT⟩ : ∃ p, takR (atomA (-5)) (lstA (numsA [1, 2, 3])) = p := ⟨_, rfl⟩
  have HT := hide w_take
  rw [hT] at HT
  obtain ⟨t1, t2, t3, t4⟩ := HT.out
  simp only at t1 t2 t3 t4
  subst t1
  have HT4 := hide t4
  have CA : Hid (∀ W, Below W3.heap.size W3 W → _) := fun W h => atom_at 0 (-5) W3 W h
  have CD : Hid (∀ W, Below W3.heap.size W3 W → ∀ y1 n1 y2 n2, Caps (.agg #[.slice y1 0 n1, .slice y2 1 n2]) → ArIn 1 0 W (atomA (-5)) (.agg #[.slice y1 0 n1, .slice y2 1 n2]) → _) := fun W h y1 n1 y2 n2 kc hy => dy_at h (dy_42 hy (HV.out W h).ar (chk_atom _) chk_123 kc (HV.out W h).cap) hT t2 t3
  clear hv kc hb2 es ec B3 V3 C1 HB0 HT t2 t3 t4
  go_wp2
  clear e3
  go_cut [2, 3] from 10 to 15 (fun sx sy wx => ∃ B z1 l1 z2 l2, sx = .pointer (some ⟨B, 0, none⟩) ∧ sy = .int .i64 0 ∧ Below W3.heap.size W3 wx ∧ Var 1 wx B T (.slice z1 1 l1) (.slice z2 5 l2))
  case first =>
    have HD0 : Hid (Below W3.heap.size W3 W3.drew) := (Below.refl _ _).drew
    have HD1 : Hid (Below W3.heap.size W3 (W3.alloc (.cells #[.slice none 0 0, .slice none 0 0] 25)).drew) := (one_alloc _ _).drew
    have HD2 : Hid (Below W3.heap.size W3 (W3.drew.alloc (.cells #[.slice none 0 0, .slice none 0 0] 25))) := (Below.refl _ _).drew.alloc (Nat.le_refl _) _
    have HAL : Hid (∀ W o, Below W3.heap.size W3 W → Below W3.heap.size W3 (W.alloc o)) := fun W o h => h.alloc h.size o
    have HSET : Hid (∀ W b u v, Below W3.heap.size W3 W → W3.heap.size ≤ b → Below W3.heap.size W3 ((W.setCell ⟨b, 0, none⟩ u).setCell ⟨b, 1, none⟩ v)) := fun W b u v h hb => (h.setCell (p := ⟨b, 0, none⟩) hb u).setCell (p := ⟨b, 1, none⟩) hb v
    have HLE : Hid (W3.heap.size ≤ W3.heap.size) := Nat.le_refl _
    go_region_held3 (fun W => Below W3.heap.size W3 W ∧ W.cell? ⟨w2.heap.size, 0, none⟩ = some (.slice x1 1 m1) ∧ W.cell? ⟨w2.heap.size, 1, none⟩ = some (.slice x2 3 m2))
      (first | with_reducible exact KS.out _ HD0.out | with_reducible exact KS.out _ HD1.out | with_reducible exact KS.out _ HD2.out | with_reducible exact KS.out _ (by with_reducible assumption) | with_reducible exact KS.out _ (HAL.out _ _ (by with_reducible assumption)) | with_reducible exact KS.out _ (HSET.out _ _ _ _ (by with_reducible assumption) (by with_reducible assumption)) | with_reducible exact KS.out _ (HSET.out _ _ _ _ (by with_reducible assumption) HLE.out))
      (first
        | (go_at_call 22; first
            | ((with_reducible refine (CA.out _ HD0.out).mono ?_); rintro e w4 ⟨⟨y1, n1, y2, n2, rfl, kc, hy⟩, g4, hb4⟩; have s4 := g4.size; clear hb4)
            | ((with_reducible refine (CA.out _ HD1.out).mono ?_); rintro e w4 ⟨⟨y1, n1, y2, n2, rfl, kc, hy⟩, g4, hb4⟩; have t4 := (Zb.new W3).drew.next hb4; clear hb4)
            | ((with_reducible refine (CA.out _ HD2.out).mono ?_); rintro e w4 ⟨⟨y1, n1, y2, n2, rfl, kc, hy⟩, g4, hb4⟩; have t4 := (Zb.new W3.drew).next hb4; clear hb4))
        | (go_at_call 19; first
            | ((with_reducible refine (CD.out w4 g4 y1 n1 y2 n2 kc hy).mono ?_); rintro e w5 ⟨⟨z1, l1, z2, l2, rfl, hc, hz⟩, g5, hb5⟩; first | (obtain ⟨k0, k1, k2, k3, -⟩ := t4.next hb5) | skip)
            | ((with_reducible refine (CD.out (w4.alloc (.cells #[.slice none 0 0, .slice none 0 0] 25)) (g4.alloc g4.size _) y1 n1 y2 n2 kc (hy.next (one_alloc _ _))).mono ?_); rintro e w5 ⟨⟨z1, l1, z2, l2, rfl, hc, hz⟩, g5, hb5⟩; obtain ⟨k0, k1, k2, k3, -⟩ := (Zb.new w4).next hb5)))
    all_goals
      go_wp2
      go_meet
    all_goals
      case rel =>
        first
          | exact ⟨_, _, _, _, _, rfl, rfl, var_new g5 hz hc⟩
          | exact ⟨_, _, _, _, _, rfl, rfl, var_old (Zb.new w4) g4.size g5 hb5 hz hc⟩
          | exact ⟨_, _, _, _, _, rfl, rfl, var_old t4 (Nat.le_refl _) g5 hb5 hz hc⟩
  case rest =>
  obtain ⟨B, z1, l1, z2, l2, rfl, rfl, g6, V6⟩ := hcut
  generalize wc = wA at *
  have HG6 := hide g6
  have HV6 : Hid (∀ W, Below wA.heap.size wA W → Var 1 W B T (.slice z1 1 l1) (.slice z2 5 l2)) := fun W h => V6.next h
  have HVA : Hid (∀ W, Below wA.heap.size wA W → Var 1 W w2.heap.size (numsA [1, 2, 3]) (.slice x1 1 m1) (.slice x2 3 m2)) := fun W h => HV.out W (HG6.out.trans (h.mono HG6.out.size))
  clear CA CD KS hT g6 V6
  obtain ⟨⟨F, EF⟩, hF⟩ : ∃ p, lookR (numsA [2, 0]) (numsA [1, 2, 3]) = p := ⟨_, rfl⟩
  have HT := hide w_from
  rw [hF] at HT
  obtain ⟨t1, t2, t3, t4⟩ := HT.out
  simp only at t1 t2 t3 t4
  subst t1
  have HF4 := hide t4
  have CN : Hid (∀ W b, Below wA.heap.size wA W → Row 0 W (some ⟨b, 0, none⟩) [2, 0] → Calls Try.prog 25 #[.slice (some ⟨b, 0, none⟩) 2 2] W fun e w' => (∃ y1 n1 y2 n2, e = .returned (.agg #[.slice y1 1 n1, .slice y2 2 n2]) ∧ Caps (.agg #[.slice y1 1 n1, .slice y2 2 n2]) ∧ ArIn 1 0 w' (numsA [2, 0]) (.agg #[.slice y1 1 n1, .slice y2 2 n2])) ∧ Below wA.heap.size wA w' ∧ Below W.heap.size W w') := by
    intro W b h hR
    refine (rnumsK_any 0 [2, 0] _ 2 W hR (by decide)).mono ?_
    rintro e w' ⟨⟨v, rfl, kc, hv⟩, hb⟩
    obtain ⟨y1, n1, y2, n2, rfl, -, -⟩ := hv.form
    exact ⟨⟨_, _, _, _, rfl, kc, hv.mono (Nat.zero_le _) (Below.refl _ _)⟩, h.trans (hb.mono h.size), hb⟩
  have CD : Hid (∀ W, Below wA.heap.size wA W → ∀ y1 n1 y2 n2, Caps (.agg #[.slice y1 1 n1, .slice y2 2 n2]) → ArIn 1 0 W (numsA [2, 0]) (.agg #[.slice y1 1 n1, .slice y2 2 n2]) → _) := fun W h y1 n1 y2 n2 kc hy => dy_at h (dy_52 hy (HVA.out W h).ar chk_20 chk_123 kc (HVA.out W h).cap) hF t2 t3
  have KS : Hid (∀ W, Below wA.heap.size wA W → (Below wA.heap.size wA W ∧ W.cell? ⟨w2.heap.size, 0, none⟩ = some (.slice x1 1 m1) ∧ W.cell? ⟨w2.heap.size, 1, none⟩ = some (.slice x2 3 m2))) := fun W h => ⟨h, (HVA.out W h).c0, (HVA.out W h).c1⟩
  clear HT t2 t3 t4 HV
  go_wp2
  go_cut [4, 5] from 16 to 22 (fun sx sy wx => ∃ B z1 l1 z2 l2, sx = .pointer (some ⟨B, 0, none⟩) ∧ sy = .int .i64 0 ∧ Below wA.heap.size wA wx ∧ Var 1 wx B F (.slice z1 1 l1) (.slice z2 2 l2))
  case first =>
    have NW := fun (W : World) => (row_new W [2, 0] 2 (0, 0) (by simp)).low (Nat.zero_le _)
    have HA : Hid (Below wA.heap.size wA (wA.alloc (.cells #[.int .i64 2, .int .i64 0] 2)).drew ∧ Row 0 (wA.alloc (.cells #[.int .i64 2, .int .i64 0] 2)).drew (some ⟨wA.heap.size, 0, none⟩) [2, 0]) := ⟨(one_alloc _ _).drew, (row_new wA [2, 0] 2 (0, 0) (by simp)).low (Nat.zero_le _)⟩
    have sZ : (wA.alloc (.cells #[.slice none 0 0, .slice none 0 0] 25)).heap.size = wA.heap.size + 1 := by simp
    have sL : (wA.alloc (.cells #[.int .i64 2, .int .i64 0] 2)).heap.size = wA.heap.size + 1 := by simp
    have HB : Hid (Below wA.heap.size wA ((wA.alloc (.cells #[.slice none 0 0, .slice none 0 0] 25)).alloc (.cells #[.int .i64 2, .int .i64 0] 2)).drew ∧ Row 0 ((wA.alloc (.cells #[.slice none 0 0, .slice none 0 0] 25)).alloc (.cells #[.int .i64 2, .int .i64 0] 2)).drew (some ⟨wA.heap.size + 1, 0, none⟩) [2, 0]) := ⟨(two_allocs wA _ _).drew, by
      have := (row_new (wA.alloc (.cells #[.slice none 0 0, .slice none 0 0] 25)) [2, 0] 2 (0, 0) (by simp)).low (Nat.zero_le _)
      rw [sZ] at this
      exact this⟩
    have HC : Hid (Below wA.heap.size wA ((wA.alloc (.cells #[.int .i64 2, .int .i64 0] 2)).alloc (.cells #[.slice none 0 0, .slice none 0 0] 25)).drew ∧ Row 0 ((wA.alloc (.cells #[.int .i64 2, .int .i64 0] 2)).alloc (.cells #[.slice none 0 0, .slice none 0 0] 25)).drew (some ⟨wA.heap.size, 0, none⟩) [2, 0]) := ⟨(two_allocs wA _ _).drew, Row.next (w := wA.alloc (.cells #[.int .i64 2, .int .i64 0] 2)) ((row_new wA [2, 0] 2 (0, 0) (by simp)).low (Nat.zero_le _)) (one_alloc (wA.alloc (.cells #[.int .i64 2, .int .i64 0] 2)) (.cells #[.slice none 0 0, .slice none 0 0] 25)).drew⟩
    have ZBB : Hid (Zb ((wA.alloc (.cells #[.slice none 0 0, .slice none 0 0] 25)).alloc (.cells #[.int .i64 2, .int .i64 0] 2)).drew wA.heap.size) := ((Zb.new wA).next (one_alloc _ _)).drew
    have ZBC : Hid (Zb ((wA.alloc (.cells #[.int .i64 2, .int .i64 0] 2)).alloc (.cells #[.slice none 0 0, .slice none 0 0] 25)).drew (wA.heap.size + 1)) := by
      have := (Zb.new (wA.alloc (.cells #[.int .i64 2, .int .i64 0] 2))).drew
      rw [sL] at this
      exact this
    have HRR : Hid (Below wA.heap.size wA wA.drew) := (Below.refl _ _).drew
    have HZA : Hid (Below wA.heap.size wA (wA.alloc (.cells #[.slice none 0 0, .slice none 0 0] 25)).drew) := (one_alloc _ _).drew
    have HAL : Hid (∀ W o, Below wA.heap.size wA W → Below wA.heap.size wA (W.alloc o)) := fun W o h => h.alloc h.size o
    have HSET : Hid (∀ W b u v, Below wA.heap.size wA W → wA.heap.size ≤ b → Below wA.heap.size wA ((W.setCell ⟨b, 0, none⟩ u).setCell ⟨b, 1, none⟩ v)) := fun W b u v h hb => (h.setCell (p := ⟨b, 0, none⟩) hb u).setCell (p := ⟨b, 1, none⟩) hb v
    have le0 : Hid (wA.heap.size ≤ wA.heap.size ∧ wA.heap.size ≤ wA.heap.size + 1) := ⟨Nat.le_refl _, Nat.le_succ _⟩
    clear NW sZ sL
    go_region_held3 (fun W => Below wA.heap.size wA W ∧ W.cell? ⟨w2.heap.size, 0, none⟩ = some (.slice x1 1 m1) ∧ W.cell? ⟨w2.heap.size, 1, none⟩ = some (.slice x2 3 m2))
      (first | with_reducible exact KS.out _ HA.out.1 | with_reducible exact KS.out _ HB.out.1 | with_reducible exact KS.out _ HC.out.1 | with_reducible exact KS.out _ HRR.out | with_reducible exact KS.out _ HZA.out | with_reducible exact KS.out _ (by with_reducible assumption) | with_reducible exact KS.out _ (HAL.out _ _ (by with_reducible assumption)) | with_reducible exact KS.out _ (HSET.out _ _ _ _ (by with_reducible assumption) (by with_reducible assumption)) | with_reducible exact KS.out _ (HSET.out _ _ _ _ (by with_reducible assumption) le0.out.1) | with_reducible exact KS.out _ (HSET.out _ _ _ _ (by with_reducible assumption) le0.out.2))
      (first
        | (go_at_call 25; first
            | ((with_reducible refine (CN.out _ _ HA.out.1 HA.out.2).mono ?_); rintro e w4 ⟨⟨y1, n1, y2, n2, rfl, kc, hy⟩, g4, hb4⟩; have s4 := g4.size; clear hb4)
            | ((with_reducible refine (CN.out _ _ HB.out.1 HB.out.2).mono ?_); rintro e w4 ⟨⟨y1, n1, y2, n2, rfl, kc, hy⟩, g4, hb4⟩; have t4 := ZBB.out.next hb4; clear hb4)
            | ((with_reducible refine (CN.out _ _ HC.out.1 HC.out.2).mono ?_); rintro e w4 ⟨⟨y1, n1, y2, n2, rfl, kc, hy⟩, g4, hb4⟩; have t4 := ZBC.out.next hb4; clear hb4))
        | (go_at_call 19; first
            | ((with_reducible refine (CD.out w4 g4 y1 n1 y2 n2 kc hy).mono ?_); rintro e w5 ⟨⟨z1, l1, z2, l2, rfl, hc, hz⟩, g5, hb5⟩; first | (obtain ⟨k0, k1, k2, k3, -⟩ := t4.next hb5) | skip)
            | ((with_reducible refine (CD.out (w4.alloc (.cells #[.slice none 0 0, .slice none 0 0] 25)) (g4.alloc g4.size _) y1 n1 y2 n2 kc (hy.next (one_alloc _ _))).mono ?_); rintro e w5 ⟨⟨z1, l1, z2, l2, rfl, hc, hz⟩, g5, hb5⟩; obtain ⟨k0, k1, k2, k3, -⟩ := (Zb.new w4).next hb5)))
    all_goals
      go_wp2
      go_meet
    all_goals
      case rel =>
        first
          | exact ⟨_, _, _, _, _, rfl, rfl, var_new g5 hz hc⟩
          | exact ⟨_, _, _, _, _, rfl, rfl, var_old (Zb.new w4) g4.size g5 hb5 hz hc⟩
          | exact ⟨_, _, _, _, _, rfl, rfl, var_old t4 le0.out.1 g5 hb5 hz hc⟩
          | exact ⟨_, _, _, _, _, rfl, rfl, var_old t4 le0.out.2 g5 hb5 hz hc⟩
  case rest =>
  obtain ⟨B2, f1, j1, f2, j2, rfl, rfl, g7, V7⟩ := hcut
  generalize wc = wB at *
  have HG7 := hide g7
  have HV7 : Hid (∀ W, Below wB.heap.size wB W → Var 1 W B2 F (.slice f1 1 j1) (.slice f2 2 j2)) := fun W h => V7.next h
  have HV6B : Hid (∀ W, Below wB.heap.size wB W → Var 1 W B T (.slice z1 1 l1) (.slice z2 5 l2)) := fun W h => HV6.out W (HG7.out.trans (h.mono HG7.out.size))
  have HVB : Hid (∀ W, Below wB.heap.size wB W → Var 1 W w2.heap.size (numsA [1, 2, 3]) (.slice x1 1 m1) (.slice x2 3 m2)) := fun W h => HVA.out W (HG7.out.trans (h.mono HG7.out.size))
  clear CN CD KS hF g7 V7 HV6 HVA
  obtain ⟨⟨G, EG⟩, hGG⟩ : ∃ p, lookR (atomA 3) (numsA [1, 2, 3]) = p := ⟨_, rfl⟩
  have HT := hide w_at
  rw [hGG] at HT
  obtain ⟨t1, t2, t3⟩ := HT.out
  simp only at t1 t2 t3
  subst t1
  have CA : Hid (∀ W, Below wB.heap.size wB W → _) := fun W h => atom_at 0 3 wB W h
  have CD : Hid (∀ W, Below wB.heap.size wB W → ∀ y1 n1 y2 n2, Caps (.agg #[.slice y1 0 n1, .slice y2 1 n2]) → ArIn 1 0 W (atomA 3) (.agg #[.slice y1 0 n1, .slice y2 1 n2]) → _) := fun W h y1 n1 y2 n2 kc hy => dy_at h (dy_53 (HVB.out W h).ar hy chk_123 (chk_atom _) (HVB.out W h).cap kc) hGG t2 t3
  have KS : Hid (∀ W, Below wB.heap.size wB W → (Below wB.heap.size wB W ∧ W.cell? ⟨w2.heap.size, 0, none⟩ = some (.slice x1 1 m1) ∧ W.cell? ⟨w2.heap.size, 1, none⟩ = some (.slice x2 3 m2))) := fun W h => ⟨h, (HVB.out W h).c0, (HVB.out W h).c1⟩
  clear HT t2 t3 HVB
  go_wp2
  go_cut [6, 7] from 23 to 28 (fun sx sy wx => ∃ B z1 l1 z2 l2, sx = .pointer (some ⟨B, 0, none⟩) ∧ sy = .int .i64 8 ∧ Below wB.heap.size wB wx ∧ Var 1 wx B G (.slice z1 0 l1) (.slice z2 0 l2))
  case first =>
    have HD0 : Hid (Below wB.heap.size wB wB.drew) := (Below.refl _ _).drew
    have HD1 : Hid (Below wB.heap.size wB (wB.alloc (.cells #[.slice none 0 0, .slice none 0 0] 25)).drew) := (one_alloc _ _).drew
    have HD2 : Hid (Below wB.heap.size wB (wB.drew.alloc (.cells #[.slice none 0 0, .slice none 0 0] 25))) := (Below.refl _ _).drew.alloc (Nat.le_refl _) _
    have HAL : Hid (∀ W o, Below wB.heap.size wB W → Below wB.heap.size wB (W.alloc o)) := fun W o h => h.alloc h.size o
    have HSET : Hid (∀ W b u v, Below wB.heap.size wB W → wB.heap.size ≤ b → Below wB.heap.size wB ((W.setCell ⟨b, 0, none⟩ u).setCell ⟨b, 1, none⟩ v)) := fun W b u v h hb => (h.setCell (p := ⟨b, 0, none⟩) hb u).setCell (p := ⟨b, 1, none⟩) hb v
    have HLE : Hid (wB.heap.size ≤ wB.heap.size) := Nat.le_refl _
    go_region_held3 (fun W => Below wB.heap.size wB W ∧ W.cell? ⟨w2.heap.size, 0, none⟩ = some (.slice x1 1 m1) ∧ W.cell? ⟨w2.heap.size, 1, none⟩ = some (.slice x2 3 m2))
      (first | with_reducible exact KS.out _ HD0.out | with_reducible exact KS.out _ HD1.out | with_reducible exact KS.out _ HD2.out | with_reducible exact KS.out _ (by with_reducible assumption) | with_reducible exact KS.out _ (HAL.out _ _ (by with_reducible assumption)) | with_reducible exact KS.out _ (HSET.out _ _ _ _ (by with_reducible assumption) (by with_reducible assumption)) | with_reducible exact KS.out _ (HSET.out _ _ _ _ (by with_reducible assumption) HLE.out))
      (first
        | (go_at_call 22; first
            | ((with_reducible refine (CA.out _ HD0.out).mono ?_); rintro e w4 ⟨⟨y1, n1, y2, n2, rfl, kc, hy⟩, g4, hb4⟩; have s4 := g4.size; clear hb4)
            | ((with_reducible refine (CA.out _ HD1.out).mono ?_); rintro e w4 ⟨⟨y1, n1, y2, n2, rfl, kc, hy⟩, g4, hb4⟩; have t4 := (Zb.new wB).drew.next hb4; clear hb4)
            | ((with_reducible refine (CA.out _ HD2.out).mono ?_); rintro e w4 ⟨⟨y1, n1, y2, n2, rfl, kc, hy⟩, g4, hb4⟩; have t4 := (Zb.new wB.drew).next hb4; clear hb4))
        | (go_at_call 19; first
            | ((with_reducible refine (CD.out w4 g4 y1 n1 y2 n2 kc hy).mono ?_); rintro e w5 ⟨⟨z1, l1, z2, l2, rfl, hc, hz⟩, g5, hb5⟩; first | (obtain ⟨k0, k1, k2, k3, -⟩ := t4.next hb5) | skip)
            | ((with_reducible refine (CD.out (w4.alloc (.cells #[.slice none 0 0, .slice none 0 0] 25)) (g4.alloc g4.size _) y1 n1 y2 n2 kc (hy.next (one_alloc _ _))).mono ?_); rintro e w5 ⟨⟨z1, l1, z2, l2, rfl, hc, hz⟩, g5, hb5⟩; obtain ⟨k0, k1, k2, k3, -⟩ := (Zb.new w4).next hb5)))
    all_goals
      go_wp2
      go_meet
    all_goals
      case rel =>
        first
          | exact ⟨_, _, _, _, _, rfl, rfl, var_new g5 hz hc⟩
          | exact ⟨_, _, _, _, _, rfl, rfl, var_old (Zb.new w4) g4.size g5 hb5 hz hc⟩
          | exact ⟨_, _, _, _, _, rfl, rfl, var_old t4 (Nat.le_refl _) g5 hb5 hz hc⟩
  case rest =>
  obtain ⟨B3, h1, i1, h2, i2, rfl, rfl, g8, V8⟩ := hcut
  obtain ⟨v0, v1⟩ : _ ∧ _ := ⟨(HV6B.out wc g8).c1, (HV7.out wc g8).c1⟩
  obtain ⟨q1, q2, q3, q4, hq, -, hqc⟩ := (HV6B.out wc g8).ar.form
  simp only [Value.agg.injEq, Array.mk.injEq, List.cons.injEq, Value.slice.injEq, and_true] at hq
  obtain ⟨-, rfl, hq5, -⟩ := hq
  obtain ⟨ab, cb, hcf⟩ := cells_fn hqc
  obtain ⟨r, o, rfl, -, hr, hcells⟩ := hcf (by rw [← hq5]; decide)
  have hrc := (hcells 2 (by rw [← hq5]; decide)).2.1
  rw [HT4.out] at hrc
  have hrc' : wc.cell? ⟨r, o + 6 + 1, none⟩ = some (.int .i64 1) := by simpa using hrc
  obtain ⟨p1, p2, p3, p4, hp, -, hpc⟩ := (HV7.out wc g8).ar.form
  simp only [Value.agg.injEq, Array.mk.injEq, List.cons.injEq, Value.slice.injEq, and_true] at hp
  obtain ⟨-, rfl, hp5, -⟩ := hp
  obtain ⟨ab', cb', hcf'⟩ := cells_fn hpc
  obtain ⟨r', o', rfl, -, hr', hcells'⟩ := hcf' (by rw [← hp5]; decide)
  have hsc := (hcells' 0 (by rw [← hp5]; decide)).2.1
  rw [HF4.out] at hsc
  have hsc' : wc.cell? ⟨r', o' + 1, none⟩ = some (.int .i64 3) := by simpa using hsc
  have HBF : Hid (Below w.heap.size w wc) := HBW.out.trans ((HG6.out.trans ((HG7.out.trans (g8.mono HG7.out.size)).mono HG6.out.size)).mono HBW.out.size)
  clear hcells hcells' hcf hcf' hrc hsc hq5 hp5 g8 V8 HV6B HV7 HG6 HG7 HBW CA CD KS hqc hpc hGG
  go_wp2
  go_ret
  exact ⟨rfl, HBF.out⟩
end Go.Proofs.Ytmjncdhahdpplaa
namespace Go.Proofs.Ytmjncdhahdpplaa
open Go.ChangeShapes Go.WideShapes Go.ChangeAt Go.RowKit
set_option linter.unusedVariables false
set_option maxRecDepth 100000
set_option maxHeartbeats 4000000 in
theorem rdy_bad1 {n lo lo' : Nat} {op : Int} {x y : Ar} {va vb : Value} {w0 w : World} (hx : ArIn (n + 1) lo w0 x va) (hy : ArIn (n + 1) lo' w0 y vb) (hb0 : Below w0.heap.size w0 w) (hcx : ¬ chkA 8 x = 0) (hcapx : Caps va) (hcapy : Caps vb) (hI : I64 (numR x).1) :
    Calls Try.prog 20 #[.int .i64 op, va, vb] w fun e w' => Gives2Z (n + 1) w0 zeroA (chkA 8 x) w e w' := by
  obtain ⟨a1, c1, a2, c2, rfl, R, hc⟩ := hx.form
  obtain ⟨b1, d1, b2, d2, rfl, R', hc'⟩ := hy.form
  have I := in3_new w (.slice a1 x.shape.length c1) (.slice a2 x.cells.length c2) (.slice b1 y.shape.length d1) (.slice b2 y.cells.length d2)
  obtain ⟨W3, e3⟩ : ∃ W3, ((w.alloc (.cells #[.slice a1 x.shape.length c1, .slice a2 x.cells.length c2] 25)).alloc (.cells #[.slice b1 y.shape.length d1, .slice b2 y.cells.length d2] 25)).alloc (.cells #[.slice none 0 0, .slice none 0 0] 25) = W3 := ⟨_, rfl⟩
  rw [e3] at I
  have q0 := I.q0
  have q1 := I.q1
  have r0 := I.r0
  have r1 := I.r1
  have CK := rcheck_any (n + 1) x _ _ W3 (hx.next (hb0.trans (I.bel.mono hb0.size)))
  have HCK2 : Hid (∀ W, Below w0.heap.size w0 W → Calls Try.prog 16 #[.agg #[.slice b1 y.shape.length d1, .slice b2 y.cells.length d2]] W fun e w' => e = .returned (.int .i64 (chkA 8 y)) ∧ Below W.heap.size W w') := fun W h => rcheck_any (n + 1) y _ _ W (hy.next h)
  have HI := hide I
  have HB0 := hide hb0
  have HXY := hide (And.intro hx hy)
  have HCP := hide (And.intro hcapx hcapy)
  have HII := hide hI
  obtain ⟨E, hE⟩ : ∃ E, chkA 8 x = E := ⟨_, rfl⟩
  rw [hE] at CK hcx ⊢
  have hEb : (E == 0) = false := by simp [hcx]
  clear hx hy R hc R' hc' I hb0 hcapx hcapy hE HXY HCK2
  generalize x.shape.length = SX at *
  generalize x.cells.length = CX at *
  generalize y.shape.length = SY at *
  generalize y.cells.length = CY at *
  go_enter Try.func20, Try.ntmps20
  go_wp2_with fail
  clear e3
  refine CK.mono ?_
  clear CK q0 q1 r0 r1
  rintro e w1 ⟨rfl, hb1⟩
  have HI1 := hide (HI.out.next hb1)
  clear hb1 HI
  have HT := hide (HI1.out.put (.slice none 0 0) (.slice none 0 0))
  have p0 := HI1.out.p0
  have p1 := HI1.out.p1
  have f0 := HI1.out.f0
  have f1 := HI1.out.f1
  have HF : Hid (∀ u v, Gives2Z (n + 1) w0 zeroA E w (.returned (.tuple #[.agg #[.slice none 0 0, .slice none 0 0], .int .i64 E])) ((w1.setCell ⟨w.heap.size + 2, 0, none⟩ u).setCell ⟨w.heap.size + 2, 1, none⟩ v)) := fun u v => gives2z_of (R := (zeroA, E)) rfl (fun W _ _ => zeroA_in _ _ _) (HI1.out.fin u v)
  go_wp2
  exact bodyPost_ret (v := .tuple #[.agg #[.slice none 0 0, .slice none 0 0], .int .i64 E]) (by simp [results, Try.results20, go_sem, HT.out.1, HT.out.2]) rfl (HF.out _ _)
set_option maxHeartbeats 4000000 in
theorem rdy_bad2 {n lo lo' : Nat} {op : Int} {x y : Ar} {va vb : Value} {w0 w : World} (hx : ArIn (n + 1) lo w0 x va) (hy : ArIn (n + 1) lo' w0 y vb) (hb0 : Below w0.heap.size w0 w) (hcx : chkA 8 x = 0) (hcy : ¬ chkA 8 y = 0) (hcapx : Caps va) (hcapy : Caps vb) (hI : I64 (numR x).1) :
    Calls Try.prog 20 #[.int .i64 op, va, vb] w fun e w' => Gives2Z (n + 1) w0 zeroA (chkA 8 y) w e w' := by
  obtain ⟨a1, c1, a2, c2, rfl, R, hc⟩ := hx.form
  obtain ⟨b1, d1, b2, d2, rfl, R', hc'⟩ := hy.form
  have I := in3_new w (.slice a1 x.shape.length c1) (.slice a2 x.cells.length c2) (.slice b1 y.shape.length d1) (.slice b2 y.cells.length d2)
  obtain ⟨W3, e3⟩ : ∃ W3, ((w.alloc (.cells #[.slice a1 x.shape.length c1, .slice a2 x.cells.length c2] 25)).alloc (.cells #[.slice b1 y.shape.length d1, .slice b2 y.cells.length d2] 25)).alloc (.cells #[.slice none 0 0, .slice none 0 0] 25) = W3 := ⟨_, rfl⟩
  rw [e3] at I
  have q0 := I.q0
  have q1 := I.q1
  have r0 := I.r0
  have r1 := I.r1
  have CK := rcheck_any (n + 1) x _ _ W3 (hx.next (hb0.trans (I.bel.mono hb0.size)))
  have HCK2 : Hid (∀ W, Below w0.heap.size w0 W → Calls Try.prog 16 #[.agg #[.slice b1 y.shape.length d1, .slice b2 y.cells.length d2]] W fun e w' => e = .returned (.int .i64 (chkA 8 y)) ∧ Below W.heap.size W w') := fun W h => rcheck_any (n + 1) y _ _ W (hy.next h)
  have HI := hide I
  have HB0 := hide hb0
  have HXY := hide (And.intro hx hy)
  have HCP := hide (And.intro hcapx hcapy)
  have HII := hide hI
  rw [hcx] at CK
  obtain ⟨E, hE⟩ : ∃ E, chkA 8 y = E := ⟨_, rfl⟩
  rw [hE] at HCK2 hcy ⊢
  have hEb : (E == 0) = false := by simp [hcy]
  clear hx hy R hc R' hc' I hb0 hcapx hcapy hE HXY
  generalize x.shape.length = SX at *
  generalize x.cells.length = CX at *
  generalize y.shape.length = SY at *
  generalize y.cells.length = CY at *
  go_enter Try.func20, Try.ntmps20
  go_wp2_with fail
  clear e3
  refine CK.mono ?_
  clear CK q0 q1 r0 r1
  rintro e w1 ⟨rfl, hb1⟩
  have I1 := HI.out.next hb1
  have HI1 := hide I1
  have C2 := HCK2.out w1 (HB0.out.trans (I1.bel.mono HB0.out.size))
  have r0 := I1.r0
  have r1 := I1.r1
  clear hb1 HI I1 HCK2
  go_wp2_with fail
  refine C2.mono ?_
  clear C2 r0 r1
  rintro e w2 ⟨rfl, hb2⟩
  have I2 := HI1.out.next hb2
  have HI2 := hide I2
  clear hb2 HI1 I2
  have HT := hide (HI2.out.put (.slice none 0 0) (.slice none 0 0))
  have p0 := HI2.out.p0
  have p1 := HI2.out.p1
  have f0 := HI2.out.f0
  have f1 := HI2.out.f1
  have HF : Hid (∀ u v, Gives2Z (n + 1) w0 zeroA E w (.returned (.tuple #[.agg #[.slice none 0 0, .slice none 0 0], .int .i64 E])) ((w2.setCell ⟨w.heap.size + 2, 0, none⟩ u).setCell ⟨w.heap.size + 2, 1, none⟩ v)) := fun u v => gives2z_of (R := (zeroA, E)) rfl (fun W _ _ => zeroA_in _ _ _) (HI2.out.fin u v)
  go_wp2
  exact bodyPost_ret (v := .tuple #[.agg #[.slice none 0 0, .slice none 0 0], .int .i64 E]) (by simp [results, Try.results20, go_sem, HT.out.1, HT.out.2]) rfl (HF.out _ _)
set_option maxHeartbeats 4000000 in
theorem rdy_46 {n lo lo' : Nat} {x y : Ar} {va vb : Value} {w0 w : World} (hx : ArIn (n + 1) lo w0 x va) (hy : ArIn (n + 1) lo' w0 y vb) (hb0 : Below w0.heap.size w0 w) (hcx : chkA 8 x = 0) (hcy : chkA 8 y = 0) (hcapx : Caps va) (hcapy : Caps vb) (hI : I64 (numR x).1) :
    Calls Try.prog 20 #[.int .i64 46, va, vb] w fun e w' => Gives2Z (n + 1) w0 (joiR false x y).1 (joiR false x y).2 w e w' := by
  obtain ⟨a1, c1, a2, c2, rfl, R, hc⟩ := hx.form
  obtain ⟨b1, d1, b2, d2, rfl, R', hc'⟩ := hy.form
  have I := in3_new w (.slice a1 x.shape.length c1) (.slice a2 x.cells.length c2) (.slice b1 y.shape.length d1) (.slice b2 y.cells.length d2)
  obtain ⟨W3, e3⟩ : ∃ W3, ((w.alloc (.cells #[.slice a1 x.shape.length c1, .slice a2 x.cells.length c2] 25)).alloc (.cells #[.slice b1 y.shape.length d1, .slice b2 y.cells.length d2] 25)).alloc (.cells #[.slice none 0 0, .slice none 0 0] 25) = W3 := ⟨_, rfl⟩
  rw [e3] at I
  have q0 := I.q0
  have q1 := I.q1
  have r0 := I.r0
  have r1 := I.r1
  have CK := rcheck_any (n + 1) x _ _ W3 (hx.next (hb0.trans (I.bel.mono hb0.size)))
  have HCK2 : Hid (∀ W, Below w0.heap.size w0 W → Calls Try.prog 16 #[.agg #[.slice b1 y.shape.length d1, .slice b2 y.cells.length d2]] W fun e w' => e = .returned (.int .i64 (chkA 8 y)) ∧ Below W.heap.size W w') := fun W h => rcheck_any (n + 1) y _ _ W (hy.next h)
  have HI := hide I
  have HB0 := hide hb0
  have HXY := hide (And.intro hx hy)
  have HCP := hide (And.intro hcapx hcapy)
  have HII := hide hI
  rw [hcx] at CK
  rw [hcy] at HCK2
  have HC : Hid (∀ W, Below w0.heap.size w0 W → Calls Try.prog 47 #[.agg #[.slice a1 x.shape.length c1, .slice a2 x.cells.length c2], .agg #[.slice b1 y.shape.length d1, .slice b2 y.cells.length d2], .bool false] W fun e w' => Gives2Z (n + 1) w0 (joiR false x y).1 (joiR false x y).2 W e w') := fun W h => rjoin_any false hx hy h hcx hcy hcapx hcapy
  obtain ⟨⟨Y, EY⟩, hR⟩ : ∃ p, joiR false x y = p := ⟨_, rfl⟩
  rw [hR] at HC ⊢
  simp only at HC ⊢
  clear hx hy R hc R' hc' I hb0 hcapx hcapy hR HXY HCP HII hI
  generalize x.shape.length = SX at *
  generalize x.cells.length = CX at *
  generalize y.shape.length = SY at *
  generalize y.cells.length = CY at *
  go_enter Try.func20, Try.ntmps20
  go_wp2_with fail
  clear e3
  refine CK.mono ?_
  clear CK q0 q1 r0 r1
  rintro e w1 ⟨rfl, hb1⟩
  have I1 := HI.out.next hb1
  have HI1 := hide I1
  have C2 := HCK2.out w1 (HB0.out.trans (I1.bel.mono HB0.out.size))
  have r0 := I1.r0
  have r1 := I1.r1
  clear hb1 HI I1 HCK2
  go_wp2_with fail
  refine C2.mono ?_
  clear C2 r0 r1
  rintro e w2 ⟨rfl, hb2⟩
  have I2 := HI1.out.next hb2
  have HI2 := hide I2
  have NB := HB0.out.trans (I2.bel.mono HB0.out.size)
  have HNB := hide NB
  have C := HC.out w2 NB
  have q0 := I2.q0
  have q1 := I2.q1
  have r0 := I2.r0
  have r1 := I2.r1
  clear hb2 HI1 I2 NB HC hcx hcy
  go_wp2_with fail
  refine C.mono ?_
  clear C q0 q1 r0 r1
  rintro e w4 ⟨⟨v, rfl, hv⟩, hb4⟩
  obtain ⟨z1, m1, z2, m2, rfl, -, -⟩ := (hv w4 (HNB.out.trans (hb4.mono HNB.out.size)) (Keeps.refl _ _)).form
  have I4 := HI2.out.next hb4
  have p0 := I4.p0
  have p1 := I4.p1
  have f0 := I4.f0
  have f1 := I4.f1
  have HT := hide (I4.put (.slice z1 Y.shape.length m1) (.slice z2 Y.cells.length m2))
  have hs2 := HI2.out.size
  have HF : Hid (∀ u v W, Below w0.heap.size w0 W → Keeps w.heap.size ((w4.setCell ⟨w.heap.size + 2, 0, none⟩ u).setCell ⟨w.heap.size + 2, 1, none⟩ v) W → ArIn (n + 1) 0 W Y (.agg #[.slice z1 Y.shape.length m1, .slice z2 Y.cells.length m2])) := by
    intro u v W hW hK
    exact hv W hW (((keeps_three w4 w.heap.size u v).trans (hK.mono (show w.heap.size ≤ w.heap.size + 3 by omega))).mono hs2)
  have HFI := hide I4.fin
  clear I4 hv hb4 HI2 hs2 HNB
  generalize Y.shape.length = YS at *
  generalize Y.cells.length = YC at *
  go_wp2
  exact bodyPost_ret (v := .tuple #[.agg #[.slice z1 YS m1, .slice z2 YC m2], .int .i64 EY]) (by simp [results, Try.results20, go_sem, HT.out.1, HT.out.2]) rfl ⟨⟨_, rfl, HF.out _ _⟩, HFI.out _ _⟩
set_option maxHeartbeats 4000000 in
theorem rdy_47 {n lo lo' : Nat} {x y : Ar} {va vb : Value} {w0 w : World} (hx : ArIn (n + 1) lo w0 x va) (hy : ArIn (n + 1) lo' w0 y vb) (hb0 : Below w0.heap.size w0 w) (hcx : chkA 8 x = 0) (hcy : chkA 8 y = 0) (hcapx : Caps va) (hcapy : Caps vb) (hI : I64 (numR x).1) :
    Calls Try.prog 20 #[.int .i64 47, va, vb] w fun e w' => Gives2Z (n + 1) w0 (joiR true x y).1 (joiR true x y).2 w e w' := by
  obtain ⟨a1, c1, a2, c2, rfl, R, hc⟩ := hx.form
  obtain ⟨b1, d1, b2, d2, rfl, R', hc'⟩ := hy.form
  have I := in3_new w (.slice a1 x.shape.length c1) (.slice a2 x.cells.length c2) (.slice b1 y.shape.length d1) (.slice b2 y.cells.length d2)
  obtain ⟨W3, e3⟩ : ∃ W3, ((w.alloc (.cells #[.slice a1 x.shape.length c1, .slice a2 x.cells.length c2] 25)).alloc (.cells #[.slice b1 y.shape.length d1, .slice b2 y.cells.length d2] 25)).alloc (.cells #[.slice none 0 0, .slice none 0 0] 25) = W3 := ⟨_, rfl⟩
  rw [e3] at I
  have q0 := I.q0
  have q1 := I.q1
  have r0 := I.r0
  have r1 := I.r1
  have CK := rcheck_any (n + 1) x _ _ W3 (hx.next (hb0.trans (I.bel.mono hb0.size)))
  have HCK2 : Hid (∀ W, Below w0.heap.size w0 W → Calls Try.prog 16 #[.agg #[.slice b1 y.shape.length d1, .slice b2 y.cells.length d2]] W fun e w' => e = .returned (.int .i64 (chkA 8 y)) ∧ Below W.heap.size W w') := fun W h => rcheck_any (n + 1) y _ _ W (hy.next h)
  have HI := hide I
  have HB0 := hide hb0
  have HXY := hide (And.intro hx hy)
  have HCP := hide (And.intro hcapx hcapy)
  have HII := hide hI
  rw [hcx] at CK
  rw [hcy] at HCK2
  have HC : Hid (∀ W, Below w0.heap.size w0 W → Calls Try.prog 47 #[.agg #[.slice a1 x.shape.length c1, .slice a2 x.cells.length c2], .agg #[.slice b1 y.shape.length d1, .slice b2 y.cells.length d2], .bool true] W fun e w' => Gives2Z (n + 1) w0 (joiR true x y).1 (joiR true x y).2 W e w') := fun W h => rjoin_any true hx hy h hcx hcy hcapx hcapy
  obtain ⟨⟨Y, EY⟩, hR⟩ : ∃ p, joiR true x y = p := ⟨_, rfl⟩
  rw [hR] at HC ⊢
  simp only at HC ⊢
  clear hx hy R hc R' hc' I hb0 hcapx hcapy hR HXY HCP HII hI
  generalize x.shape.length = SX at *
  generalize x.cells.length = CX at *
  generalize y.shape.length = SY at *
  generalize y.cells.length = CY at *
  go_enter Try.func20, Try.ntmps20
  go_wp2_with fail
  clear e3
  refine CK.mono ?_
  clear CK q0 q1 r0 r1
  rintro e w1 ⟨rfl, hb1⟩
  have I1 := HI.out.next hb1
  have HI1 := hide I1
  have C2 := HCK2.out w1 (HB0.out.trans (I1.bel.mono HB0.out.size))
  have r0 := I1.r0
  have r1 := I1.r1
  clear hb1 HI I1 HCK2
  go_wp2_with fail
  refine C2.mono ?_
  clear C2 r0 r1
  rintro e w2 ⟨rfl, hb2⟩
  have I2 := HI1.out.next hb2
  have HI2 := hide I2
  have NB := HB0.out.trans (I2.bel.mono HB0.out.size)
  have HNB := hide NB
  have C := HC.out w2 NB
  have q0 := I2.q0
  have q1 := I2.q1
  have r0 := I2.r0
  have r1 := I2.r1
  clear hb2 HI1 I2 NB HC hcx hcy
  go_wp2_with fail
  refine C.mono ?_
  clear C q0 q1 r0 r1
  rintro e w4 ⟨⟨v, rfl, hv⟩, hb4⟩
  obtain ⟨z1, m1, z2, m2, rfl, -, -⟩ := (hv w4 (HNB.out.trans (hb4.mono HNB.out.size)) (Keeps.refl _ _)).form
  have I4 := HI2.out.next hb4
  have p0 := I4.p0
  have p1 := I4.p1
  have f0 := I4.f0
  have f1 := I4.f1
  have HT := hide (I4.put (.slice z1 Y.shape.length m1) (.slice z2 Y.cells.length m2))
  have hs2 := HI2.out.size
  have HF : Hid (∀ u v W, Below w0.heap.size w0 W → Keeps w.heap.size ((w4.setCell ⟨w.heap.size + 2, 0, none⟩ u).setCell ⟨w.heap.size + 2, 1, none⟩ v) W → ArIn (n + 1) 0 W Y (.agg #[.slice z1 Y.shape.length m1, .slice z2 Y.cells.length m2])) := by
    intro u v W hW hK
    exact hv W hW (((keeps_three w4 w.heap.size u v).trans (hK.mono (show w.heap.size ≤ w.heap.size + 3 by omega))).mono hs2)
  have HFI := hide I4.fin
  clear I4 hv hb4 HI2 hs2 HNB
  generalize Y.shape.length = YS at *
  generalize Y.cells.length = YC at *
  go_wp2
  exact bodyPost_ret (v := .tuple #[.agg #[.slice z1 YS m1, .slice z2 YC m2], .int .i64 EY]) (by simp [results, Try.results20, go_sem, HT.out.1, HT.out.2]) rfl ⟨⟨_, rfl, HF.out _ _⟩, HFI.out _ _⟩
set_option maxHeartbeats 4000000 in
theorem rdy_50 {n lo lo' : Nat} {x y : Ar} {va vb : Value} {w0 w : World} (hx : ArIn (n + 1) lo w0 x va) (hy : ArIn (n + 1) lo' w0 y vb) (hb0 : Below w0.heap.size w0 w) (hcx : chkA 8 x = 0) (hcy : chkA 8 y = 0) (hcapx : Caps va) (hcapy : Caps vb) (hI : I64 (numR x).1) :
    Calls Try.prog 20 #[.int .i64 50, va, vb] w fun e w' => Gives2Z (n + 1) w0 (repR x (lstA y) (axL false (lstA y))).1 (repR x (lstA y) (axL false (lstA y))).2 w e w' := by
  obtain ⟨a1, c1, a2, c2, rfl, R, hc⟩ := hx.form
  obtain ⟨b1, d1, b2, d2, rfl, R', hc'⟩ := hy.form
  have I := in3_new w (.slice a1 x.shape.length c1) (.slice a2 x.cells.length c2) (.slice b1 y.shape.length d1) (.slice b2 y.cells.length d2)
  obtain ⟨W3, e3⟩ : ∃ W3, ((w.alloc (.cells #[.slice a1 x.shape.length c1, .slice a2 x.cells.length c2] 25)).alloc (.cells #[.slice b1 y.shape.length d1, .slice b2 y.cells.length d2] 25)).alloc (.cells #[.slice none 0 0, .slice none 0 0] 25) = W3 := ⟨_, rfl⟩
  rw [e3] at I
  have q0 := I.q0
  have q1 := I.q1
  have r0 := I.r0
  have r1 := I.r1
  have CK := rcheck_any (n + 1) x _ _ W3 (hx.next (hb0.trans (I.bel.mono hb0.size)))
  have HCK2 : Hid (∀ W, Below w0.heap.size w0 W → Calls Try.prog 16 #[.agg #[.slice b1 y.shape.length d1, .slice b2 y.cells.length d2]] W fun e w' => e = .returned (.int .i64 (chkA 8 y)) ∧ Below W.heap.size W w') := fun W h => rcheck_any (n + 1) y _ _ W (hy.next h)
  have HI := hide I
  have HB0 := hide hb0
  have HXY := hide (And.intro hx hy)
  have HCP := hide (And.intro hcapx hcapy)
  have HII := hide hI
  rw [hcx] at CK
  rw [hcy] at HCK2
  have HC : Hid (∀ W, Below w0.heap.size w0 W → Calls Try.prog 49 #[.agg #[.slice a1 x.shape.length c1, .slice a2 x.cells.length c2], .agg #[.slice b1 y.shape.length d1, .slice b2 y.cells.length d2], .bool false] W fun e w' => Gives2Z (n + 1) w0 (repR x (lstA y) (axL false (lstA y))).1 (repR x (lstA y) (axL false (lstA y))).2 W e w') := fun W h => rrep_any false hx hy h hcx hcy hcapy
  obtain ⟨⟨Y, EY⟩, hR⟩ : ∃ p, repR x (lstA y) (axL false (lstA y)) = p := ⟨_, rfl⟩
  rw [hR] at HC ⊢
  simp only at HC ⊢
  clear hx hy R hc R' hc' I hb0 hcapx hcapy hR HXY HCP HII hI
  generalize x.shape.length = SX at *
  generalize x.cells.length = CX at *
  generalize y.shape.length = SY at *
  generalize y.cells.length = CY at *
  go_enter Try.func20, Try.ntmps20
  go_wp2_with fail
  clear e3
  refine CK.mono ?_
  clear CK q0 q1 r0 r1
  rintro e w1 ⟨rfl, hb1⟩
  have I1 := HI.out.next hb1
  have HI1 := hide I1
  have C2 := HCK2.out w1 (HB0.out.trans (I1.bel.mono HB0.out.size))
  have r0 := I1.r0
  have r1 := I1.r1
  clear hb1 HI I1 HCK2
  go_wp2_with fail
  refine C2.mono ?_
  clear C2 r0 r1
  rintro e w2 ⟨rfl, hb2⟩
  have I2 := HI1.out.next hb2
  have HI2 := hide I2
  have NB := HB0.out.trans (I2.bel.mono HB0.out.size)
  have HNB := hide NB
  have C := HC.out w2 NB
  have q0 := I2.q0
  have q1 := I2.q1
  have r0 := I2.r0
  have r1 := I2.r1
  clear hb2 HI1 I2 NB HC hcx hcy
  go_wp2_with fail
  refine C.mono ?_
  clear C q0 q1 r0 r1
  rintro e w4 ⟨⟨v, rfl, hv⟩, hb4⟩
  obtain ⟨z1, m1, z2, m2, rfl, -, -⟩ := (hv w4 (HNB.out.trans (hb4.mono HNB.out.size)) (Keeps.refl _ _)).form
  have I4 := HI2.out.next hb4
  have p0 := I4.p0
  have p1 := I4.p1
  have f0 := I4.f0
  have f1 := I4.f1
  have HT := hide (I4.put (.slice z1 Y.shape.length m1) (.slice z2 Y.cells.length m2))
  have hs2 := HI2.out.size
  have HF : Hid (∀ u v W, Below w0.heap.size w0 W → Keeps w.heap.size ((w4.setCell ⟨w.heap.size + 2, 0, none⟩ u).setCell ⟨w.heap.size + 2, 1, none⟩ v) W → ArIn (n + 1) 0 W Y (.agg #[.slice z1 Y.shape.length m1, .slice z2 Y.cells.length m2])) := by
    intro u v W hW hK
    exact hv W hW (((keeps_three w4 w.heap.size u v).trans (hK.mono (show w.heap.size ≤ w.heap.size + 3 by omega))).mono hs2)
  have HFI := hide I4.fin
  clear I4 hv hb4 HI2 hs2 HNB
  generalize Y.shape.length = YS at *
  generalize Y.cells.length = YC at *
  go_wp2
  exact bodyPost_ret (v := .tuple #[.agg #[.slice z1 YS m1, .slice z2 YC m2], .int .i64 EY]) (by simp [results, Try.results20, go_sem, HT.out.1, HT.out.2]) rfl ⟨⟨_, rfl, HF.out _ _⟩, HFI.out _ _⟩
set_option maxHeartbeats 4000000 in
theorem rdy_51 {n lo lo' : Nat} {x y : Ar} {va vb : Value} {w0 w : World} (hx : ArIn (n + 1) lo w0 x va) (hy : ArIn (n + 1) lo' w0 y vb) (hb0 : Below w0.heap.size w0 w) (hcx : chkA 8 x = 0) (hcy : chkA 8 y = 0) (hcapx : Caps va) (hcapy : Caps vb) (hI : I64 (numR x).1) :
    Calls Try.prog 20 #[.int .i64 51, va, vb] w fun e w' => Gives2Z (n + 1) w0 (repR x (lstA y) (axL true (lstA y))).1 (repR x (lstA y) (axL true (lstA y))).2 w e w' := by
  obtain ⟨a1, c1, a2, c2, rfl, R, hc⟩ := hx.form
  obtain ⟨b1, d1, b2, d2, rfl, R', hc'⟩ := hy.form
  have I := in3_new w (.slice a1 x.shape.length c1) (.slice a2 x.cells.length c2) (.slice b1 y.shape.length d1) (.slice b2 y.cells.length d2)
  obtain ⟨W3, e3⟩ : ∃ W3, ((w.alloc (.cells #[.slice a1 x.shape.length c1, .slice a2 x.cells.length c2] 25)).alloc (.cells #[.slice b1 y.shape.length d1, .slice b2 y.cells.length d2] 25)).alloc (.cells #[.slice none 0 0, .slice none 0 0] 25) = W3 := ⟨_, rfl⟩
  rw [e3] at I
  have q0 := I.q0
  have q1 := I.q1
  have r0 := I.r0
  have r1 := I.r1
  have CK := rcheck_any (n + 1) x _ _ W3 (hx.next (hb0.trans (I.bel.mono hb0.size)))
  have HCK2 : Hid (∀ W, Below w0.heap.size w0 W → Calls Try.prog 16 #[.agg #[.slice b1 y.shape.length d1, .slice b2 y.cells.length d2]] W fun e w' => e = .returned (.int .i64 (chkA 8 y)) ∧ Below W.heap.size W w') := fun W h => rcheck_any (n + 1) y _ _ W (hy.next h)
  have HI := hide I
  have HB0 := hide hb0
  have HXY := hide (And.intro hx hy)
  have HCP := hide (And.intro hcapx hcapy)
  have HII := hide hI
  rw [hcx] at CK
  rw [hcy] at HCK2
  have HC : Hid (∀ W, Below w0.heap.size w0 W → Calls Try.prog 49 #[.agg #[.slice a1 x.shape.length c1, .slice a2 x.cells.length c2], .agg #[.slice b1 y.shape.length d1, .slice b2 y.cells.length d2], .bool true] W fun e w' => Gives2Z (n + 1) w0 (repR x (lstA y) (axL true (lstA y))).1 (repR x (lstA y) (axL true (lstA y))).2 W e w') := fun W h => rrep_any true hx hy h hcx hcy hcapy
  obtain ⟨⟨Y, EY⟩, hR⟩ : ∃ p, repR x (lstA y) (axL true (lstA y)) = p := ⟨_, rfl⟩
  rw [hR] at HC ⊢
  simp only at HC ⊢
  clear hx hy R hc R' hc' I hb0 hcapx hcapy hR HXY HCP HII hI
  generalize x.shape.length = SX at *
  generalize x.cells.length = CX at *
  generalize y.shape.length = SY at *
  generalize y.cells.length = CY at *
  go_enter Try.func20, Try.ntmps20
  go_wp2_with fail
  clear e3
  refine CK.mono ?_
  clear CK q0 q1 r0 r1
  rintro e w1 ⟨rfl, hb1⟩
  have I1 := HI.out.next hb1
  have HI1 := hide I1
  have C2 := HCK2.out w1 (HB0.out.trans (I1.bel.mono HB0.out.size))
  have r0 := I1.r0
  have r1 := I1.r1
  clear hb1 HI I1 HCK2
  go_wp2_with fail
  refine C2.mono ?_
  clear C2 r0 r1
  rintro e w2 ⟨rfl, hb2⟩
  have I2 := HI1.out.next hb2
  have HI2 := hide I2
  have NB := HB0.out.trans (I2.bel.mono HB0.out.size)
  have HNB := hide NB
  have C := HC.out w2 NB
  have q0 := I2.q0
  have q1 := I2.q1
  have r0 := I2.r0
  have r1 := I2.r1
  clear hb2 HI1 I2 NB HC hcx hcy
  go_wp2_with fail
  refine C.mono ?_
  clear C q0 q1 r0 r1
  rintro e w4 ⟨⟨v, rfl, hv⟩, hb4⟩
  obtain ⟨z1, m1, z2, m2, rfl, -, -⟩ := (hv w4 (HNB.out.trans (hb4.mono HNB.out.size)) (Keeps.refl _ _)).form
  have I4 := HI2.out.next hb4
  have p0 := I4.p0
  have p1 := I4.p1
  have f0 := I4.f0
  have f1 := I4.f1
  have HT := hide (I4.put (.slice z1 Y.shape.length m1) (.slice z2 Y.cells.length m2))
  have hs2 := HI2.out.size
  have HF : Hid (∀ u v W, Below w0.heap.size w0 W → Keeps w.heap.size ((w4.setCell ⟨w.heap.size + 2, 0, none⟩ u).setCell ⟨w.heap.size + 2, 1, none⟩ v) W → ArIn (n + 1) 0 W Y (.agg #[.slice z1 Y.shape.length m1, .slice z2 Y.cells.length m2])) := by
    intro u v W hW hK
    exact hv W hW (((keeps_three w4 w.heap.size u v).trans (hK.mono (show w.heap.size ≤ w.heap.size + 3 by omega))).mono hs2)
  have HFI := hide I4.fin
  clear I4 hv hb4 HI2 hs2 HNB
  generalize Y.shape.length = YS at *
  generalize Y.cells.length = YC at *
  go_wp2
  exact bodyPost_ret (v := .tuple #[.agg #[.slice z1 YS m1, .slice z2 YC m2], .int .i64 EY]) (by simp [results, Try.results20, go_sem, HT.out.1, HT.out.2]) rfl ⟨⟨_, rfl, HF.out _ _⟩, HFI.out _ _⟩
set_option maxHeartbeats 4000000 in
theorem rdy_52 {n lo lo' : Nat} {x y : Ar} {va vb : Value} {w0 w : World} (hx : ArIn (n + 1) lo w0 x va) (hy : ArIn (n + 1) lo' w0 y vb) (hb0 : Below w0.heap.size w0 w) (hcx : chkA 8 x = 0) (hcy : chkA 8 y = 0) (hcapx : Caps va) (hcapy : Caps vb) (hI : I64 (numR x).1) :
    Calls Try.prog 20 #[.int .i64 52, va, vb] w fun e w' => Gives2Z (n + 1) w0 (lookR x y).1 (lookR x y).2 w e w' := by
  obtain ⟨a1, c1, a2, c2, rfl, R, hc⟩ := hx.form
  obtain ⟨b1, d1, b2, d2, rfl, R', hc'⟩ := hy.form
  have I := in3_new w (.slice a1 x.shape.length c1) (.slice a2 x.cells.length c2) (.slice b1 y.shape.length d1) (.slice b2 y.cells.length d2)
  obtain ⟨W3, e3⟩ : ∃ W3, ((w.alloc (.cells #[.slice a1 x.shape.length c1, .slice a2 x.cells.length c2] 25)).alloc (.cells #[.slice b1 y.shape.length d1, .slice b2 y.cells.length d2] 25)).alloc (.cells #[.slice none 0 0, .slice none 0 0] 25) = W3 := ⟨_, rfl⟩
  rw [e3] at I
  have q0 := I.q0
  have q1 := I.q1
  have r0 := I.r0
  have r1 := I.r1
  have CK := rcheck_any (n + 1) x _ _ W3 (hx.next (hb0.trans (I.bel.mono hb0.size)))
  have HCK2 : Hid (∀ W, Below w0.heap.size w0 W → Calls Try.prog 16 #[.agg #[.slice b1 y.shape.length d1, .slice b2 y.cells.length d2]] W fun e w' => e = .returned (.int .i64 (chkA 8 y)) ∧ Below W.heap.size W w') := fun W h => rcheck_any (n + 1) y _ _ W (hy.next h)
  have HI := hide I
  have HB0 := hide hb0
  have HXY := hide (And.intro hx hy)
  have HCP := hide (And.intro hcapx hcapy)
  have HII := hide hI
  rw [hcx] at CK
  rw [hcy] at HCK2
  have HC : Hid (∀ W, Below w0.heap.size w0 W → Calls Try.prog 48 #[.agg #[.slice a1 x.shape.length c1, .slice a2 x.cells.length c2], .agg #[.slice b1 y.shape.length d1, .slice b2 y.cells.length d2]] W fun e w' => Gives2Z (n + 1) w0 (lookR x y).1 (lookR x y).2 W e w') := fun W h => rfrom_any hx hy h hcx hcy hcapy
  obtain ⟨⟨Y, EY⟩, hR⟩ : ∃ p, lookR x y = p := ⟨_, rfl⟩
  rw [hR] at HC ⊢
  simp only at HC ⊢
  clear hx hy R hc R' hc' I hb0 hcapx hcapy hR HXY HCP HII hI
  generalize x.shape.length = SX at *
  generalize x.cells.length = CX at *
  generalize y.shape.length = SY at *
  generalize y.cells.length = CY at *
  go_enter Try.func20, Try.ntmps20
  go_wp2_with fail
  clear e3
  refine CK.mono ?_
  clear CK q0 q1 r0 r1
  rintro e w1 ⟨rfl, hb1⟩
  have I1 := HI.out.next hb1
  have HI1 := hide I1
  have C2 := HCK2.out w1 (HB0.out.trans (I1.bel.mono HB0.out.size))
  have r0 := I1.r0
  have r1 := I1.r1
  clear hb1 HI I1 HCK2
  go_wp2_with fail
  refine C2.mono ?_
  clear C2 r0 r1
  rintro e w2 ⟨rfl, hb2⟩
  have I2 := HI1.out.next hb2
  have HI2 := hide I2
  have NB := HB0.out.trans (I2.bel.mono HB0.out.size)
  have HNB := hide NB
  have C := HC.out w2 NB
  have q0 := I2.q0
  have q1 := I2.q1
  have r0 := I2.r0
  have r1 := I2.r1
  clear hb2 HI1 I2 NB HC hcx hcy
  go_wp2_with fail
  refine C.mono ?_
  clear C q0 q1 r0 r1
  rintro e w4 ⟨⟨v, rfl, hv⟩, hb4⟩
  obtain ⟨z1, m1, z2, m2, rfl, -, -⟩ := (hv w4 (HNB.out.trans (hb4.mono HNB.out.size)) (Keeps.refl _ _)).form
  have I4 := HI2.out.next hb4
  have p0 := I4.p0
  have p1 := I4.p1
  have f0 := I4.f0
  have f1 := I4.f1
  have HT := hide (I4.put (.slice z1 Y.shape.length m1) (.slice z2 Y.cells.length m2))
  have hs2 := HI2.out.size
  have HF : Hid (∀ u v W, Below w0.heap.size w0 W → Keeps w.heap.size ((w4.setCell ⟨w.heap.size + 2, 0, none⟩ u).setCell ⟨w.heap.size + 2, 1, none⟩ v) W → ArIn (n + 1) 0 W Y (.agg #[.slice z1 Y.shape.length m1, .slice z2 Y.cells.length m2])) := by
    intro u v W hW hK
    exact hv W hW (((keeps_three w4 w.heap.size u v).trans (hK.mono (show w.heap.size ≤ w.heap.size + 3 by omega))).mono hs2)
  have HFI := hide I4.fin
  clear I4 hv hb4 HI2 hs2 HNB
  generalize Y.shape.length = YS at *
  generalize Y.cells.length = YC at *
  go_wp2
  exact bodyPost_ret (v := .tuple #[.agg #[.slice z1 YS m1, .slice z2 YC m2], .int .i64 EY]) (by simp [results, Try.results20, go_sem, HT.out.1, HT.out.2]) rfl ⟨⟨_, rfl, HF.out _ _⟩, HFI.out _ _⟩
set_option maxHeartbeats 4000000 in
theorem rdy_53 {n lo lo' : Nat} {x y : Ar} {va vb : Value} {w0 w : World} (hx : ArIn (n + 1) lo w0 x va) (hy : ArIn (n + 1) lo' w0 y vb) (hb0 : Below w0.heap.size w0 w) (hcx : chkA 8 x = 0) (hcy : chkA 8 y = 0) (hcapx : Caps va) (hcapy : Caps vb) (hI : I64 (numR x).1) :
    Calls Try.prog 20 #[.int .i64 53, va, vb] w fun e w' => Gives2Z (n + 1) w0 (lookR y x).1 (lookR y x).2 w e w' := by
  obtain ⟨a1, c1, a2, c2, rfl, R, hc⟩ := hx.form
  obtain ⟨b1, d1, b2, d2, rfl, R', hc'⟩ := hy.form
  have I := in3_new w (.slice a1 x.shape.length c1) (.slice a2 x.cells.length c2) (.slice b1 y.shape.length d1) (.slice b2 y.cells.length d2)
  obtain ⟨W3, e3⟩ : ∃ W3, ((w.alloc (.cells #[.slice a1 x.shape.length c1, .slice a2 x.cells.length c2] 25)).alloc (.cells #[.slice b1 y.shape.length d1, .slice b2 y.cells.length d2] 25)).alloc (.cells #[.slice none 0 0, .slice none 0 0] 25) = W3 := ⟨_, rfl⟩
  rw [e3] at I
  have q0 := I.q0
  have q1 := I.q1
  have r0 := I.r0
  have r1 := I.r1
  have CK := rcheck_any (n + 1) x _ _ W3 (hx.next (hb0.trans (I.bel.mono hb0.size)))
  have HCK2 : Hid (∀ W, Below w0.heap.size w0 W → Calls Try.prog 16 #[.agg #[.slice b1 y.shape.length d1, .slice b2 y.cells.length d2]] W fun e w' => e = .returned (.int .i64 (chkA 8 y)) ∧ Below W.heap.size W w') := fun W h => rcheck_any (n + 1) y _ _ W (hy.next h)
  have HI := hide I
  have HB0 := hide hb0
  have HXY := hide (And.intro hx hy)
  have HCP := hide (And.intro hcapx hcapy)
  have HII := hide hI
  rw [hcx] at CK
  rw [hcy] at HCK2
  have HC : Hid (∀ W, Below w0.heap.size w0 W → Calls Try.prog 48 #[.agg #[.slice b1 y.shape.length d1, .slice b2 y.cells.length d2], .agg #[.slice a1 x.shape.length c1, .slice a2 x.cells.length c2]] W fun e w' => Gives2Z (n + 1) w0 (lookR y x).1 (lookR y x).2 W e w') := fun W h => rfrom_any hy hx h hcy hcx hcapx
  obtain ⟨⟨Y, EY⟩, hR⟩ : ∃ p, lookR y x = p := ⟨_, rfl⟩
  rw [hR] at HC ⊢
  simp only at HC ⊢
  clear hx hy R hc R' hc' I hb0 hcapx hcapy hR HXY HCP HII hI
  generalize x.shape.length = SX at *
  generalize x.cells.length = CX at *
  generalize y.shape.length = SY at *
  generalize y.cells.length = CY at *
  go_enter Try.func20, Try.ntmps20
  go_wp2_with fail
  clear e3
  refine CK.mono ?_
  clear CK q0 q1 r0 r1
  rintro e w1 ⟨rfl, hb1⟩
  have I1 := HI.out.next hb1
  have HI1 := hide I1
  have C2 := HCK2.out w1 (HB0.out.trans (I1.bel.mono HB0.out.size))
  have r0 := I1.r0
  have r1 := I1.r1
  clear hb1 HI I1 HCK2
  go_wp2_with fail
  refine C2.mono ?_
  clear C2 r0 r1
  rintro e w2 ⟨rfl, hb2⟩
  have I2 := HI1.out.next hb2
  have HI2 := hide I2
  have NB := HB0.out.trans (I2.bel.mono HB0.out.size)
  have HNB := hide NB
  have C := HC.out w2 NB
  have q0 := I2.q0
  have q1 := I2.q1
  have r0 := I2.r0
  have r1 := I2.r1
  clear hb2 HI1 I2 NB HC hcx hcy
  go_wp2_with fail
  refine C.mono ?_
  clear C q0 q1 r0 r1
  rintro e w4 ⟨⟨v, rfl, hv⟩, hb4⟩
  obtain ⟨z1, m1, z2, m2, rfl, -, -⟩ := (hv w4 (HNB.out.trans (hb4.mono HNB.out.size)) (Keeps.refl _ _)).form
  have I4 := HI2.out.next hb4
  have p0 := I4.p0
  have p1 := I4.p1
  have f0 := I4.f0
  have f1 := I4.f1
  have HT := hide (I4.put (.slice z1 Y.shape.length m1) (.slice z2 Y.cells.length m2))
  have hs2 := HI2.out.size
  have HF : Hid (∀ u v W, Below w0.heap.size w0 W → Keeps w.heap.size ((w4.setCell ⟨w.heap.size + 2, 0, none⟩ u).setCell ⟨w.heap.size + 2, 1, none⟩ v) W → ArIn (n + 1) 0 W Y (.agg #[.slice z1 Y.shape.length m1, .slice z2 Y.cells.length m2])) := by
    intro u v W hW hK
    exact hv W hW (((keeps_three w4 w.heap.size u v).trans (hK.mono (show w.heap.size ≤ w.heap.size + 3 by omega))).mono hs2)
  have HFI := hide I4.fin
  clear I4 hv hb4 HI2 hs2 HNB
  generalize Y.shape.length = YS at *
  generalize Y.cells.length = YC at *
  go_wp2
  exact bodyPost_ret (v := .tuple #[.agg #[.slice z1 YS m1, .slice z2 YC m2], .int .i64 EY]) (by simp [results, Try.results20, go_sem, HT.out.1, HT.out.2]) rfl ⟨⟨_, rfl, HF.out _ _⟩, HFI.out _ _⟩
set_option maxHeartbeats 4000000 in
theorem rdy_none {n lo lo' : Nat} {op : Int} {x y : Ar} {va vb : Value} {w0 w : World} (hop : ¬ (42 ≤ op ∧ op ≤ 47) ∧ ¬ (50 ≤ op ∧ op ≤ 53)) (hio : I64 op) (hx : ArIn (n + 1) lo w0 x va) (hy : ArIn (n + 1) lo' w0 y vb) (hb0 : Below w0.heap.size w0 w) (hcx : chkA 8 x = 0) (hcy : chkA 8 y = 0) (hcapx : Caps va) (hcapy : Caps vb) (hI : I64 (numR x).1) :
    Calls Try.prog 20 #[.int .i64 op, va, vb] w fun e w' => Gives2Z (n + 1) w0 zeroA 1 w e w' := by
  obtain ⟨a1, c1, a2, c2, rfl, R, hc⟩ := hx.form
  obtain ⟨b1, d1, b2, d2, rfl, R', hc'⟩ := hy.form
  have I := in3_new w (.slice a1 x.shape.length c1) (.slice a2 x.cells.length c2) (.slice b1 y.shape.length d1) (.slice b2 y.cells.length d2)
  obtain ⟨W3, e3⟩ : ∃ W3, ((w.alloc (.cells #[.slice a1 x.shape.length c1, .slice a2 x.cells.length c2] 25)).alloc (.cells #[.slice b1 y.shape.length d1, .slice b2 y.cells.length d2] 25)).alloc (.cells #[.slice none 0 0, .slice none 0 0] 25) = W3 := ⟨_, rfl⟩
  rw [e3] at I
  have q0 := I.q0
  have q1 := I.q1
  have r0 := I.r0
  have r1 := I.r1
  have CK := rcheck_any (n + 1) x _ _ W3 (hx.next (hb0.trans (I.bel.mono hb0.size)))
  have HCK2 : Hid (∀ W, Below w0.heap.size w0 W → Calls Try.prog 16 #[.agg #[.slice b1 y.shape.length d1, .slice b2 y.cells.length d2]] W fun e w' => e = .returned (.int .i64 (chkA 8 y)) ∧ Below W.heap.size W w') := fun W h => rcheck_any (n + 1) y _ _ W (hy.next h)
  have HI := hide I
  have HB0 := hide hb0
  have HXY := hide (And.intro hx hy)
  have HCP := hide (And.intro hcapx hcapy)
  have HII := hide hI
  rw [hcx] at CK
  rw [hcy] at HCK2
  clear hx hy R hc R' hc' I hb0 hcapx hcapy HXY HCP HII hI
  generalize x.shape.length = SX at *
  generalize x.cells.length = CX at *
  generalize y.shape.length = SY at *
  generalize y.cells.length = CY at *
  go_enter Try.func20, Try.ntmps20
  go_wp2_with fail
  clear e3
  refine CK.mono ?_
  clear CK q0 q1 r0 r1
  rintro e w1 ⟨rfl, hb1⟩
  have I1 := HI.out.next hb1
  have HI1 := hide I1
  have C2 := HCK2.out w1 (HB0.out.trans (I1.bel.mono HB0.out.size))
  have r0 := I1.r0
  have r1 := I1.r1
  clear hb1 HI I1 HCK2
  go_wp2_with fail
  refine C2.mono ?_
  clear C2 r0 r1
  rintro e w2 ⟨rfl, hb2⟩
  have I2 := HI1.out.next hb2
  have HI2 := hide I2
  have o46 : (op == 46) = false := beq_eq_false_iff_ne.2 (by omega)
  have o47 : (op == 47) = false := beq_eq_false_iff_ne.2 (by omega)
  have o52 : (op == 52) = false := beq_eq_false_iff_ne.2 (by omega)
  have o53 : (op == 53) = false := beq_eq_false_iff_ne.2 (by omega)
  have o50 : (op == 50) = false := beq_eq_false_iff_ne.2 (by omega)
  have o51 : (op == 51) = false := beq_eq_false_iff_ne.2 (by omega)
  clear hb2 HI1 I2
  have HT := hide (HI2.out.put (.slice none 0 0) (.slice none 0 0))
  have p0 := HI2.out.p0
  have p1 := HI2.out.p1
  have f0 := HI2.out.f0
  have f1 := HI2.out.f1
  have HF : Hid (∀ u v, Gives2Z (n + 1) w0 zeroA 1 w (.returned (.tuple #[.agg #[.slice none 0 0, .slice none 0 0], .int .i64 1])) ((w2.setCell ⟨w.heap.size + 2, 0, none⟩ u).setCell ⟨w.heap.size + 2, 1, none⟩ v)) := fun u v => gives2z_of (R := (zeroA, 1)) rfl (fun W _ _ => zeroA_in _ _ _) (HI2.out.fin u v)
  by_cases hlo : op < 42
  · clear hop
    go_wp2
    exact bodyPost_ret (v := .tuple #[.agg #[.slice none 0 0, .slice none 0 0], .int .i64 1]) (by simp [results, Try.results20, go_sem, HT.out.1, HT.out.2]) rfl (HF.out _ _)
  · have hhi : 45 < op := by omega
    clear hop
    go_wp2
    exact bodyPost_ret (v := .tuple #[.agg #[.slice none 0 0, .slice none 0 0], .int .i64 1]) (by simp [results, Try.results20, go_sem, HT.out.1, HT.out.2]) rfl (HF.out _ _)
end Go.Proofs.Ytmjncdhahdpplaa
