/-
  The contract of readName: the name that begins at a place, or that it is too long.
-/
import Derived.Test.YtblpapidgpmgfaaDoorLxI
namespace Go.Proofs.YtblpapidgpmgfaaDoor
open Go.ChangeShapes Go.WideShapes Go.ChangeAt Go.RowKit
open Rn (Byte)
set_option maxRecDepth 100000
set_option linter.unusedVariables false
set_option linter.unusedSimpArgs false
/-- A word in a place of its own. -/
structure Wd (W : World) (s : Nat) (k : Int) (t : ByteArray) (s2 s3 : Value) (a : Int) : Prop where
  lt : s < W.heap.size
  t0 : W.cell? ⟨s, 0, none⟩ = some (.int .i64 k)
  t1 : W.cell? ⟨s, 1, none⟩ = some (.string t)
  t2 : W.cell? ⟨s, 2, none⟩ = some s2
  t3 : W.cell? ⟨s, 3, none⟩ = some s3
  t4 : W.cell? ⟨s, 4, none⟩ = some (.int .i64 a)
  z : ∀ i, W.frozen? ⟨s, i, none⟩ = false
theorem Wd.next {W W' : World} {s B : Nat} {k : Int} {t : ByteArray} {s2 s3 : Value} {a : Int} (h : Wd W s k t s2 s3 a) (hb : Below B W W') (hB : s < B) : Wd W' s k t s2 s3 a := by
  obtain ⟨h0, a0, a1, a2, a3, a4, z⟩ := h
  have c : ∀ i v, W.cell? ⟨s, i, none⟩ = some v → W'.cell? ⟨s, i, none⟩ = some v := fun i v hv => (hb.cell (p := ⟨s, i, none⟩) hB).trans hv
  exact ⟨Nat.lt_of_lt_of_le h0 hb.size, c _ _ a0, c _ _ a1, c _ _ a2, c _ _ a3, c _ _ a4, fun i => (hb.frozen (p := ⟨s, i, none⟩) hB).trans (z i)⟩
theorem wd_new (w : World) (k : Int) (t : ByteArray) (s2 s3 : Value) (a : Int) : Wd (w.alloc (.cells #[.int .i64 k, .string t, s2, s3, .int .i64 a] 34)) w.heap.size k t s2 s3 a :=
  ⟨by simp, cell_new0 w _ 34 0 _ rfl, cell_new0 w _ 34 1 _ rfl, cell_new0 w _ 34 2 _ rfl, cell_new0 w _ 34 3 _ rfl, cell_new0 w _ 34 4 _ rfl, fun i => frozen_new w _ 34 i⟩
set_option maxHeartbeats 8000000 in
theorem readname26 {w : World} {b C L a : Nat} {B : List Int} (hT : Txt w b B) (hL : B.length = L) (hC : L ≤ C) (ha : a < L) :
    Calls Tryd.prog 26 #[.slice (some ⟨b, 0, none⟩) L C, .int .i64 (a : Int)] w fun e w' => GivesT (readM (B.drop a)) a w e w' := by
  have hlen := hT.len
  rw [hL] at hlen
  obtain ⟨W1, hW1⟩ : ∃ W1, (w.alloc (.cells #[.int .i64 0, .string ⟨#[]⟩, .slice none 0 0, .slice none 0 0, .int .i64 0] 34)).alloc (.cells #[.int .i64 0, .int .i64 0, .int .i64 0] 26) = W1 := ⟨_, rfl⟩
  have hb1 : Below w.heap.size w W1 := by rw [← hW1]; exact two_allocs _ _ _
  have R1 : Rs2 W1 w.heap.size := by rw [← hW1]; exact rs2_new w
  obtain ⟨E, hE⟩ : ∃ E, a + 1 + lead nmB (B.drop (a + 1)) = E := ⟨_, rfl⟩
  have hnk : namK (B.drop a) = E - a := by
    unfold namK
    rw [List.tail_drop]
    omega
  have hEL : E ≤ L := by
    have := lead_le nmB (B.drop (a + 1))
    rw [List.length_drop] at this
    omega
  have haE : a < E := by omega
  have hrm : readM (B.drop a) = if 8 < E - a then ⟨3, [], nilA, 0, 2, 0⟩ else ⟨3, (B.drop a).take (E - a), nilA, E - a, 0, 0⟩ := by unfold readM; rw [hnk]
  rw [hrm]
  generalize hRR : (if 8 < E - a then (⟨3, [], nilA, 0, 2, 0⟩ : Rd) else ⟨3, (B.drop a).take (E - a), nilA, E - a, 0, 0⟩) = RR at *
  have HRR := hide hRR
  have sl2 := fun W => part_lh (P := Tryd.prog) Tryd.underlying40 sz5 (some ⟨b, 0, none⟩) L C a E (a : Int) (E : Int) rfl rfl (by omega) (by omega) W
  rw [subA_at (by omega)] at sl2
  have HSTR := hide (fun W (h : Below w.heap.size w W) => by
    have hp := (hT.next h).part a C (by omega) (by omega) (E - a) (by omega)
    rw [subA_at (by omega)] at hp
    exact str_of (c := C - a) hp (by rw [List.length_take, List.length_drop]; omega))
  generalize hSS : strOfNums ((B.drop a).take (E - a)) = SS at *
  have HSS := hide hSS
  have HT : Hid (∀ W, Below w.heap.size w W → Txt W b B) := fun W h => hT.next h
  have HFA := hide (fun e W => fault15 e (a : Int) W)
  have HLT := hide (fun c W => letter25 c W)
  have HDG := hide (fun c W => digit32 c W)
  have HL := hide hL
  have HE := hide hE
  have HW1 := hide hW1
  have HB1 := hide hb1
  have HR1 := hide R1
  clear hSS hT hL hE hW1 hb1 R1 hrm hnk hRR
  go_enter Tryd.func26, Tryd.ntmps26
  go_wp2_with fail
  rw [HW1.out]
  go_loopg [7] (L - (a + 1)) (fun g i wr => ∃ j : Nat, g + j = L ∧ i = .int .i64 (j : Int) ∧ j + lead nmB (B.drop j) = E ∧ Below w.heap.size w wr ∧ Rs2 wr w.heap.size)
  case atStart => exact ⟨a + 1, by omega, by go_num, HE.out, HB1.out, HR1.out⟩
  case round =>
    clear HE HB1 HR1 HW1
    obtain ⟨j, hj, rfl, hjr, hnx, hrs⟩ := hrel
    have HJ := hide hjr
    have HRS := hide hrs
    clear hjr hrs
    by_cases hgo : j < L ∧ nmB (B[j]?.getD 0) = true
    · obtain ⟨hlt, hnm⟩ := hgo
      have hc := (HT.out _ hnx).cell j (by rw [HL.out]; exact hlt)
      have HST := hide (lead_step (p := nmB) (B := B) (a := j) (by rw [HL.out]; exact hlt))
      rw [hnm] at HST
      have HST' := hide (show lead nmB (B.drop j) = lead nmB (B.drop (j + 1)) + 1 from HST.out)
      generalize B[j]?.getD 0 = c at *
      have HLC := hide (fun W => HLT.out c W)
      have HDC := hide (fun W => HDG.out c W)
      clear HLT HDG HST HT HSTR HFA
      cases hlc : ltB c with
      | true =>
        rw [hlc] at HLC
        clear hnm hlc HDC
        go_wp2_with fail
        refine (HLC.out _).mono ?_
        rintro e w1 ⟨rfl, hw1⟩
        have hw2 := hw1.symm
        subst hw2
        go_wp2
        go_roundg (L - (j + 1))
        case rel => exact ⟨j + 1, by omega, by go_num, by have := HJ.out; have := HST'.out; omega, hnx, HRS.out⟩
        case measure => omega
      | false =>
        have hdc : dgB c = true := by simpa [nmB, hlc] using hnm
        rw [hlc] at HLC
        rw [hdc] at HDC
        clear hnm hlc hdc
        go_wp2_with fail
        refine (HLC.out _).mono ?_
        rintro e w1 ⟨rfl, hw1⟩
        have hw2 := hw1.symm
        subst hw2
        go_wp2_with fail
        refine (HDC.out _).mono ?_
        rintro e w1 ⟨rfl, hw1⟩
        have hw2 := hw1.symm
        subst hw2
        go_wp2
        go_roundg (L - (j + 1))
        case rel => exact ⟨j + 1, by omega, by go_num, by have := HJ.out; have := HST'.out; omega, hnx, HRS.out⟩
        case measure => omega
    · have h0 : lead nmB (B.drop j) = 0 := by
        by_cases hlt : j < L
        · rw [lead_step (by rw [HL.out]; exact hlt), if_neg (fun h => hgo ⟨hlt, h⟩)]
        · exact lead_end (by rw [HL.out]; omega)
      obtain rfl : j = E := lead_same HJ.out h0
      clear h0 HJ
      by_cases hlt : j < L
      · have hc := (HT.out _ hnx).cell j (by rw [HL.out]; exact hlt)
        have hnm : nmB (B[j]?.getD 0) = false := by
          cases hh : nmB (B[j]?.getD 0) with
          | false => rfl
          | true => exact absurd ⟨hlt, hh⟩ hgo
        generalize B[j]?.getD 0 = c at *
        have HLC := hide (fun W => HLT.out c W)
        have HDC := hide (fun W => HDG.out c W)
        have hlc : ltB c = false := by
          unfold nmB at hnm
          cases hh : ltB c with
          | false => rfl
          | true => rw [hh] at hnm; cases hnm
        have hdc : dgB c = false := by
          unfold nmB at hnm
          rw [hlc] at hnm
          exact hnm
        rw [hlc] at HLC
        rw [hdc] at HDC
        clear HLT HDG hnm hlc hdc hgo
        obtain ⟨W2, hW2⟩ : ∃ W2, wr.alloc (.cells #[.int .i64 3, .string ⟨#[]⟩, .slice none 0 0, .slice none 0 0, .int .i64 (a : Int)] 34) = W2 := ⟨_, rfl⟩
        have hba : Below wr.heap.size wr W2 := by rw [← hW2]; exact one_alloc _ _
        have HB2 := hide (hnx.trans (hba.mono hnx.size))
        have HR2 := hide (HRS.out.next hba HRS.out.lt)
        have HWD : Hid (Wd W2 wr.heap.size 3 ⟨#[]⟩ (.slice none 0 0) (.slice none 0 0) (a : Int)) := by rw [← hW2]; exact wd_new wr _ _ _ _ _
        have HW2 := hide hW2
        have HNE := hide (show w.heap.size + 1 < wr.heap.size from HRS.out.lt)
        clear hW2 hba HRS
        by_cases h8 : 8 < j - a
        · have HRE := hide (HRR.out.symm.trans (if_pos h8))
          have h8' : 8 < (j : Int) - (a : Int) := by omega
          clear HSTR HSS HT
          have HFA' : Hid (∀ W, Below W2.heap.size W2 W → Calls Tryd.prog 15 #[.int .i64 2, .int .i64 (a : Int)] W fun r w' => r = .returned (.agg #[.int .i64 2, .int .i64 (a : Int), .int .i64 0]) ∧ Below W2.heap.size W2 w') := fun W h => (HFA.out 2 W).mono fun e w' ⟨he, hw⟩ => ⟨he, h.trans (hw.mono h.size)⟩
          clear HFA
          go_wp2_with fail
          refine (HLC.out _).mono ?_
          rintro e w1 ⟨rfl, hw1⟩
          have hw2 := hw1.symm
          subst hw2
          go_wp2_with fail
          refine (HDC.out _).mono ?_
          rintro e w1 ⟨rfl, hw1⟩
          have hw2 := hw1.symm
          subst hw2
          clear HLC HDC
          go_upto_region 6 with fail
          rw [HW2.out]
          obtain ⟨wl, c0, c1, c2, c3, c4, cz⟩ := HWD.out
          obtain ⟨l0, a0, a1, a2, a3, a4, b0, b1, b2, z, y⟩ := HR2.out
          have HD0 : Hid (Below W2.heap.size W2 W2.drew) := (Below.refl _ _).drew
          have HRN : Hid (∀ W, Below W2.heap.size W2 W → Rs2 W w.heap.size ∧ Wd W wr.heap.size 3 ⟨#[]⟩ (.slice none 0 0) (.slice none 0 0) (a : Int)) := fun W h => ⟨HR2.out.next h HR2.out.lt, HWD.out.next h HWD.out.lt⟩
          go_region_with (go_at_call 15; refine (HFA'.out _ (by first | exact HD0.out | exact Below.refl _ _ | with_reducible assumption)).mono ?_; rintro e w3 ⟨rfl, hb3⟩; obtain ⟨⟨l5, d0, d1, d2, d3, d4, e0, e1, e2, z5, y5⟩, ⟨wl5, g0, g1, g2, g3, g4, gz⟩⟩ := HRN.out w3 hb3)
          all_goals
            have HP := hide (Rs2.put ⟨l5, d0, d1, d2, d3, d4, e0, e1, e2, z5, y5⟩ (.int .i64 3) (.string ⟨#[]⟩) (.slice none 0 0) (.slice none 0 0) (.int .i64 (a : Int)) (.int .i64 2) (.int .i64 (a : Int)) (.int .i64 0) rfl)
            have HB3 := hide (HB2.out.trans (hb3.mono HB2.out.size))
            clear hb3 HRN HFA' HD0 HWD HR2
            go_wp2
            obtain ⟨⟨r0, r1, r2, r3, r4, q0, q1, q2⟩, hbz, hkz⟩ := HP.out
            exact bodyPost_ret (v := .tuple #[.agg #[.int .i64 3, .string ⟨#[]⟩, .slice none 0 0, .slice none 0 0, .int .i64 (a : Int)], .int .i64 (j : Int), .agg #[.int .i64 2, .int .i64 (a : Int), .int .i64 0]]) (by simp [results, Tryd.results26, go_sem, r0, r1, r2, r3, r4, q0, q1, q2]) rfl (by rw [HRE.out]; exact givesT_of rfl rfl rfl rfl rfl (nilA_in _ _ _) (fun h => absurd h (by decide)) (fun _ => by simp) (HB3.out.trans ((hbz w.heap.size (Nat.le_refl _)).mono (Nat.le_refl _))))
        · have HRE := hide (HRR.out.symm.trans (if_neg h8))
          have h8' : ¬ 8 < (j : Int) - (a : Int) := by omega
          go_wp2_with fail
          refine (HLC.out _).mono ?_
          rintro e w1 ⟨rfl, hw1⟩
          have hw2 := hw1.symm
          subst hw2
          go_wp2_with fail
          refine (HDC.out _).mono ?_
          rintro e w1 ⟨rfl, hw1⟩
          have hw2 := hw1.symm
          subst hw2
          clear HLC HDC
          go_upto_region 7 with fail
          rw [HW2.out]
          have hstr := HSTR.out W2 HB2.out
          obtain ⟨wl, c0, c1, c2, c3, c4, cz⟩ := HWD.out
          obtain ⟨W3, hW3⟩ : ∃ W3, W2.setCell ⟨wr.heap.size, 1, none⟩ (.string SS) = W3 := ⟨_, rfl⟩
          have hbs : Below wr.heap.size W2 W3 := by rw [← hW3]; exact (Below.refl _ _).setCell (p := ⟨wr.heap.size, 1, none⟩) (Nat.le_refl _) _
          have HR3 := hide (HR2.out.next hbs HNE.out)
          have HB3 := hide (HB2.out.trans (hbs.mono hnx.size))
          have g0 : W3.cell? ⟨wr.heap.size, 0, none⟩ = some (.int .i64 3) := by rw [← hW3, World.cell?_setCell_other _ _ _ _ (by simp)]; exact c0
          have g1 : W3.cell? ⟨wr.heap.size, 1, none⟩ = some (.string SS) := by rw [← hW3]; exact World.cell?_setCell_same' _ _ _ (by rw [c1]; rfl)
          have g2 : W3.cell? ⟨wr.heap.size, 2, none⟩ = some (.slice none 0 0) := by rw [← hW3, World.cell?_setCell_other _ _ _ _ (by simp)]; exact c2
          have g3 : W3.cell? ⟨wr.heap.size, 3, none⟩ = some (.slice none 0 0) := by rw [← hW3, World.cell?_setCell_other _ _ _ _ (by simp)]; exact c3
          have g4 : W3.cell? ⟨wr.heap.size, 4, none⟩ = some (.int .i64 (a : Int)) := by rw [← hW3, World.cell?_setCell_other _ _ _ _ (by simp)]; exact c4
          obtain ⟨l5, d0, d1, d2, d3, d4, e0, e1, e2, z5, y5⟩ := HR3.out
          have HP := hide (Rs2.put ⟨l5, d0, d1, d2, d3, d4, e0, e1, e2, z5, y5⟩ (.int .i64 3) (.string SS) (.slice none 0 0) (.slice none 0 0) (.int .i64 (a : Int)) (.int .i64 0) (.int .i64 0) (.int .i64 0) rfl)
          clear HWD HR2 HR3 HFA HSTR HT hbs HB2
          go_wp2
          obtain ⟨⟨r0, r1, r2, r3, r4, q0, q1, q2⟩, hbz, hkz⟩ := HP.out
          exact bodyPost_ret (v := .tuple #[.agg #[.int .i64 3, .string SS, .slice none 0 0, .slice none 0 0, .int .i64 (a : Int)], .int .i64 (j : Int), .agg #[.int .i64 0, .int .i64 0, .int .i64 0]]) (by simp [results, Tryd.results26, go_sem, r0, r1, r2, r3, r4, q0, q1, q2]) rfl (by rw [HRE.out]; exact givesT_of rfl HSS.out rfl rfl rfl (nilA_in _ _ _) (fun _ => ⟨rfl, by show (j : Int) = ((a + (j - a) : Nat) : Int); omega, rfl⟩) (fun h => absurd rfl h) (HB3.out.trans ((hbz w.heap.size (Nat.le_refl _)).mono (Nat.le_refl _))))
      · have hje : j = L := by omega
        subst hje
        clear HLT HDG hgo
        obtain ⟨W2, hW2⟩ : ∃ W2, wr.alloc (.cells #[.int .i64 3, .string ⟨#[]⟩, .slice none 0 0, .slice none 0 0, .int .i64 (a : Int)] 34) = W2 := ⟨_, rfl⟩
        have hba : Below wr.heap.size wr W2 := by rw [← hW2]; exact one_alloc _ _
        have HB2 := hide (hnx.trans (hba.mono hnx.size))
        have HR2 := hide (HRS.out.next hba HRS.out.lt)
        have HWD : Hid (Wd W2 wr.heap.size 3 ⟨#[]⟩ (.slice none 0 0) (.slice none 0 0) (a : Int)) := by rw [← hW2]; exact wd_new wr _ _ _ _ _
        have HW2 := hide hW2
        have HNE := hide (show w.heap.size + 1 < wr.heap.size from HRS.out.lt)
        clear hW2 hba HRS
        by_cases h8 : 8 < j - a
        · have HRE := hide (HRR.out.symm.trans (if_pos h8))
          have h8' : 8 < (j : Int) - (a : Int) := by omega
          clear HSTR HSS HT
          have HFA' : Hid (∀ W, Below W2.heap.size W2 W → Calls Tryd.prog 15 #[.int .i64 2, .int .i64 (a : Int)] W fun r w' => r = .returned (.agg #[.int .i64 2, .int .i64 (a : Int), .int .i64 0]) ∧ Below W2.heap.size W2 w') := fun W h => (HFA.out 2 W).mono fun e w' ⟨he, hw⟩ => ⟨he, h.trans (hw.mono h.size)⟩
          clear HFA
          go_upto_region 6 with fail
          rw [HW2.out]
          obtain ⟨wl, c0, c1, c2, c3, c4, cz⟩ := HWD.out
          obtain ⟨l0, a0, a1, a2, a3, a4, b0, b1, b2, z, y⟩ := HR2.out
          have HD0 : Hid (Below W2.heap.size W2 W2.drew) := (Below.refl _ _).drew
          have HRN : Hid (∀ W, Below W2.heap.size W2 W → Rs2 W w.heap.size ∧ Wd W wr.heap.size 3 ⟨#[]⟩ (.slice none 0 0) (.slice none 0 0) (a : Int)) := fun W h => ⟨HR2.out.next h HR2.out.lt, HWD.out.next h HWD.out.lt⟩
          go_region_with (go_at_call 15; refine (HFA'.out _ (by first | exact HD0.out | exact Below.refl _ _ | with_reducible assumption)).mono ?_; rintro e w3 ⟨rfl, hb3⟩; obtain ⟨⟨l5, d0, d1, d2, d3, d4, e0, e1, e2, z5, y5⟩, ⟨wl5, g0, g1, g2, g3, g4, gz⟩⟩ := HRN.out w3 hb3)
          all_goals
            have HP := hide (Rs2.put ⟨l5, d0, d1, d2, d3, d4, e0, e1, e2, z5, y5⟩ (.int .i64 3) (.string ⟨#[]⟩) (.slice none 0 0) (.slice none 0 0) (.int .i64 (a : Int)) (.int .i64 2) (.int .i64 (a : Int)) (.int .i64 0) rfl)
            have HB3 := hide (HB2.out.trans (hb3.mono HB2.out.size))
            clear hb3 HRN HFA' HD0 HWD HR2
            go_wp2
            obtain ⟨⟨r0, r1, r2, r3, r4, q0, q1, q2⟩, hbz, hkz⟩ := HP.out
            exact bodyPost_ret (v := .tuple #[.agg #[.int .i64 3, .string ⟨#[]⟩, .slice none 0 0, .slice none 0 0, .int .i64 (a : Int)], .int .i64 (j : Int), .agg #[.int .i64 2, .int .i64 (a : Int), .int .i64 0]]) (by simp [results, Tryd.results26, go_sem, r0, r1, r2, r3, r4, q0, q1, q2]) rfl (by rw [HRE.out]; exact givesT_of rfl rfl rfl rfl rfl (nilA_in _ _ _) (fun h => absurd h (by decide)) (fun _ => by simp) (HB3.out.trans ((hbz w.heap.size (Nat.le_refl _)).mono (Nat.le_refl _))))
        · have HRE := hide (HRR.out.symm.trans (if_neg h8))
          have h8' : ¬ 8 < (j : Int) - (a : Int) := by omega
          go_upto_region 7 with fail
          rw [HW2.out]
          have hstr := HSTR.out W2 HB2.out
          obtain ⟨wl, c0, c1, c2, c3, c4, cz⟩ := HWD.out
          obtain ⟨W3, hW3⟩ : ∃ W3, W2.setCell ⟨wr.heap.size, 1, none⟩ (.string SS) = W3 := ⟨_, rfl⟩
          have hbs : Below wr.heap.size W2 W3 := by rw [← hW3]; exact (Below.refl _ _).setCell (p := ⟨wr.heap.size, 1, none⟩) (Nat.le_refl _) _
          have HR3 := hide (HR2.out.next hbs HNE.out)
          have HB3 := hide (HB2.out.trans (hbs.mono hnx.size))
          have g0 : W3.cell? ⟨wr.heap.size, 0, none⟩ = some (.int .i64 3) := by rw [← hW3, World.cell?_setCell_other _ _ _ _ (by simp)]; exact c0
          have g1 : W3.cell? ⟨wr.heap.size, 1, none⟩ = some (.string SS) := by rw [← hW3]; exact World.cell?_setCell_same' _ _ _ (by rw [c1]; rfl)
          have g2 : W3.cell? ⟨wr.heap.size, 2, none⟩ = some (.slice none 0 0) := by rw [← hW3, World.cell?_setCell_other _ _ _ _ (by simp)]; exact c2
          have g3 : W3.cell? ⟨wr.heap.size, 3, none⟩ = some (.slice none 0 0) := by rw [← hW3, World.cell?_setCell_other _ _ _ _ (by simp)]; exact c3
          have g4 : W3.cell? ⟨wr.heap.size, 4, none⟩ = some (.int .i64 (a : Int)) := by rw [← hW3, World.cell?_setCell_other _ _ _ _ (by simp)]; exact c4
          obtain ⟨l5, d0, d1, d2, d3, d4, e0, e1, e2, z5, y5⟩ := HR3.out
          have HP := hide (Rs2.put ⟨l5, d0, d1, d2, d3, d4, e0, e1, e2, z5, y5⟩ (.int .i64 3) (.string SS) (.slice none 0 0) (.slice none 0 0) (.int .i64 (a : Int)) (.int .i64 0) (.int .i64 0) (.int .i64 0) rfl)
          clear HWD HR2 HR3 HFA HSTR HT hbs HB2
          go_wp2
          obtain ⟨⟨r0, r1, r2, r3, r4, q0, q1, q2⟩, hbz, hkz⟩ := HP.out
          exact bodyPost_ret (v := .tuple #[.agg #[.int .i64 3, .string SS, .slice none 0 0, .slice none 0 0, .int .i64 (a : Int)], .int .i64 (j : Int), .agg #[.int .i64 0, .int .i64 0, .int .i64 0]]) (by simp [results, Tryd.results26, go_sem, r0, r1, r2, r3, r4, q0, q1, q2]) rfl (by rw [HRE.out]; exact givesT_of rfl HSS.out rfl rfl rfl (nilA_in _ _ _) (fun _ => ⟨rfl, by show (j : Int) = ((a + (j - a) : Nat) : Int); omega, rfl⟩) (fun h => absurd rfl h) (HB3.out.trans ((hbz w.heap.size (Nat.le_refl _)).mono (Nat.le_refl _))))
end Go.Proofs.YtblpapidgpmgfaaDoor
