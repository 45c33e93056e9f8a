/-
  The contract of layer 5's Mo, whole.
-/
import Derived.Test.YtmjncdhahdpplaaLyM
namespace Go.Proofs.Ytmjncdhahdpplaa
open Go.ChangeShapes Go.WideShapes Go.ChangeAt Go.RowKit
set_option linter.unusedVariables false
set_option maxRecDepth 100000
theorem field25 (a1 a2 : Option Addr) (n1 c1 n2 c2 : Nat) (W : World) : (Instr.field 25 (.agg #[.slice a1 n1 c1, .slice a2 n2 c2]) 1).run Try.prog W = .ok (.slice a2 n2 c2) W := by
  simp [Instr.field, run_underlying Try.underlying25, asAgg, part, sizeOf, typeInfo]
set_option maxHeartbeats 2000000 in
theorem mo_tally {n lo : Nat} {x : Ar} {va : Value} {w : World} (hx : ArIn (n + 1) lo w x va) (hchk : chkA 8 x = 0) : Calls Try.prog 13 #[.int .i64 7, va] w fun e w' => Gives2 (n + 2) w.heap.size (moR (n + 1) 7 x).1 (moR (n + 1) 7 x).2 w e w' := by
  obtain ⟨a1, c1, a2, c2, rfl, R, hc⟩ := hx.form
  have I := in2_new w (.slice a1 x.shape.length c1) (.slice a2 x.cells.length c2)
  obtain ⟨W2, e2⟩ : ∃ W2, (w.alloc (.cells #[.slice a1 x.shape.length c1, .slice a2 x.cells.length c2] 25)).alloc (.cells #[.slice none 0 0, .slice none 0 0] 25) = W2 := ⟨_, rfl⟩
  rw [e2] at I
  have q0 := I.q0
  have q1 := I.q1
  have hl := R.1
  have CK := check_any (n + 1) x _ _ W2 (hx.next I.bel)
  rw [hchk] at CK
  have HI := hide I
  have HX := hide (And.intro hx hchk)
  have HRC := hide (And.intro R hc)
  obtain ⟨l8, c16⟩ := chk_len hchk
  have HMO := hide (moR_ok (n := n + 1) (op := 7) hchk)
  obtain ⟨SA, hSA⟩ : ∃ SA, x.shape.length = SA := ⟨_, rfl⟩
  obtain ⟨CA, hCA⟩ : ∃ CA, x.cells.length = CA := ⟨_, rfl⟩
  have HSC := hide (And.intro hSA hCA)
  simp only [hSA, hCA] at CK e2 q0 q1 HI HX l8 c16 hl ⊢
  clear R hc I hx hchk hSA hCA
  go_enter Try.func13, Try.ntmps13
  go_wp2_with fail
  clear e2 q0 q1
  refine CK.mono ?_
  rintro e w1 ⟨rfl, hb1⟩
  have I1 := HI.out.next hb1
  have q0 := I1.q0
  have q1 := I1.q1
  have p0 := I1.p0
  have p1 := I1.p1
  have f0 := I1.f0
  have f1 := I1.f1
  have HI1 := hide I1
  have CT := tally_any (HX.out.1.next I1.bel)
  have HE : Hid (moR (n + 1) 7 x = (atomA (tallyN x), 0)) := by unfold Hid; rw [HMO.out]; simp
  clear I1 hb1 CK HI HX HRC HMO p0 p1 f0 f1
  go_wp2_with fail
  refine CT.mono ?_
  rintro e w2 ⟨rfl, hb2⟩
  have I2 := HI1.out.next hb2
  have CC := atom_any n (tallyN x) w2
  have HI2 := hide I2
  have hsz := I2.size
  clear I2 hb2 CT HI1 q0 q1
  go_wp2_with fail
  refine CC.mono ?_
  rintro e w3 ⟨⟨v, rfl, hv⟩, hb3⟩
  obtain ⟨z1, m1, z2, m2, rfl, -, -⟩ := hv.form
  have I3 := HI2.out.next hb3
  have p0 := I3.p0
  have p1 := I3.p1
  have f0 := I3.f0
  have f1 := I3.f1
  have HT := hide (I3.put (.slice z1 (atomA (tallyN x)).shape.length m1) (.slice z2 (atomA (tallyN x)).cells.length m2))
  have HF := hide (I3.give hv.deeper hsz)
  have HFI := hide I3.fin
  clear I3 hv hb3 CC HI2
  generalize (atomA (tallyN x)).shape.length = SB at *
  generalize (atomA (tallyN x)).cells.length = CB at *
  go_wp2
  exact bodyPost_ret (v := .tuple #[.agg #[.slice z1 SB m1, .slice z2 CB m2], .int .i64 0]) (by simp [results, Try.results13, go_sem, HT.out.1, HT.out.2]) rfl (gives2_of HE.out (HF.out _ _) (HFI.out _ _))
set_option maxHeartbeats 2000000 in
theorem mo_ravel {n lo : Nat} {x : Ar} {va : Value} {w : World} (hx : ArIn (n + 1) lo w x va) (hchk : chkA 8 x = 0) : Calls Try.prog 13 #[.int .i64 8, va] w fun e w' => Gives2 (n + 2) w.heap.size (moR (n + 1) 8 x).1 (moR (n + 1) 8 x).2 w e w' := by
  obtain ⟨a1, c1, a2, c2, rfl, R, hc⟩ := hx.form
  have I := in2_new w (.slice a1 x.shape.length c1) (.slice a2 x.cells.length c2)
  obtain ⟨W2, e2⟩ : ∃ W2, (w.alloc (.cells #[.slice a1 x.shape.length c1, .slice a2 x.cells.length c2] 25)).alloc (.cells #[.slice none 0 0, .slice none 0 0] 25) = W2 := ⟨_, rfl⟩
  rw [e2] at I
  have q0 := I.q0
  have q1 := I.q1
  have hl := R.1
  have CK := check_any (n + 1) x _ _ W2 (hx.next I.bel)
  rw [hchk] at CK
  have HI := hide I
  have HX := hide (And.intro hx hchk)
  have HRC := hide (And.intro R hc)
  obtain ⟨l8, c16⟩ := chk_len hchk
  have HMO := hide (moR_ok (n := n + 1) (op := 8) hchk)
  obtain ⟨SA, hSA⟩ : ∃ SA, x.shape.length = SA := ⟨_, rfl⟩
  obtain ⟨CA, hCA⟩ : ∃ CA, x.cells.length = CA := ⟨_, rfl⟩
  have HSC := hide (And.intro hSA hCA)
  simp only [hSA, hCA] at CK e2 q0 q1 HI HX l8 c16 hl ⊢
  clear R hc I hx hchk hSA hCA
  go_enter Try.func13, Try.ntmps13
  go_wp2_with fail
  clear e2 q0 q1
  refine CK.mono ?_
  rintro e w1 ⟨rfl, hb1⟩
  have I1 := HI.out.next hb1
  have q0 := I1.q0
  have q1 := I1.q1
  have p0 := I1.p0
  have p1 := I1.p1
  have f0 := I1.f0
  have f1 := I1.f1
  have HI1 := hide I1
  have HE : Hid (moR (n + 1) 8 x = (ravelR x, 0)) := by unfold Hid; rw [HMO.out]; simp
  have C : Hid (∀ W, In2 w (.slice a1 SA c1) (.slice a2 CA c2) W → Calls Try.prog 30 #[.agg #[.slice a1 SA c1, .slice a2 CA c2]] W fun e w' => (∃ z1 m1 z2 m2, e = .returned (.agg #[.slice z1 SA m1, .slice z2 CA m2]) ∧ CellsIn n W.heap.size w' x.cells z2) ∧ Below W.heap.size W w') := by
    intro W hW
    refine (copyA HX.out.2 (HX.out.1.next hW.bel)).mono ?_
    rintro e w' ⟨⟨v, rfl, hv⟩, hb⟩
    obtain ⟨z1, m1, z2, m2, rfl, -, hcs⟩ := hv.form
    rw [HSC.out.1, HSC.out.2]
    exact ⟨⟨_, _, _, _, rfl, hcs⟩, hb⟩
  have HAL := hide ((HI1.out.alloc (.cells #[.int .i64 (CA : Int)] 3)).drew)
  have HDR := hide HI1.out.drew
  have HFIN : Hid (∀ (W : World) (z2 : Option Addr) (b lo' k : Nat) (u v : Value), In2 w (.slice a1 SA c1) (.slice a2 CA c2) W → w.heap.size + 2 ≤ b → b < W.heap.size → W.cell? ⟨b, 0, none⟩ = some (.int .i64 (CA : Int)) → w.heap.size + 2 ≤ lo' → CellsIn n lo' W x.cells z2 → Gives2 (n + 2) w.heap.size (moR (n + 1) 8 x).1 (moR (n + 1) 8 x).2 w (.returned (.tuple #[.agg #[.slice (some ⟨b, 0, none⟩) 1 1, .slice z2 CA k], .int .i64 0])) ((W.setCell ⟨w.heap.size + 1, 0, none⟩ u).setCell ⟨w.heap.size + 1, 1, none⟩ v)) := by
    intro W z2 b lo' k u v hI h1 h2 h3 h4 h5
    have hA : ArIn (n + 1) (w.heap.size + 2) W (ravelR x) (.agg #[.slice (some ⟨b, 0, none⟩) 1 1, .slice z2 CA k]) := by
      refine arIn_mk (x := ravelR x) ?_ (by show x.cells.length ≤ _; rw [HSC.out.2]; omega) (h5.mono h4 (Below.refl _ _)) rfl HSC.out.2
      show Row _ _ _ [(x.cells.length : Int)]
      rw [HSC.out.2]
      exact row_one h2 h1 h3
    exact gives2_of HE.out (hI.give hA.deeper (Nat.le_refl _) u v) (hI.fin u v)
  have hz1 := I1.size
  have y0 := (HI1.out.alloc (.cells #[.int .i64 (CA : Int)] 3)).q0
  have y1 := (HI1.out.alloc (.cells #[.int .i64 (CA : Int)] 3)).q1
  clear I1 hb1 CK HI HX HRC HMO HI1
  have FL := field25
  go_wp2
  go_region_with (go_at_call 30; first
    | (refine (C.out _ HDR.out).mono ?_; rintro e w2 ⟨⟨z1, m1, z2, m2, rfl, hcs⟩, hb2⟩; have I2 := HDR.out.next hb2; have t0 := I2.p0; have t1 := I2.p1; have t2 := I2.f0; have t3 := I2.f1; have t4 := I2.q0; have t5 := I2.q1; have t6 := (I2.alloc (.cells #[.int .i64 (CA : Int)] 3)).p0; have t7 := (I2.alloc (.cells #[.int .i64 (CA : Int)] 3)).p1; have t8 := (I2.alloc (.cells #[.int .i64 (CA : Int)] 3)).f0; have t9 := (I2.alloc (.cells #[.int .i64 (CA : Int)] 3)).f1)
    | (refine (C.out _ HAL.out).mono ?_; rintro e w2 ⟨⟨z1, m1, z2, m2, rfl, hcs⟩, hb2⟩; have I2 := HAL.out.next hb2; have t0 := I2.p0; have t1 := I2.p1; have t2 := I2.f0; have t3 := I2.f1; have t4 := I2.q0; have t5 := I2.q1))
  all_goals
    first
      | (have hA : w2.cell? ⟨w1.heap.size, 0, none⟩ = some (.int .i64 (CA : Int)) := (hb2.cell (p := ⟨w1.heap.size, 0, none⟩) (by show w1.heap.size < (w1.alloc (.cells #[.int .i64 (CA : Int)] 3)).heap.size; simp)).trans (cell_new0 w1 _ 3 0 _ rfl)
         have HT := hide (I2.put (.slice (some ⟨w1.heap.size, 0, none⟩) 1 1) (.slice z2 CA m2))
         have HF := hide (HFIN.out w2 z2 w1.heap.size _ m2 (.slice (some ⟨w1.heap.size, 0, none⟩) 1 1) (.slice z2 CA m2) I2 hz1 (Nat.lt_of_lt_of_le (by show w1.heap.size < (w1.alloc (.cells #[.int .i64 (CA : Int)] 3)).heap.size; simp) hb2.size) hA (Nat.le_trans hz1 (by show w1.heap.size ≤ (w1.alloc (.cells #[.int .i64 (CA : Int)] 3)).heap.size; simp)) hcs)
         clear hcs hb2 I2 hA HFIN C HDR HAL
         go_wp2
         exact bodyPost_ret (v := .tuple #[.agg #[.slice (some ⟨w1.heap.size, 0, none⟩) 1 1, .slice z2 CA m2], .int .i64 0]) (by simp [results, Try.results13, go_sem, HT.out.1, HT.out.2]) rfl HF.out)
      | (have I3 := I2.alloc (.cells #[.int .i64 (CA : Int)] 3)
         have hsz2 : w1.heap.size ≤ w2.heap.size := hb2.size
         have HT := hide (I3.put (.slice (some ⟨w2.heap.size, 0, none⟩) 1 1) (.slice z2 CA m2))
         have HF := hide (HFIN.out _ z2 w2.heap.size _ m2 (.slice (some ⟨w2.heap.size, 0, none⟩) 1 1) (.slice z2 CA m2) I3 (by omega) (by simp) (cell_new0 w2 _ 3 0 _ rfl) hz1 (hcs.mono (Nat.le_refl _) (one_alloc _ _)))
         clear hcs hb2 I2 I3 HFIN C HDR HAL
         go_wp2
         exact bodyPost_ret (v := .tuple #[.agg #[.slice (some ⟨w2.heap.size, 0, none⟩) 1 1, .slice z2 CA m2], .int .i64 0]) (by simp [results, Try.results13, go_sem, HT.out.1, HT.out.2]) rfl HF.out)
set_option maxHeartbeats 2000000 in
theorem mo_bad {n lo : Nat} {x : Ar} {va : Value} {w : World} (hx : ArIn (n + 1) lo w x va) (hchk : ¬ chkA 8 x = 0) (op : Int) : Calls Try.prog 13 #[.int .i64 op, va] w fun e w' => Gives2 (n + 2) w.heap.size (moR (n + 1) op x).1 (moR (n + 1) op x).2 w e w' := by
  obtain ⟨a1, c1, a2, c2, rfl, R, hc⟩ := hx.form
  have I := in2_new w (.slice a1 x.shape.length c1) (.slice a2 x.cells.length c2)
  obtain ⟨W2, e2⟩ : ∃ W2, (w.alloc (.cells #[.slice a1 x.shape.length c1, .slice a2 x.cells.length c2] 25)).alloc (.cells #[.slice none 0 0, .slice none 0 0] 25) = W2 := ⟨_, rfl⟩
  rw [e2] at I
  have q0 := I.q0
  have q1 := I.q1
  have CK := check_any (n + 1) x _ _ W2 (hx.next I.bel)
  have HI := hide I
  have HE : Hid (moR (n + 1) op x = (zeroA, chkA 8 x)) := by unfold moR Hid; rw [if_pos hchk]
  generalize chkA 8 x = E at *
  generalize x.shape.length = SA at *
  generalize x.cells.length = CA at *
  clear R hc I hx
  go_enter Try.func13, Try.ntmps13
  go_wp2_with fail
  clear e2 q0 q1
  refine CK.mono ?_
  rintro e w1 ⟨rfl, hb1⟩
  have I1 := HI.out.next hb1
  have p0 := I1.p0
  have p1 := I1.p1
  have f0 := I1.f0
  have f1 := I1.f1
  have HT := hide (I1.put (.slice none 0 0) (.slice none 0 0))
  have HFI := hide I1.fin
  have hne : (E == 0) = false := beq_eq_false_iff_ne.2 hchk
  clear I1 hb1 CK HI
  go_wp2
  exact bodyPost_ret (v := .tuple #[.agg #[.slice none 0 0, .slice none 0 0], .int .i64 E]) (by simp [results, Try.results13, go_sem, HT.out.1, HT.out.2]) rfl (gives2_of HE.out (zeroA_in _ _ _) (HFI.out _ _))
set_option maxHeartbeats 2000000 in
theorem mo_none {n lo : Nat} {x : Ar} {va : Value} {w : World} (hx : ArIn (n + 1) lo w x va) (hchk : chkA 8 x = 0) (op : Int) (hop : op ≠ 5 ∧ op ≠ 6 ∧ op ≠ 7 ∧ op ≠ 8 ∧ op ≠ 9 ∧ op ≠ 10 ∧ op ≠ 11 ∧ op ≠ 15 ∧ op ≠ 16 ∧ op ≠ 17 ∧ op ≠ 18) : Calls Try.prog 13 #[.int .i64 op, va] w fun e w' => Gives2 (n + 2) w.heap.size (moR (n + 1) op x).1 (moR (n + 1) op x).2 w e w' := by
  obtain ⟨h5, h6, h7, h8, h9, h10, h11, h15, h16, h17, h18⟩ := hop
  obtain ⟨a1, c1, a2, c2, rfl, R, hc⟩ := hx.form
  have I := in2_new w (.slice a1 x.shape.length c1) (.slice a2 x.cells.length c2)
  obtain ⟨W2, e2⟩ : ∃ W2, (w.alloc (.cells #[.slice a1 x.shape.length c1, .slice a2 x.cells.length c2] 25)).alloc (.cells #[.slice none 0 0, .slice none 0 0] 25) = W2 := ⟨_, rfl⟩
  rw [e2] at I
  have q0 := I.q0
  have q1 := I.q1
  have CK := check_any (n + 1) x _ _ W2 (hx.next I.bel)
  rw [hchk] at CK
  have HI := hide I
  have HE : Hid (moR (n + 1) op x = (zeroA, 1)) := by unfold Hid; rw [moR_ok hchk, if_neg h5, if_neg h6, if_neg h7, if_neg h8, if_neg h9, if_neg h10, if_neg h11, if_neg h15, if_neg h16, if_neg h17, if_neg h18]
  generalize x.shape.length = SA at *
  generalize x.cells.length = CA at *
  have k5 : (op == 5) = false := beq_eq_false_iff_ne.2 h5
  have k6 : (op == 6) = false := beq_eq_false_iff_ne.2 h6
  have k7 : (op == 7) = false := beq_eq_false_iff_ne.2 h7
  have k8 : (op == 8) = false := beq_eq_false_iff_ne.2 h8
  have k9 : (op == 9) = false := beq_eq_false_iff_ne.2 h9
  have k10 : (op == 10) = false := beq_eq_false_iff_ne.2 h10
  have k11 : (op == 11) = false := beq_eq_false_iff_ne.2 h11
  have k15 : (op == 15) = false := beq_eq_false_iff_ne.2 h15
  have k16 : (op == 16) = false := beq_eq_false_iff_ne.2 h16
  have k17 : (op == 17) = false := beq_eq_false_iff_ne.2 h17
  have k18 : (op == 18) = false := beq_eq_false_iff_ne.2 h18
  clear R hc I hx hchk
  go_enter Try.func13, Try.ntmps13
  go_wp2_with fail
  clear e2 q0 q1
  refine CK.mono ?_
  rintro e w1 ⟨rfl, hb1⟩
  have I1 := HI.out.next hb1
  have p0 := I1.p0
  have p1 := I1.p1
  have f0 := I1.f0
  have f1 := I1.f1
  have HT := hide (I1.put (.slice none 0 0) (.slice none 0 0))
  have HFI := hide I1.fin
  clear I1 hb1 CK HI
  go_wp2
  exact bodyPost_ret (v := .tuple #[.agg #[.slice none 0 0, .slice none 0 0], .int .i64 1]) (by simp [results, Try.results13, go_sem, HT.out.1, HT.out.2]) rfl (gives2_of HE.out (zeroA_in _ _ _) (HFI.out _ _))
/-- Mo, for all arrays; for First the slices' rows must be no shorter than the slices. -/
theorem mo_any {n lo : Nat} {x : Ar} {va : Value} {w : World} (hx : ArIn (n + 1) lo w x va) (op : Int) (hcap : op = 17 → Caps va) : Calls Try.prog 13 #[.int .i64 op, va] w fun e w' => Gives2 (n + 2) w.heap.size (moR (n + 1) op x).1 (moR (n + 1) op x).2 w e w' := by
  by_cases hchk : chkA 8 x = 0
  · by_cases h5 : op = 5
    · subst h5; exact mo_iota hx hchk
    by_cases h6 : op = 6
    · subst h6; exact mo_shape hx hchk
    by_cases h7 : op = 7
    · subst h7; exact mo_tally hx hchk
    by_cases h8 : op = 8
    · subst h8; exact mo_ravel hx hchk
    by_cases h9 : op = 9
    · subst h9; exact mo_revF hx hchk
    by_cases h10 : op = 10
    · subst h10; exact mo_revL hx hchk
    by_cases h11 : op = 11
    · subst h11; exact mo_flip hx hchk
    by_cases h15 : op = 15
    · subst h15; exact mo_encl hx hchk
    by_cases h16 : op = 16
    · subst h16; exact mo_disc hx hchk
    by_cases h17 : op = 17
    · have hc := hcap h17
      subst h17
      exact mo_first hx hchk hc
    by_cases h18 : op = 18
    · subst h18; exact mo_list hx hchk
    exact mo_none hx hchk op ⟨h5, h6, h7, h8, h9, h10, h11, h15, h16, h17, h18⟩
  · exact mo_bad hx hchk op
end Go.Proofs.Ytmjncdhahdpplaa
