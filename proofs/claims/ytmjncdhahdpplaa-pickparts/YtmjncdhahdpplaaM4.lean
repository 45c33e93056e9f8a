/-
  The contract of layer 5's Mo, whole.
  The contracts of layer 5's shapeOf and copyCell.
  The contract of layer 5's copyCell.
  The contract of layer 5's Reshape: any array laid in any shape.
  The contract of layer 3's Text; and what the document's Nums and Text rest on: a row of cells put together by append.
  The contracts of the document's Nums and Text: numbers and signs as arrays, put together by append; at most 16384 numbers.
  The statements' own works and light.
  An array that came in has slices that are no longer than their rows.
-/
import Derived.Test.YtmjncdhahdpplaaM3
import Derived.Test.YtmjncdhahdpplaaM1
import Derived.Deep.RegionLaw
import Derived.Deep.RegionHeld3
import Derived.Test.YtmjncdhahdpplaaM2
namespace Go.Proofs.Ytmjncdhahdpplaa
open Go.ChangeShapes Go.WideShapes Go.ChangeAt Go.RowKit
set_option linter.unusedVariables false
set_option maxRecDepth 100000
theorem field25 (a1 a2 : Option Addr) (n1 c1 n2 c2 : Nat) (W : World) : (Instr.field 25 (.agg #[.slice a1 n1 c1, .slice a2 n2 c2]) 1).run Try.prog W = .ok (.slice a2 n2 c2) W := by
  simp [Instr.field, run_underlying Try.underlying25, asAgg, part, sizeOf, typeInfo]
set_option maxHeartbeats 2000000 in
theorem mo_tally {n lo : Nat} {x : Ar} {va : Value} {w : World} (hx : ArIn (n + 1) lo w x va) (hchk : chkA 8 x = 0) : Calls Try.prog 13 #[.int .i64 7, va] w fun e w' => Gives2 (n + 2) w.heap.size (moR (n + 1) 7 x).1 (moR (n + 1) 7 x).2 w e w' := by
  obtain ⟨a1, c1, a2, c2, rfl, R, hc⟩ := hx.form
  have I := in2_new w (.slice a1 x.shape.length c1) (.slice a2 x.cells.length c2)
  obtain ⟨W2, e2⟩ : ∃ W2, (w.alloc (.cells #[.slice a1 x.shape.length c1, .slice a2 x.cells.length c2] 25)).alloc (.cells #[.slice none 0 0, .slice none 0 0] 25) = W2 := ⟨_, rfl⟩
  rw [e2] at I
  have q0 := I.q0
  have q1 := I.q1
  have hl := R.1
  have CK := check_any (n + 1) x _ _ W2 (hx.next I.bel)
  rw [hchk] at CK
  have HI := hide I
  have HX := hide (And.intro hx hchk)
  have HRC := hide (And.intro R hc)
  obtain ⟨l8, c16⟩ := chk_len hchk
  have HMO := hide (moR_ok (n := n + 1) (op := 7) hchk)
  obtain ⟨SA, hSA⟩ : ∃ SA, x.shape.length = SA := ⟨_, rfl⟩
  obtain ⟨CA, hCA⟩ : ∃ CA, x.cells.length = CA := ⟨_, rfl⟩
  have HSC := hide (And.intro hSA hCA)
  simp only [hSA, hCA] at CK e2 q0 q1 HI HX l8 c16 hl ⊢
  clear R hc I hx hchk hSA hCA
  go_enter Try.func13, Try.ntmps13
  go_wp2_with fail
  clear e2 q0 q1
  refine CK.mono ?_
  rintro e w1 ⟨rfl, hb1⟩
  have I1 := HI.out.next hb1
  have q0 := I1.q0
  have q1 := I1.q1
  have p0 := I1.p0
  have p1 := I1.p1
  have f0 := I1.f0
  have f1 := I1.f1
  have HI1 := hide I1
  have CT := tally_any (HX.out.1.next I1.bel)
  have HE : Hid (moR (n + 1) 7 x = (atomA (tallyN x), 0)) := by unfold Hid; rw [HMO.out]; simp
  clear I1 hb1 CK HI HX HRC HMO p0 p1 f0 f1
  go_wp2_with fail
  refine CT.mono ?_
  rintro e w2 ⟨rfl, hb2⟩
  have I2 := HI1.out.next hb2
  have CC := atom_any n (tallyN x) w2
  have HI2 := hide I2
  have hsz := I2.size
  clear I2 hb2 CT HI1 q0 q1
  go_wp2_with fail
  refine CC.mono ?_
  rintro e w3 ⟨⟨v, rfl, hv⟩, hb3⟩
  obtain ⟨z1, m1, z2, m2, rfl, -, -⟩ := hv.form
  have I3 := HI2.out.next hb3
  have p0 := I3.p0
  have p1 := I3.p1
  have f0 := I3.f0
  have f1 := I3.f1
  have HT := hide (I3.put (.slice z1 (atomA (tallyN x)).shape.length m1) (.slice z2 (atomA (tallyN x)).cells.length m2))
  have HF := hide (I3.give hv.deeper hsz)
  have HFI := hide I3.fin
  clear I3 hv hb3 CC HI2
  generalize (atomA (tallyN x)).shape.length = SB at *
  generalize (atomA (tallyN x)).cells.length = CB at *
  go_wp2
  exact bodyPost_ret (v := .tuple #[.agg #[.slice z1 SB m1, .slice z2 CB m2], .int .i64 0]) (by simp [results, Try.results13, go_sem, HT.out.1, HT.out.2]) rfl (gives2_of HE.out (HF.out _ _) (HFI.out _ _))
set_option maxHeartbeats 2000000 in
theorem mo_ravel {n lo : Nat} {x : Ar} {va : Value} {w : World} (hx : ArIn (n + 1) lo w x va) (hchk : chkA 8 x = 0) : Calls Try.prog 13 #[.int .i64 8, va] w fun e w' => Gives2 (n + 2) w.heap.size (moR (n + 1) 8 x).1 (moR (n + 1) 8 x).2 w e w' := by
  obtain ⟨a1, c1, a2, c2, rfl, R, hc⟩ := hx.form
  have I := in2_new w (.slice a1 x.shape.length c1) (.slice a2 x.cells.length c2)
  obtain ⟨W2, e2⟩ : ∃ W2, (w.alloc (.cells #[.slice a1 x.shape.length c1, .slice a2 x.cells.length c2] 25)).alloc (.cells #[.slice none 0 0, .slice none 0 0] 25) = W2 := ⟨_, rfl⟩
  rw [e2] at I
  have q0 := I.q0
  have q1 := I.q1
  have hl := R.1
  have CK := check_any (n + 1) x _ _ W2 (hx.next I.bel)
  rw [hchk] at CK
  have HI := hide I
  have HX := hide (And.intro hx hchk)
  have HRC := hide (And.intro R hc)
  obtain ⟨l8, c16⟩ := chk_len hchk
  have HMO := hide (moR_ok (n := n + 1) (op := 8) hchk)
  obtain ⟨SA, hSA⟩ : ∃ SA, x.shape.length = SA := ⟨_, rfl⟩
  obtain ⟨CA, hCA⟩ : ∃ CA, x.cells.length = CA := ⟨_, rfl⟩
  have HSC := hide (And.intro hSA hCA)
  simp only [hSA, hCA] at CK e2 q0 q1 HI HX l8 c16 hl ⊢
  clear R hc I hx hchk hSA hCA
  go_enter Try.func13, Try.ntmps13
  go_wp2_with fail
  clear e2 q0 q1
  refine CK.mono ?_
  rintro e w1 ⟨rfl, hb1⟩
  have I1 := HI.out.next hb1
  have q0 := I1.q0
  have q1 := I1.q1
  have p0 := I1.p0
  have p1 := I1.p1
  have f0 := I1.f0
  have f1 := I1.f1
  have HI1 := hide I1
  have HE : Hid (moR (n + 1) 8 x = (ravelR x, 0)) := by unfold Hid; rw [HMO.out]; simp
  have C : Hid (∀ W, In2 w (.slice a1 SA c1) (.slice a2 CA c2) W → Calls Try.prog 30 #[.agg #[.slice a1 SA c1, .slice a2 CA c2]] W fun e w' => (∃ z1 m1 z2 m2, e = .returned (.agg #[.slice z1 SA m1, .slice z2 CA m2]) ∧ CellsIn n W.heap.size w' x.cells z2) ∧ Below W.heap.size W w') := by
    intro W hW
    refine (copyA HX.out.2 (HX.out.1.next hW.bel)).mono ?_
    rintro e w' ⟨⟨v, rfl, hv⟩, hb⟩
    obtain ⟨z1, m1, z2, m2, rfl, -, hcs⟩ := hv.form
    rw [HSC.out.1, HSC.out.2]
    exact ⟨⟨_, _, _, _, rfl, hcs⟩, hb⟩
  have HAL := hide ((HI1.out.alloc (.cells #[.int .i64 (CA : Int)] 3)).drew)
  have HDR := hide HI1.out.drew
  have HFIN : Hid (∀ (W : World) (z2 : Option Addr) (b lo' k : Nat) (u v : Value), In2 w (.slice a1 SA c1) (.slice a2 CA c2) W → w.heap.size + 2 ≤ b → b < W.heap.size → W.cell? ⟨b, 0, none⟩ = some (.int .i64 (CA : Int)) → w.heap.size + 2 ≤ lo' → CellsIn n lo' W x.cells z2 → Gives2 (n + 2) w.heap.size (moR (n + 1) 8 x).1 (moR (n + 1) 8 x).2 w (.returned (.tuple #[.agg #[.slice (some ⟨b, 0, none⟩) 1 1, .slice z2 CA k], .int .i64 0])) ((W.setCell ⟨w.heap.size + 1, 0, none⟩ u).setCell ⟨w.heap.size + 1, 1, none⟩ v)) := by
    intro W z2 b lo' k u v hI h1 h2 h3 h4 h5
    have hA : ArIn (n + 1) (w.heap.size + 2) W (ravelR x) (.agg #[.slice (some ⟨b, 0, none⟩) 1 1, .slice z2 CA k]) := by
      refine arIn_mk (x := ravelR x) ?_ (by show x.cells.length ≤ _; rw [HSC.out.2]; omega) (h5.mono h4 (Below.refl _ _)) rfl HSC.out.2
      show Row _ _ _ [(x.cells.length : Int)]
      rw [HSC.out.2]
      exact row_one h2 h1 h3
    exact gives2_of HE.out (hI.give hA.deeper (Nat.le_refl _) u v) (hI.fin u v)
  have hz1 := I1.size
  have y0 := (HI1.out.alloc (.cells #[.int .i64 (CA : Int)] 3)).q0
  have y1 := (HI1.out.alloc (.cells #[.int .i64 (CA : Int)] 3)).q1
  clear I1 hb1 CK HI HX HRC HMO HI1
  have FL := field25
  go_wp2
  go_region_with (go_at_call 30; first
    | (refine (C.out _ HDR.out).mono ?_; rintro e w2 ⟨⟨z1, m1, z2, m2, rfl, hcs⟩, hb2⟩; have I2 := HDR.out.next hb2; have t0 := I2.p0; have t1 := I2.p1; have t2 := I2.f0; have t3 := I2.f1; have t4 := I2.q0; have t5 := I2.q1; have t6 := (I2.alloc (.cells #[.int .i64 (CA : Int)] 3)).p0; have t7 := (I2.alloc (.cells #[.int .i64 (CA : Int)] 3)).p1; have t8 := (I2.alloc (.cells #[.int .i64 (CA : Int)] 3)).f0; have t9 := (I2.alloc (.cells #[.int .i64 (CA : Int)] 3)).f1)
    | (refine (C.out _ HAL.out).mono ?_; rintro e w2 ⟨⟨z1, m1, z2, m2, rfl, hcs⟩, hb2⟩; have I2 := HAL.out.next hb2; have t0 := I2.p0; have t1 := I2.p1; have t2 := I2.f0; have t3 := I2.f1; have t4 := I2.q0; have t5 := I2.q1))
  all_goals
    first
      | (have hA : w2.cell? ⟨w1.heap.size, 0, none⟩ = some (.int .i64 (CA : Int)) := (hb2.cell (p := ⟨w1.heap.size, 0, none⟩) (by show w1.heap.size < (w1.alloc (.cells #[.int .i64 (CA : Int)] 3)).heap.size; simp)).trans (cell_new0 w1 _ 3 0 _ rfl)
         have HT := hide (I2.put (.slice (some ⟨w1.heap.size, 0, none⟩) 1 1) (.slice z2 CA m2))
         have HF := hide (HFIN.out w2 z2 w1.heap.size _ m2 (.slice (some ⟨w1.heap.size, 0, none⟩) 1 1) (.slice z2 CA m2) I2 hz1 (Nat.lt_of_lt_of_le (by show w1.heap.size < (w1.alloc (.cells #[.int .i64 (CA : Int)] 3)).heap.size; simp) hb2.size) hA (Nat.le_trans hz1 (by show w1.heap.size ≤ (w1.alloc (.cells #[.int .i64 (CA : Int)] 3)).heap.size; simp)) hcs)
         clear hcs hb2 I2 hA HFIN C HDR HAL
         go_wp2
         exact bodyPost_ret (v := .tuple #[.agg #[.slice (some ⟨w1.heap.size, 0, none⟩) 1 1, .slice z2 CA m2], .int .i64 0]) (by simp [results, Try.results13, go_sem, HT.out.1, HT.out.2]) rfl HF.out)
      | (have I3 := I2.alloc (.cells #[.int .i64 (CA : Int)] 3)
         have hsz2 : w1.heap.size ≤ w2.heap.size := hb2.size
         have HT := hide (I3.put (.slice (some ⟨w2.heap.size, 0, none⟩) 1 1) (.slice z2 CA m2))
         have HF := hide (HFIN.out _ z2 w2.heap.size _ m2 (.slice (some ⟨w2.heap.size, 0, none⟩) 1 1) (.slice z2 CA m2) I3 (by omega) (by simp) (cell_new0 w2 _ 3 0 _ rfl) hz1 (hcs.mono (Nat.le_refl _) (one_alloc _ _)))
         clear hcs hb2 I2 I3 HFIN C HDR HAL
         go_wp2
         exact bodyPost_ret (v := .tuple #[.agg #[.slice (some ⟨w2.heap.size, 0, none⟩) 1 1, .slice z2 CA m2], .int .i64 0]) (by simp [results, Try.results13, go_sem, HT.out.1, HT.out.2]) rfl HF.out)
set_option maxHeartbeats 2000000 in
theorem mo_bad {n lo : Nat} {x : Ar} {va : Value} {w : World} (hx : ArIn (n + 1) lo w x va) (hchk : ¬ chkA 8 x = 0) (op : Int) : Calls Try.prog 13 #[.int .i64 op, va] w fun e w' => Gives2 (n + 2) w.heap.size (moR (n + 1) op x).1 (moR (n + 1) op x).2 w e w' := by
  obtain ⟨a1, c1, a2, c2, rfl, R, hc⟩ := hx.form
  have I := in2_new w (.slice a1 x.shape.length c1) (.slice a2 x.cells.length c2)
  obtain ⟨W2, e2⟩ : ∃ W2, (w.alloc (.cells #[.slice a1 x.shape.length c1, .slice a2 x.cells.length c2] 25)).alloc (.cells #[.slice none 0 0, .slice none 0 0] 25) = W2 := ⟨_, rfl⟩
  rw [e2] at I
  have q0 := I.q0
  have q1 := I.q1
  have CK := check_any (n + 1) x _ _ W2 (hx.next I.bel)
  have HI := hide I
  have HE : Hid (moR (n + 1) op x = (zeroA, chkA 8 x)) := by unfold moR Hid; rw [if_pos hchk]
  generalize chkA 8 x = E at *
  generalize x.shape.length = SA at *
  generalize x.cells.length = CA at *
  clear R hc I hx
  go_enter Try.func13, Try.ntmps13
  go_wp2_with fail
  clear e2 q0 q1
  refine CK.mono ?_
  rintro e w1 ⟨rfl, hb1⟩
  have I1 := HI.out.next hb1
  have p0 := I1.p0
  have p1 := I1.p1
  have f0 := I1.f0
  have f1 := I1.f1
  have HT := hide (I1.put (.slice none 0 0) (.slice none 0 0))
  have HFI := hide I1.fin
  have hne : (E == 0) = false := beq_eq_false_iff_ne.2 hchk
  clear I1 hb1 CK HI
  go_wp2
  exact bodyPost_ret (v := .tuple #[.agg #[.slice none 0 0, .slice none 0 0], .int .i64 E]) (by simp [results, Try.results13, go_sem, HT.out.1, HT.out.2]) rfl (gives2_of HE.out (zeroA_in _ _ _) (HFI.out _ _))
set_option maxHeartbeats 2000000 in
theorem mo_none {n lo : Nat} {x : Ar} {va : Value} {w : World} (hx : ArIn (n + 1) lo w x va) (hchk : chkA 8 x = 0) (op : Int) (hop : op ≠ 5 ∧ op ≠ 6 ∧ op ≠ 7 ∧ op ≠ 8 ∧ op ≠ 9 ∧ op ≠ 10 ∧ op ≠ 11 ∧ op ≠ 15 ∧ op ≠ 16 ∧ op ≠ 17 ∧ op ≠ 18) : Calls Try.prog 13 #[.int .i64 op, va] w fun e w' => Gives2 (n + 2) w.heap.size (moR (n + 1) op x).1 (moR (n + 1) op x).2 w e w' := by
  obtain ⟨h5, h6, h7, h8, h9, h10, h11, h15, h16, h17, h18⟩ := hop
  obtain ⟨a1, c1, a2, c2, rfl, R, hc⟩ := hx.form
  have I := in2_new w (.slice a1 x.shape.length c1) (.slice a2 x.cells.length c2)
  obtain ⟨W2, e2⟩ : ∃ W2, (w.alloc (.cells #[.slice a1 x.shape.length c1, .slice a2 x.cells.length c2] 25)).alloc (.cells #[.slice none 0 0, .slice none 0 0] 25) = W2 := ⟨_, rfl⟩
  rw [e2] at I
  have q0 := I.q0
  have q1 := I.q1
  have CK := check_any (n + 1) x _ _ W2 (hx.next I.bel)
  rw [hchk] at CK
  have HI := hide I
  have HE : Hid (moR (n + 1) op x = (zeroA, 1)) := by unfold Hid; rw [moR_ok hchk, if_neg h5, if_neg h6, if_neg h7, if_neg h8, if_neg h9, if_neg h10, if_neg h11, if_neg h15, if_neg h16, if_neg h17, if_neg h18]
  generalize x.shape.length = SA at *
  generalize x.cells.length = CA at *
  have k5 : (op == 5) = false := beq_eq_false_iff_ne.2 h5
  have k6 : (op == 6) = false := beq_eq_false_iff_ne.2 h6
  have k7 : (op == 7) = false := beq_eq_false_iff_ne.2 h7
  have k8 : (op == 8) = false := beq_eq_false_iff_ne.2 h8
  have k9 : (op == 9) = false := beq_eq_false_iff_ne.2 h9
  have k10 : (op == 10) = false := beq_eq_false_iff_ne.2 h10
  have k11 : (op == 11) = false := beq_eq_false_iff_ne.2 h11
  have k15 : (op == 15) = false := beq_eq_false_iff_ne.2 h15
  have k16 : (op == 16) = false := beq_eq_false_iff_ne.2 h16
  have k17 : (op == 17) = false := beq_eq_false_iff_ne.2 h17
  have k18 : (op == 18) = false := beq_eq_false_iff_ne.2 h18
  clear R hc I hx hchk
  go_enter Try.func13, Try.ntmps13
  go_wp2_with fail
  clear e2 q0 q1
  refine CK.mono ?_
  rintro e w1 ⟨rfl, hb1⟩
  have I1 := HI.out.next hb1
  have p0 := I1.p0
  have p1 := I1.p1
  have f0 := I1.f0
  have f1 := I1.f1
  have HT := hide (I1.put (.slice none 0 0) (.slice none 0 0))
  have HFI := hide I1.fin
  clear I1 hb1 CK HI
  go_wp2
  exact bodyPost_ret (v := .tuple #[.agg #[.slice none 0 0, .slice none 0 0], .int .i64 1]) (by simp [results, Try.results13, go_sem, HT.out.1, HT.out.2]) rfl (gives2_of HE.out (zeroA_in _ _ _) (HFI.out _ _))
/-- Mo, for all arrays; for First the slices' rows must be no shorter than the slices. -/
theorem mo_any {n lo : Nat} {x : Ar} {va : Value} {w : World} (hx : ArIn (n + 1) lo w x va) (op : Int) (hcap : op = 17 → Caps va) : Calls Try.prog 13 #[.int .i64 op, va] w fun e w' => Gives2 (n + 2) w.heap.size (moR (n + 1) op x).1 (moR (n + 1) op x).2 w e w' := by
  by_cases hchk : chkA 8 x = 0
  · by_cases h5 : op = 5
    · subst h5; exact mo_iota hx hchk
    by_cases h6 : op = 6
    · subst h6; exact mo_shape hx hchk
    by_cases h7 : op = 7
    · subst h7; exact mo_tally hx hchk
    by_cases h8 : op = 8
    · subst h8; exact mo_ravel hx hchk
    by_cases h9 : op = 9
    · subst h9; exact mo_revF hx hchk
    by_cases h10 : op = 10
    · subst h10; exact mo_revL hx hchk
    by_cases h11 : op = 11
    · subst h11; exact mo_flip hx hchk
    by_cases h15 : op = 15
    · subst h15; exact mo_encl hx hchk
    by_cases h16 : op = 16
    · subst h16; exact mo_disc hx hchk
    by_cases h17 : op = 17
    · have hc := hcap h17
      subst h17
      exact mo_first hx hchk hc
    by_cases h18 : op = 18
    · subst h18; exact mo_list hx hchk
    exact mo_none hx hchk op ⟨h5, h6, h7, h8, h9, h10, h11, h15, h16, h17, h18⟩
  · exact mo_bad hx hchk op
end Go.Proofs.Ytmjncdhahdpplaa
namespace Go.Proofs.Ytmjncdhahdpplaa
open Go.ChangeShapes Go.WideShapes Go.ChangeAt Go.RowKit
set_option linter.unusedVariables false
set_option maxRecDepth 100000
/-- The numbers of an array's cells. -/
def shN (x : Ar) : List Int := x.cells.map fun c => c.2.1
def allC (x : Ar) : Prop := ∀ i, i < x.cells.length → isC (cAt x.cells i) = true
def noLong (x : Ar) : Prop := ∀ i, i < x.cells.length → (cAt x.cells i).2.1 ≤ 16384
instance (x : Ar) : Decidable (allC x) := by unfold allC; infer_instance
instance (x : Ar) : Decidable (noLong x) := by unfold noLong; infer_instance
def shpE (x : Ar) : Int := if 1 < x.shape.length then 6 else if ¬ allC x then 5 else if 8 < x.cells.length then 6 else if ¬ noLong x then 12 else 0
theorem shN_len (x : Ar) : (shN x).length = x.cells.length := by simp [shN]
theorem shN_at (x : Ar) (i : Nat) (hi : i < x.cells.length) : gI (shN x) i = (cAt x.cells i).2.1 := by simp [gI, shN, cAt, hi]
def GivesL (E : Int) (l : List Int) (w : World) (e : Ending) (w' : World) : Prop := (∃ a cap, e = .returned (.tuple #[.slice a (if E = 0 then l.length else 0) cap, .int .i64 E]) ∧ (E = 0 → Row w.heap.size w' a l)) ∧ Below w.heap.size w w'
set_option maxHeartbeats 4000000 in
theorem shapeOf_any {n lo : Nat} {x : Ar} {va : Value} {w : World} (hx : ArIn (n + 1) lo w x va) (hchk : chkA 8 x = 0) : Calls Try.prog 55 #[va] w fun e w' => GivesL (shpE x) (shN x) w e w' := by
  obtain ⟨a1, c1, a2, c2, rfl, R, hc⟩ := hx.form
  have b0 := one_alloc w (.cells #[.slice a1 x.shape.length c1, .slice a2 x.cells.length c2] 25)
  have q0 : (w.alloc (.cells #[.slice a1 x.shape.length c1, .slice a2 x.cells.length c2] 25)).cell? ⟨w.heap.size, 0, none⟩ = some (.slice a1 x.shape.length c1) := cell_new0 w _ 25 0 _ rfl
  have q1 : (w.alloc (.cells #[.slice a1 x.shape.length c1, .slice a2 x.cells.length c2] 25)).cell? ⟨w.heap.size, 1, none⟩ = some (.slice a2 x.cells.length c2) := cell_new0 w _ 25 1 _ rfl
  obtain ⟨l8, c16⟩ := chk_len hchk
  have hl := R.1
  obtain ⟨ab, cb, hcf⟩ := cells_fn hc
  have HCF := hide hcf
  have HE : Hid (shpE x = if 1 < x.shape.length then 6 else if ¬ allC x then 5 else if 8 < x.cells.length then 6 else if ¬ noLong x then 12 else 0) := rfl
  obtain ⟨W1, e1⟩ : ∃ W1, w.alloc (.cells #[.slice a1 x.shape.length c1, .slice a2 x.cells.length c2] 25) = W1 := ⟨_, rfl⟩
  rw [e1] at b0 q0 q1
  have hz1 : W1.heap.size = w.heap.size + 1 := by rw [← e1]; simp
  obtain ⟨SA, hSA⟩ : ∃ SA, x.shape.length = SA := ⟨_, rfl⟩
  obtain ⟨CA, hCA⟩ : ∃ CA, x.cells.length = CA := ⟨_, rfl⟩
  have HALL : Hid (allC x ↔ ∀ i, i < CA → isC (cAt x.cells i) = true) := by rw [← hCA]; exact Iff.rfl
  have HNOL : Hid (noLong x ↔ ∀ i, i < CA → (cAt x.cells i).2.1 ≤ 16384) := by rw [← hCA]; exact Iff.rfl
  have HSH : Hid ((shN x).length = CA ∧ ∀ i, i < CA → gI (shN x) i = (cAt x.cells i).2.1) := ⟨by rw [shN_len, hCA], fun i hi => shN_at x i (by omega)⟩
  simp only [hSA, hCA] at q0 q1 e1 l8 c16 hl HE HCF ⊢
  have HB0 := hide (And.intro b0 (And.intro q0 (And.intro q1 hz1)))
  clear R hc hcf hx hchk hSA hCA b0
  by_cases h1 : 1 < SA
  · have HE5 : Hid (shpE x = 6) := by unfold Hid; rw [HE.out, if_pos h1]
    have h1' : (1 : Int) < (SA : Int) := by omega
    go_enter Try.func55, Try.ntmps55
    go_wp2
    go_ret2
    exact ⟨⟨none, 0, by rw [HE5.out]; rfl, fun h => absurd h (by rw [HE5.out]; decide)⟩, HB0.out.1⟩
  · have h1' : ¬ (1 : Int) < (SA : Int) := by omega
    go_enter Try.func55, Try.ntmps55
    go_wp2
    clear e1 q0 q1 hz1
    go_loopg [16] CA (fun g i wr => ∃ j : Nat, g + j = CA ∧ i = .int .i64 (j : Int) ∧ Below w.heap.size w wr ∧ w.heap.size < wr.heap.size ∧ wr.cell? ⟨w.heap.size, 1, none⟩ = some (.slice a2 CA c2) ∧ ∀ i, i < j → isC (cAt x.cells i) = true)
    case atStart => exact ⟨0, rfl, rfl, HB0.out.1, by have := HB0.out.2.2.2; omega, HB0.out.2.2.1, fun i hi => by omega⟩
    case round =>
      clear HB0
      obtain ⟨j, hg, rfl, hnx, hsz, hq1, hall⟩ := hrel
      have HAL := hide hall
      clear hall
      by_cases hlt : j < CA
      · obtain ⟨b, off, rfl, -, hb, hcells⟩ := HCF.out (by omega)
        obtain ⟨g0, g1, g2, -⟩ := hcells j hlt
        have u0 := (hnx.cell (p := ⟨b, off + j * 3, none⟩) hb).trans g0
        have u1 := (hnx.cell (p := ⟨b, off + j * 3 + 1, none⟩) hb).trans g1
        have u2 := (hnx.cell (p := ⟨b, off + j * 3 + 2, none⟩) hb).trans g2
        clear g0 g1 g2 hcells
        obtain ⟨c, hcc⟩ : ∃ c, cAt x.cells j = c := ⟨_, rfl⟩
        have HCC := hide hcc
        rw [hcc] at u0 u1 u2
        clear hcc
        generalize c.2.2.length = nb at *
        generalize ab j = ab0 at *
        generalize cb j = cb0 at *
        have CI := hide (isCount_any c ab0 nb cb0 (wr.alloc (.cells #[.int .i64 c.1, .int .i64 c.2.1, .slice ab0 nb cb0] 36)))
        have B1 := one_alloc wr (.cells #[.int .i64 c.1, .int .i64 c.2.1, .slice ab0 nb cb0] 36)
        have HB1 := hide B1
        clear B1
        go_wp2_with fail
        refine CI.out.mono ?_
        rintro e w1 ⟨rfl, hb1⟩
        have B2 : Below wr.heap.size wr w1 := HB1.out.trans (hb1.mono HB1.out.size)
        have hnx2 := hnx.trans (B2.mono hnx.size)
        clear CI HB1 hb1 u0 u1 u2
        by_cases hC : isC c = true
        · rw [hC]
          have HN : Hid (∀ i, i < j + 1 → isC (cAt x.cells i) = true) := fun i hi => by
            rcases Nat.lt_succ_iff_lt_or_eq.1 hi with h | rfl
            · exact HAL.out i h
            · rw [HCC.out]; exact hC
          have hq2 := (B2.cell (p := ⟨w.heap.size, 1, none⟩) hsz).trans hq1
          have hsz2 := Nat.lt_of_lt_of_le hsz B2.size
          clear hC HAL B2
          go_wp2
          go_roundg (CA - (j + 1))
          case rel => exact ⟨j + 1, by omega, by go_num, hnx2, hsz2, hq2, HN.out⟩
          case measure => omega
        · have hC' : isC c = false := by simpa using hC
          rw [hC']
          have HE5 : Hid (shpE x = 5) := by
            unfold Hid
            rw [HE.out, if_neg h1, if_pos]
            intro h
            exact hC (by rw [← HCC.out]; exact HALL.out.1 h j hlt)
          clear hC hC' HAL B2
          go_wp2
          go_ret2
          exact ⟨⟨none, 0, by rw [HE5.out]; rfl, fun h => absurd h (by rw [HE5.out]; decide)⟩, hnx2⟩
      · have hje : j = CA := by omega
        subst hje
        have hA : allC x := HALL.out.2 HAL.out
        by_cases h8 : 8 < j
        · have HE5 : Hid (shpE x = 6) := by unfold Hid; rw [HE.out, if_neg h1, if_neg (fun k => k hA), if_pos h8]
          have h8' : (8 : Int) < (j : Int) := by omega
          clear HCF HAL HNOL HALL HSH HE
          go_wp2
          go_ret2
          exact ⟨⟨none, 0, by rw [HE5.out]; rfl, fun h => absurd h (by rw [HE5.out]; decide)⟩, hnx⟩
        · have h8' : ¬ (8 : Int) < (j : Int) := by omega
          have mk := run_make_row' (P := Try.prog) 22 3 (.int .i64 0) 8 Try.underlying22 int3 rfl .i64 .i64 j (by omega) (by omega)
          have RM : Hid ((wr.alloc (.cells (madeCells #[.int .i64 0] j) 3)).rowIs wr.heap.size 3 j (toF (shN x) 0)) := (World.rowIs_made wr (.int .i64 0) j 3).congr fun i hi => by unfold toF; rw [if_neg (by omega)]
          have BM := one_alloc wr (.cells (madeCells #[.int .i64 0] j) 3)
          have q1' := (BM.cell (p := ⟨w.heap.size, 1, none⟩) hsz).trans hq1
          have HST : Hid (Below w.heap.size w (wr.alloc (.cells (madeCells #[.int .i64 0] j) 3)) ∧ wr.heap.size < (wr.alloc (.cells (madeCells #[.int .i64 0] j) 3)).heap.size) := ⟨hnx.trans (BM.mono hnx.size), by simp⟩
          have HBW : Hid (w.heap.size ≤ wr.heap.size) := hnx.size
          obtain ⟨B, hB⟩ : ∃ B, wr.heap.size = B := ⟨_, rfl⟩
          have HBB := hide hB
          rw [hB] at RM HBW HST
          clear HAL BM hnx HALL
          go_wp2
          clear mk q1' hq1 hsz hB
          go_loopg [35] j (fun g i wr => ∃ k : Nat, g + k = j ∧ i = .int .i64 (k : Int) ∧ Below w.heap.size w wr ∧ B < wr.heap.size ∧ wr.rowIs B 3 j (toF (shN x) k) ∧ ∀ i, i < k → (cAt x.cells i).2.1 ≤ 16384)
          case atStart => exact ⟨0, rfl, rfl, HST.out.1, HST.out.2, RM.out, fun i hi => by omega⟩
          case round =>
            clear HST RM HBB
            obtain ⟨k, hg2, rfl, hnx, hBl, hr, hall⟩ := hrel
            have HAL := hide hall
            clear hall
            by_cases hlt2 : k < j
            · obtain ⟨b, off, rfl, -, hb, hcells⟩ := HCF.out (by omega)
              obtain ⟨g0, g1, g2, -⟩ := hcells k hlt2
              have u0 := (hnx.cell (p := ⟨b, off + k * 3, none⟩) hb).trans g0
              have u1 := (hnx.cell (p := ⟨b, off + k * 3 + 1, none⟩) hb).trans g1
              have u2 := (hnx.cell (p := ⟨b, off + k * 3 + 2, none⟩) hb).trans g2
              have HNk := hide (HSH.out.2 k hlt2)
              clear g0 g1 g2 hcells
              obtain ⟨c, hcc⟩ : ∃ c, cAt x.cells k = c := ⟨_, rfl⟩
              have HCC := hide hcc
              rw [hcc] at u0 u1 u2 HNk
              clear hcc
              generalize c.2.2.length = nb at *
              generalize ab k = ab0 at *
              generalize cb k = cb0 at *
              have B1 := one_alloc wr (.cells #[.int .i64 c.1, .int .i64 c.2.1, .slice ab0 nb cb0] 36)
              have hr1 : (wr.alloc (.cells #[.int .i64 c.1, .int .i64 c.2.1, .slice ab0 nb cb0] 36)).rowIs B 3 j (toF (shN x) k) := hr.of_block (B1.block B hBl)
              have z0 := hr1.cell (i := k) hlt2
              have y0 := hr1.frozen k
              have hnx2 := hnx.trans (B1.mono hnx.size)
              have hBl2 := Nat.lt_of_lt_of_le hBl B1.size
              have BX := one_alloc (wr.setCell ⟨B, k, none⟩ (.int .i64 c.2.1)) (.cells #[.int .i64 c.1, .int .i64 c.2.1, .slice ab0 nb cb0] 36)
              have hsx : (wr.setCell ⟨B, k, none⟩ (.int .i64 c.2.1)).heap.size = wr.heap.size := by simp
              have HS : Hid (((wr.setCell ⟨B, k, none⟩ (.int .i64 c.2.1)).alloc (.cells #[.int .i64 c.1, .int .i64 c.2.1, .slice ab0 nb cb0] 36)).rowIs B 3 j (toF (shN x) (k + 1))) := ((hr.set k (.int .i64 c.2.1)).congr (g := toF (shN x) (k + 1)) (fun i _ => by rw [toF_step, HNk.out])).of_block (BX.block B (by rw [hsx]; exact hBl))
              have HNX : Hid (Below w.heap.size w ((wr.setCell ⟨B, k, none⟩ (.int .i64 c.2.1)).alloc (.cells #[.int .i64 c.1, .int .i64 c.2.1, .slice ab0 nb cb0] 36))) := (hnx.setCell (p := ⟨B, k, none⟩) HBW.out (.int .i64 c.2.1)).trans (BX.mono (by rw [hsx]; exact hnx.size))
              have HBL : Hid (B < ((wr.setCell ⟨B, k, none⟩ (.int .i64 c.2.1)).alloc (.cells #[.int .i64 c.1, .int .i64 c.2.1, .slice ab0 nb cb0] 36)).heap.size) := Nat.lt_of_lt_of_le (by rw [hsx]; exact hBl) BX.size
              have HN1 := hide hnx2
              generalize toF (shN x) k k = y at *
              clear hr hr1 B1 hBl2 hnx2 BX hsx
              by_cases hbig : 16384 < c.2.1
              · have HE5 : Hid (shpE x = 12) := by
                  unfold Hid
                  rw [HE.out, if_neg h1, if_neg (fun h => h hA), if_neg h8, if_pos]
                  intro h
                  have := HNOL.out.1 h k hlt2
                  rw [HCC.out] at this
                  omega
                clear HS HNX HBL HE
                go_wp2
                go_ret2
                exact ⟨⟨none, 0, by rw [HE5.out]; rfl, fun h => absurd h (by rw [HE5.out]; decide)⟩, HN1.out⟩
              · have HN : Hid (∀ i, i < k + 1 → (cAt x.cells i).2.1 ≤ 16384) := fun i hi => by
                  rcases Nat.lt_succ_iff_lt_or_eq.1 hi with h | rfl
                  · exact HAL.out i h
                  · rw [HCC.out]; omega
                go_wp2
                go_roundg (j - (k + 1))
                case rel => exact ⟨k + 1, by omega, by go_num, HNX.out, HBL.out, HS.out, HN.out⟩
                case measure => omega
            · have hke : k = j := by omega
              subst hke
              have HE5 : Hid (shpE x = 0) := by unfold Hid; rw [HE.out, if_neg h1, if_neg (fun h => h hA), if_neg h8, if_neg (fun h => h (HNOL.out.2 HAL.out))]
              have RR : Hid (Row w.heap.size wr (some ⟨B, 0, none⟩) (shN x)) := by
                have hr' : wr.rowIs B 3 (shN x).length (toF (shN x) (shN x).length) := by rw [HSH.out.1]; exact hr
                refine ⟨by rw [HSH.out.1]; omega, Or.inr ⟨B, 0, rfl, HBW.out, hBl, fun i hi => ?_⟩⟩
                rw [Nat.zero_add, hr'.cell hi]
                unfold toF
                rw [if_pos hi]
                rfl
              clear hr HCF HAL HNOL HE
              go_wp2
              go_ret2
              exact ⟨⟨some ⟨B, 0, none⟩, k, by rw [HE5.out, if_pos rfl, HSH.out.1]; rfl, fun _ => RR.out⟩, hnx⟩
end Go.Proofs.Ytmjncdhahdpplaa
namespace Go.Proofs.Ytmjncdhahdpplaa
open Go.ChangeShapes Go.WideShapes Go.ChangeAt Go.RowKit
set_option linter.unusedVariables false
set_option maxRecDepth 100000
theorem set_three {w : World} {s : Nat} {a b c : Value} (h0 : w.cell? ⟨s, 0, none⟩ = some a) (h1 : w.cell? ⟨s, 1, none⟩ = some b) (h2 : w.cell? ⟨s, 2, none⟩ = some c) (x y z : Value) : (w.setCell ⟨s, 0, none⟩ x).cell? ⟨s, 0, none⟩ = some x ∧ ((w.setCell ⟨s, 0, none⟩ x).setCell ⟨s, 1, none⟩ y).cell? ⟨s, 1, none⟩ = some y ∧ (((w.setCell ⟨s, 0, none⟩ x).setCell ⟨s, 1, none⟩ y).setCell ⟨s, 2, none⟩ z).cell? ⟨s, 2, none⟩ = some z := by
  have t := set_two h0 h1 x y
  refine ⟨t.1, t.2, World.cell?_setCell_same' _ _ _ ?_⟩
  rw [World.cell?_setCell_other _ _ _ _ (by simp), World.cell?_setCell_other _ _ _ _ (by simp), h2]
  rfl
def GivesCB (n : Nat) (c : Ce) (w : World) (e : Ending) (w' : World) : Prop := (∃ a cap, e = .returned (.agg #[.int .i64 c.1, .int .i64 c.2.1, .slice a c.2.2.length cap]) ∧ CeIn (ArIn n w.heap.size w') w.heap.size w' c (.int .i64 c.1) (.int .i64 c.2.1) (.slice a c.2.2.length cap)) ∧ Below w.heap.size w w'
theorem one_chk {r : Nat} {c : Ce} (h : chkC (inF r) c = 0) : chkA r (.mk [] [c]) = 0 := by
  rw [chkA_iff]
  refine ⟨by show sizeE [] = 0; decide, by show sizeV [] = ((1 : Nat) : Int); decide, by show ¬ hasLong []; decide, fun i hi => ?_⟩
  have : i = 0 := by simpa [Ar.cells] using hi
  subst this
  exact h
set_option maxHeartbeats 2000000 in
theorem lcopyCell_any {n lo : Nat} {c : Ce} {ab : Option Addr} {cb : Nat} {w : World} (hc : CeIn (ArIn n lo w) lo w c (.int .i64 c.1) (.int .i64 c.2.1) (.slice ab c.2.2.length cb)) (hlo : lo ≤ w.heap.size) (hchk : chkC (inF 8) c = 0) : Calls Try.prog 57 #[.agg #[.int .i64 c.1, .int .i64 c.2.1, .slice ab c.2.2.length cb]] w fun e w' => GivesCB n c w e w' := by
  obtain ⟨nb, hnb⟩ : ∃ nb, c.2.2.length = nb := ⟨_, rfl⟩
  rw [hnb] at hc ⊢
  have B2 := two_allocs w (.cells #[.int .i64 c.1, .int .i64 c.2.1, .slice ab nb cb] 36) (.cells #[.int .i64 0, .int .i64 0, .slice none 0 0] 36)
  have z2 := size_two w (.cells #[.int .i64 c.1, .int .i64 c.2.1, .slice ab nb cb] 36) (.cells #[.int .i64 0, .int .i64 0, .slice none 0 0] 36)
  have q0 : ((w.alloc (.cells #[.int .i64 c.1, .int .i64 c.2.1, .slice ab nb cb] 36)).alloc (.cells #[.int .i64 0, .int .i64 0, .slice none 0 0] 36)).cell? ⟨w.heap.size, 0, none⟩ = some (.int .i64 c.1) := cell_new1 w _ 36 (0, 0) _ 0 _ rfl
  have q1 : ((w.alloc (.cells #[.int .i64 c.1, .int .i64 c.2.1, .slice ab nb cb] 36)).alloc (.cells #[.int .i64 0, .int .i64 0, .slice none 0 0] 36)).cell? ⟨w.heap.size, 1, none⟩ = some (.int .i64 c.2.1) := cell_new1 w _ 36 (0, 0) _ 1 _ rfl
  have q2 : ((w.alloc (.cells #[.int .i64 c.1, .int .i64 c.2.1, .slice ab nb cb] 36)).alloc (.cells #[.int .i64 0, .int .i64 0, .slice none 0 0] 36)).cell? ⟨w.heap.size, 2, none⟩ = some (.slice ab nb cb) := cell_new1 w _ 36 (0, 0) _ 2 _ rfl
  have p0 : ((w.alloc (.cells #[.int .i64 c.1, .int .i64 c.2.1, .slice ab nb cb] 36)).alloc (.cells #[.int .i64 0, .int .i64 0, .slice none 0 0] 36)).cell? ⟨w.heap.size + 1, 0, none⟩ = some (.int .i64 0) := cell_new2 w _ 36 (0, 0) _ 0 _ rfl
  have p1 : ((w.alloc (.cells #[.int .i64 c.1, .int .i64 c.2.1, .slice ab nb cb] 36)).alloc (.cells #[.int .i64 0, .int .i64 0, .slice none 0 0] 36)).cell? ⟨w.heap.size + 1, 1, none⟩ = some (.int .i64 0) := cell_new2 w _ 36 (0, 0) _ 1 _ rfl
  have p2 : ((w.alloc (.cells #[.int .i64 c.1, .int .i64 c.2.1, .slice ab nb cb] 36)).alloc (.cells #[.int .i64 0, .int .i64 0, .slice none 0 0] 36)).cell? ⟨w.heap.size + 1, 2, none⟩ = some (.slice none 0 0) := cell_new2 w _ 36 (0, 0) _ 2 _ rfl
  have pf : ∀ i, ((w.alloc (.cells #[.int .i64 c.1, .int .i64 c.2.1, .slice ab nb cb] 36)).alloc (.cells #[.int .i64 0, .int .i64 0, .slice none 0 0] 36)).frozen? ⟨w.heap.size + 1, i, none⟩ = false := fun i => frozen_new1 _ _ _ _ _
  obtain ⟨W2, e2⟩ : ∃ W2, (w.alloc (.cells #[.int .i64 c.1, .int .i64 c.2.1, .slice ab nb cb] 36)).alloc (.cells #[.int .i64 0, .int .i64 0, .slice none 0 0] 36) = W2 := ⟨_, rfl⟩
  rw [e2] at B2 z2 q0 q1 q2 p0 p1 p2 pf
  obtain ⟨W3, e3⟩ : ∃ W3, W2.alloc (.cells #[.int .i64 c.1, .int .i64 c.2.1, .slice ab nb cb] 36) = W3 := ⟨_, rfl⟩
  have B3 : Below W2.heap.size W2 W3 := by rw [← e3]; exact one_alloc _ _
  have z3 : W3.heap.size = w.heap.size + 3 := by rw [← e3]; simp [z2]
  have s0 : W3.cell? ⟨w.heap.size + 2, 0, none⟩ = some (.int .i64 c.1) := by rw [← z2, ← e3]; exact cell_new0 W2 _ 36 0 _ rfl
  have s1 : W3.cell? ⟨w.heap.size + 2, 1, none⟩ = some (.int .i64 c.2.1) := by rw [← z2, ← e3]; exact cell_new0 W2 _ 36 1 _ rfl
  have s2 : W3.cell? ⟨w.heap.size + 2, 2, none⟩ = some (.slice ab nb cb) := by rw [← z2, ← e3]; exact cell_new0 W2 _ 36 2 _ rfl
  have B23 : Below w.heap.size w W3 := B2.trans (B3.mono (by omega))
  have A3 : ArIn (n + 1) lo W3 (.mk [] [c]) (.agg #[.slice none 0 0, .slice (some ⟨w.heap.size + 2, 0, none⟩) 1 1]) := by
    refine arIn_mk (x := .mk [] [c]) (row_nil _ _ _) (by simp [Ar.cells]) (Or.inr ⟨w.heap.size + 2, 0, rfl, by omega, by omega, fun i hi => ?_⟩) rfl rfl
    have hi0 : i = 0 := by simpa [Ar.cells] using hi
    subst hi0
    exact ⟨_, _, _, s0, s1, s2, hc.mono (Nat.le_refl _) B23 fun x v h => h.next B23⟩
  have CC := copyA (one_chk hchk) A3
  have HB := hide (And.intro B23 (And.intro z3 (And.intro z2 B3)))
  have HP := hide (And.intro p0 (And.intro p1 (And.intro p2 pf)))
  have HNB := hide hnb
  have FL := field25
  clear A3 s0 s1 s2 B2 B3 B23 z3 hc hchk p0 p1 p2 pf hnb
  go_enter Try.func57, Try.ntmps57
  go_wp2_with fail
  clear e2 e3 q0 q1 q2 z2
  refine CC.mono ?_
  rintro e w1 ⟨⟨v, rfl, hv⟩, hb1⟩
  obtain ⟨y1, m1, y2, m2, rfl, -, hcs⟩ := hv.form
  obtain ⟨ab', cb', hcf⟩ := cells_fn hcs
  obtain ⟨d, o, rfl, hd0, hd1, hcells⟩ := hcf (by simp [Ar.cells])
  obtain ⟨g0, g1, g2, g3⟩ := hcells 0 (by simp [Ar.cells])
  have ec : cAt (Ar.mk [] [c]).cells 0 = c := rfl
  rw [ec, HNB.out] at g2
  rw [ec] at g0 g1 g3
  simp only [Nat.zero_mul, Nat.add_zero] at g0 g1 g2
  obtain ⟨k1, k2, k3, k4⟩ := HB.out
  obtain ⟨p0, p1, p2, pf⟩ := HP.out
  have BB : Below (w.heap.size + 2) W2 w1 := (k4.mono (by omega)).trans (hb1.mono (by omega))
  have t0 := (BB.cell (p := ⟨w.heap.size + 1, 0, none⟩) (by show w.heap.size + 1 < _; omega)).trans p0
  have t1 := (BB.cell (p := ⟨w.heap.size + 1, 1, none⟩) (by show w.heap.size + 1 < _; omega)).trans p1
  have t2 := (BB.cell (p := ⟨w.heap.size + 1, 2, none⟩) (by show w.heap.size + 1 < _; omega)).trans p2
  have f0 := (BB.frozen (p := ⟨w.heap.size + 1, 0, none⟩) (by show w.heap.size + 1 < _; omega)).trans (pf 0)
  have f1 := (BB.frozen (p := ⟨w.heap.size + 1, 1, none⟩) (by show w.heap.size + 1 < _; omega)).trans (pf 1)
  have f2 := (BB.frozen (p := ⟨w.heap.size + 1, 2, none⟩) (by show w.heap.size + 1 < _; omega)).trans (pf 2)
  generalize ab' 0 = ab0 at *
  generalize cb' 0 = cb0 at *
  have HT := hide (set_three t0 t1 t2 (.int .i64 c.1) (.int .i64 c.2.1) (.slice ab0 nb cb0))
  have HF : Hid (∀ u v z, GivesCB n c w (.returned (.agg #[.int .i64 c.1, .int .i64 c.2.1, .slice ab0 nb cb0])) (((w1.setCell ⟨w.heap.size + 1, 0, none⟩ u).setCell ⟨w.heap.size + 1, 1, none⟩ v).setCell ⟨w.heap.size + 1, 2, none⟩ z)) := by
    intro u v z
    have hk : Keeps (w.heap.size + 2) w1 (((w1.setCell ⟨w.heap.size + 1, 0, none⟩ u).setCell ⟨w.heap.size + 1, 1, none⟩ v).setCell ⟨w.heap.size + 1, 2, none⟩ z) := (((Keeps.refl _ _).setCell (p := ⟨w.heap.size + 1, 0, none⟩) (by show w.heap.size + 1 < _; omega) _).setCell (p := ⟨w.heap.size + 1, 1, none⟩) (by show w.heap.size + 1 < _; omega) _).setCell (p := ⟨w.heap.size + 1, 2, none⟩) (by show w.heap.size + 1 < _; omega) _
    have hbw : Below w.heap.size w (((w1.setCell ⟨w.heap.size + 1, 0, none⟩ u).setCell ⟨w.heap.size + 1, 1, none⟩ v).setCell ⟨w.heap.size + 1, 2, none⟩ z) := (((k1.trans (hb1.mono (by omega))).setCell (p := ⟨w.heap.size + 1, 0, none⟩) (by show w.heap.size ≤ w.heap.size + 1; omega) _).setCell (p := ⟨w.heap.size + 1, 1, none⟩) (by show w.heap.size ≤ w.heap.size + 1; omega) _).setCell (p := ⟨w.heap.size + 1, 2, none⟩) (by show w.heap.size ≤ w.heap.size + 1; omega) _
    refine ⟨⟨ab0, cb0, by rw [HNB.out], ?_⟩, hbw⟩
    have h1 := (g3.mono (lo' := w.heap.size + 2) (by omega) (Below.refl _ _) fun x v h => h.mono (lo' := w.heap.size + 2) (by omega) (Below.refl _ _)).keeps hk fun x v h => h.keeps hk
    exact h1.mono (by omega) (Below.refl _ _) fun x v h => h.mono (by omega) (Below.refl _ _)
  clear hv hcs hcf hcells hb1 BB CC HB HP k1 k2 k3 k4 p0 p1 p2 pf g3 hd0 hd1
  simp only [Ar.shape, Ar.cells, List.length_cons, List.length_nil, Nat.zero_add] at *
  go_wp2
  exact bodyPost_ret (v := .agg #[.int .i64 c.1, .int .i64 c.2.1, .slice ab0 nb cb0]) (by simp [results, Try.results57, go_sem, HT.out.1, HT.out.2.1, HT.out.2.2]) rfl (HF.out _ _ _)
end Go.Proofs.Ytmjncdhahdpplaa
namespace Go.Proofs.Ytmjncdhahdpplaa
open Go.ChangeShapes Go.WideShapes Go.ChangeAt Go.RowKit
set_option linter.unusedVariables false
set_option maxRecDepth 100000
def reshE (s a : Ar) : Int := if chkA 8 s ≠ 0 then chkA 8 s else if chkA 8 a ≠ 0 then chkA 8 a else if shpE s ≠ 0 then shpE s else if sizeE (shN s) ≠ 0 then sizeE (shN s) else if 0 < sizeV (shN s) ∧ a.cells.length = 0 then 7 else 0
def reshA (s a : Ar) : Ar := .mk (shN s) (mkCs (sizeV (shN s)).toNat fun i => cAt a.cells (i % a.cells.length))
def reshR (s a : Ar) : Ar × Int := if reshE s a = 0 then (reshA s a, 0) else (zeroA, reshE s a)
/-- Two boxed arguments (blocks s and s + 1) and the answer's place (block s + 2). -/
structure In3 (w : World) (v0 v1 u0 u1 : Value) (W : World) : Prop where
  bel : Below w.heap.size w W
  size : w.heap.size + 3 ≤ W.heap.size
  q0 : W.cell? ⟨w.heap.size, 0, none⟩ = some v0
  q1 : W.cell? ⟨w.heap.size, 1, none⟩ = some v1
  r0 : W.cell? ⟨w.heap.size + 1, 0, none⟩ = some u0
  r1 : W.cell? ⟨w.heap.size + 1, 1, none⟩ = some u1
  p0 : W.cell? ⟨w.heap.size + 2, 0, none⟩ = some (.slice none 0 0)
  p1 : W.cell? ⟨w.heap.size + 2, 1, none⟩ = some (.slice none 0 0)
  f0 : W.frozen? ⟨w.heap.size + 2, 0, none⟩ = false
  f1 : W.frozen? ⟨w.heap.size + 2, 1, none⟩ = false
theorem In3.belowS {w W W' : World} {v0 v1 u0 u1 : Value} {B : Nat} (h : In3 w v0 v1 u0 u1 W) (hb : Below B W W') (hB : w.heap.size + 3 ≤ B) : In3 w v0 v1 u0 u1 W' := by
  have s := h.size
  have hk := hb.mono hB
  refine ⟨h.bel.trans (hb.mono (by omega)), Nat.le_trans s hk.size, ?_, ?_, ?_, ?_, ?_, ?_, ?_, ?_⟩
  · exact (hk.cell (p := ⟨w.heap.size, 0, none⟩) (by show w.heap.size < _; omega)).trans h.q0
  · exact (hk.cell (p := ⟨w.heap.size, 1, none⟩) (by show w.heap.size < _; omega)).trans h.q1
  · exact (hk.cell (p := ⟨w.heap.size + 1, 0, none⟩) (by show w.heap.size + 1 < _; omega)).trans h.r0
  · exact (hk.cell (p := ⟨w.heap.size + 1, 1, none⟩) (by show w.heap.size + 1 < _; omega)).trans h.r1
  · exact (hk.cell (p := ⟨w.heap.size + 2, 0, none⟩) (by show w.heap.size + 2 < _; omega)).trans h.p0
  · exact (hk.cell (p := ⟨w.heap.size + 2, 1, none⟩) (by show w.heap.size + 2 < _; omega)).trans h.p1
  · exact (hk.frozen (p := ⟨w.heap.size + 2, 0, none⟩) (by show w.heap.size + 2 < _; omega)).trans h.f0
  · exact (hk.frozen (p := ⟨w.heap.size + 2, 1, none⟩) (by show w.heap.size + 2 < _; omega)).trans h.f1
theorem In3.next {w W W' : World} {v0 v1 u0 u1 : Value} (h : In3 w v0 v1 u0 u1 W) (hb : Below W.heap.size W W') : In3 w v0 v1 u0 u1 W' := h.belowS hb h.size
theorem in3_new (w : World) (v0 v1 u0 u1 : Value) : In3 w v0 v1 u0 u1 (((w.alloc (.cells #[v0, v1] 25)).alloc (.cells #[u0, u1] 25)).alloc (.cells #[.slice none 0 0, .slice none 0 0] 25)) := by
  have B2 := two_allocs w (.cells #[v0, v1] 25) (.cells #[u0, u1] 25)
  have z2 := size_two w (.cells #[v0, v1] 25) (.cells #[u0, u1] 25)
  have B3 := one_alloc ((w.alloc (.cells #[v0, v1] 25)).alloc (.cells #[u0, u1] 25)) (.cells #[.slice none 0 0, .slice none 0 0] 25)
  have n0 := cell_new0 ((w.alloc (.cells #[v0, v1] 25)).alloc (.cells #[u0, u1] 25)) #[.slice none 0 0, .slice none 0 0] 25 0 _ rfl
  have n1 := cell_new0 ((w.alloc (.cells #[v0, v1] 25)).alloc (.cells #[u0, u1] 25)) #[.slice none 0 0, .slice none 0 0] 25 1 _ rfl
  have nf := fun i => frozen_new ((w.alloc (.cells #[v0, v1] 25)).alloc (.cells #[u0, u1] 25)) #[.slice none 0 0, .slice none 0 0] 25 i
  rw [z2] at n0 n1 nf
  refine ⟨B2.trans (B3.mono (by omega)), by simp, ?_, ?_, ?_, ?_, n0, n1, nf 0, nf 1⟩
  · exact (B3.cell (p := ⟨w.heap.size, 0, none⟩) (by show w.heap.size < _; omega)).trans (cell_new1 w _ 25 (0, 0) _ 0 _ rfl)
  · exact (B3.cell (p := ⟨w.heap.size, 1, none⟩) (by show w.heap.size < _; omega)).trans (cell_new1 w _ 25 (0, 0) _ 1 _ rfl)
  · exact (B3.cell (p := ⟨w.heap.size + 1, 0, none⟩) (by show w.heap.size + 1 < _; omega)).trans (cell_new2 w _ 25 (0, 0) _ 0 _ rfl)
  · exact (B3.cell (p := ⟨w.heap.size + 1, 1, none⟩) (by show w.heap.size + 1 < _; omega)).trans (cell_new2 w _ 25 (0, 0) _ 1 _ rfl)
theorem In3.put {w W : World} {v0 v1 u0 u1 : Value} (h : In3 w v0 v1 u0 u1 W) (u v : Value) : ((W.setCell ⟨w.heap.size + 2, 0, none⟩ u).cell? ⟨w.heap.size + 2, 0, none⟩ = some u ∧ ((W.setCell ⟨w.heap.size + 2, 0, none⟩ u).setCell ⟨w.heap.size + 2, 1, none⟩ v).cell? ⟨w.heap.size + 2, 1, none⟩ = some v) := set_two h.p0 h.p1 u v
theorem In3.fin {w W : World} {v0 v1 u0 u1 : Value} (h : In3 w v0 v1 u0 u1 W) (u v : Value) : Below w.heap.size w ((W.setCell ⟨w.heap.size + 2, 0, none⟩ u).setCell ⟨w.heap.size + 2, 1, none⟩ v) :=
  (h.bel.setCell (p := ⟨w.heap.size + 2, 0, none⟩) (by show w.heap.size ≤ w.heap.size + 2; omega) u).setCell (p := ⟨w.heap.size + 2, 1, none⟩) (by show w.heap.size ≤ w.heap.size + 2; omega) v
theorem In3.give {w W : World} {v0 v1 u0 u1 : Value} (h : In3 w v0 v1 u0 u1 W) {n lo : Nat} {x : Ar} {va : Value} (hx : ArIn n lo W x va) (hlo : w.heap.size + 3 ≤ lo) (u v : Value) : ArIn n w.heap.size ((W.setCell ⟨w.heap.size + 2, 0, none⟩ u).setCell ⟨w.heap.size + 2, 1, none⟩ v) x va := by
  have hk : Keeps (w.heap.size + 3) W ((W.setCell ⟨w.heap.size + 2, 0, none⟩ u).setCell ⟨w.heap.size + 2, 1, none⟩ v) := ((Keeps.refl _ _).setCell (p := ⟨w.heap.size + 2, 0, none⟩) (by show w.heap.size + 2 < _; omega) u).setCell (p := ⟨w.heap.size + 2, 1, none⟩) (by show w.heap.size + 2 < _; omega) v
  exact ((hx.mono hlo (Below.refl _ _)).keeps hk).mono (by omega) (Below.refl _ _)
set_option maxHeartbeats 4000000 in
theorem reshape_any {n m lo lo' : Nat} {x y : Ar} {va vb : Value} {w : World} (hx : ArIn (m + 1) lo w x va) (hy : ArIn (n + 1) lo' w y vb) (hlo' : lo' ≤ w.heap.size) : Calls Try.prog 24 #[va, vb] w fun e w' => Gives2 (n + 1) w.heap.size (reshR x y).1 (reshR x y).2 w e w' := by
  obtain ⟨a1, c1, a2, c2, rfl, R, hc⟩ := hx.form
  obtain ⟨b1, d1, b2, d2, rfl, R', hc'⟩ := hy.form
  have I := in3_new w (.slice a1 x.shape.length c1) (.slice a2 x.cells.length c2) (.slice b1 y.shape.length d1) (.slice b2 y.cells.length d2)
  obtain ⟨W3, e3⟩ : ∃ W3, ((w.alloc (.cells #[.slice a1 x.shape.length c1, .slice a2 x.cells.length c2] 25)).alloc (.cells #[.slice b1 y.shape.length d1, .slice b2 y.cells.length d2] 25)).alloc (.cells #[.slice none 0 0, .slice none 0 0] 25) = W3 := ⟨_, rfl⟩
  rw [e3] at I
  have q0 := I.q0
  have q1 := I.q1
  have CK := check_any (m + 1) x _ _ W3 (hx.next I.bel)
  have HI := hide I
  have HX := hide hx
  have HY := hide hy
  have HCY := hide hc'
  have hE : reshE x y = if chkA 8 x ≠ 0 then chkA 8 x else if chkA 8 y ≠ 0 then chkA 8 y else if shpE x ≠ 0 then shpE x else if sizeE (shN x) ≠ 0 then sizeE (shN x) else if 0 < sizeV (shN x) ∧ y.cells.length = 0 then 7 else 0 := rfl
  have HE := hide hE
  have HRE : Hid (∀ E, reshE x y = E → ¬ E = 0 → reshR x y = (zeroA, E)) := fun E h1 h2 => by unfold reshR; rw [h1, if_neg h2]
  clear hE
  obtain ⟨E1, hE1⟩ : ∃ E1, chkA 8 x = E1 := ⟨_, rfl⟩
  obtain ⟨E2, hE2⟩ : ∃ E2, chkA 8 y = E2 := ⟨_, rfl⟩
  have HEE := hide (And.intro hE1 hE2)
  rw [hE1] at CK
  simp only [hE1, hE2] at HE
  obtain ⟨SX, hSX⟩ : ∃ SX, x.shape.length = SX := ⟨_, rfl⟩
  obtain ⟨CX, hCX⟩ : ∃ CX, x.cells.length = CX := ⟨_, rfl⟩
  obtain ⟨SY, hSY⟩ : ∃ SY, y.shape.length = SY := ⟨_, rfl⟩
  obtain ⟨CY, hCY⟩ : ∃ CY, y.cells.length = CY := ⟨_, rfl⟩
  have HSC := hide (And.intro hSX (And.intro hCX (And.intro hSY hCY)))
  simp only [hSX, hCX, hSY, hCY] at CK e3 q0 q1 HI HX HY HE ⊢
  clear R hc I hx hy R' hc' hSX hCX hSY hCY hE1 hE2
  go_enter Try.func24, Try.ntmps24
  go_wp2_with fail
  clear e3 q0 q1
  refine CK.mono ?_
  rintro e w1 ⟨rfl, hb1⟩
  have I1 := HI.out.next hb1
  have r0 := I1.r0
  have r1 := I1.r1
  have p0 := I1.p0
  have p1 := I1.p1
  have f0 := I1.f0
  have f1 := I1.f1
  have HI1 := hide I1
  clear hb1 CK HI
  by_cases h1 : E1 = 0
  case neg =>
    have HE5 : Hid (reshR x y = (zeroA, E1)) := HRE.out E1 (by rw [HE.out, if_pos h1]) h1
    have HT := hide (I1.put (.slice none 0 0) (.slice none 0 0))
    have hne : (E1 == 0) = false := beq_eq_false_iff_ne.2 h1
    clear I1 HE HRE HX HY HCY
    go_wp2
    exact bodyPost_ret (v := .tuple #[.agg #[.slice none 0 0, .slice none 0 0], .int .i64 E1]) (by simp [results, Try.results24, go_sem, HT.out.1, HT.out.2]) rfl (gives2_of HE5.out (zeroA_in _ _ _) (HI1.out.fin _ _))
  subst h1
  have CK2 := check_any (n + 1) y _ _ w1 (HY.out.next I1.bel)
  rw [HEE.out.2] at CK2
  clear I1 p0 p1 f0 f1
  go_wp2_with fail
  refine CK2.mono ?_
  rintro e w2 ⟨rfl, hb2⟩
  have I2 := HI1.out.next hb2
  have q0 := I2.q0
  have q1 := I2.q1
  have p0 := I2.p0
  have p1 := I2.p1
  have f0 := I2.f0
  have f1 := I2.f1
  have HI2 := hide I2
  clear hb2 CK2 HI1 r0 r1
  by_cases h2 : E2 = 0
  case neg =>
    have HE5 : Hid (reshR x y = (zeroA, E2)) := HRE.out E2 (by rw [HE.out, if_neg (by simp), if_pos h2]) h2
    have HT := hide (I2.put (.slice none 0 0) (.slice none 0 0))
    have hne : (E2 == 0) = false := beq_eq_false_iff_ne.2 h2
    clear I2 HE HRE HX HY HCY
    go_wp2
    exact bodyPost_ret (v := .tuple #[.agg #[.slice none 0 0, .slice none 0 0], .int .i64 E2]) (by simp [results, Try.results24, go_sem, HT.out.1, HT.out.2]) rfl (gives2_of HE5.out (zeroA_in _ _ _) (HI2.out.fin _ _))
  subst h2
  have CS := shapeOf_any (HX.out.next I2.bel) HEE.out.1
  clear I2 p0 p1 f0 f1
  go_wp2_with fail
  refine CS.mono ?_
  rintro e w3 ⟨⟨al, cl, rfl, hRow⟩, hb3⟩
  have I3 := HI2.out.next hb3
  have p0 := I3.p0
  have p1 := I3.p1
  have f0 := I3.f0
  have f1 := I3.f1
  have HI3 := hide I3
  obtain ⟨E3, hE3⟩ : ∃ E3, shpE x = E3 := ⟨_, rfl⟩
  simp only [hE3] at hRow HE
  rw [hE3]
  have hlo2 := HI2.out.size
  clear hb3 CS HI2 q0 q1 hE3
  by_cases h3 : E3 = 0
  case neg =>
    have HE5 : Hid (reshR x y = (zeroA, E3)) := HRE.out E3 (by rw [HE.out, if_neg (by simp), if_neg (by simp), if_pos h3]) h3
    have HT := hide (I3.put (.slice none 0 0) (.slice none 0 0))
    have hne : (E3 == 0) = false := beq_eq_false_iff_ne.2 h3
    rw [if_neg h3]
    clear I3 HE HRE HX HY HCY hRow h3
    go_wp2
    exact bodyPost_ret (v := .tuple #[.agg #[.slice none 0 0, .slice none 0 0], .int .i64 E3]) (by simp [results, Try.results24, go_sem, HT.out.1, HT.out.2]) rfl (gives2_of HE5.out (zeroA_in _ _ _) (HI3.out.fin _ _))
  subst h3
  have hR3 := hRow rfl
  have CZ := size_any (shN x) al cl w3 hR3
  rw [if_pos rfl]
  have HR3 := hide (hR3.low hlo2)
  obtain ⟨l, hl⟩ : ∃ l, shN x = l := ⟨_, rfl⟩
  have HLL := hide hl
  simp only [hl] at CZ HE HR3
  rw [hl]
  clear I3 p0 p1 f0 f1 hRow hR3 hl
  go_wp2_with fail
  refine CZ.mono ?_
  rintro e w4 ⟨rfl, hw4⟩
  subst hw4
  have I3 := HI3.out
  have r1 := I3.r1
  have p0 := I3.p0
  have p1 := I3.p1
  have f0 := I3.f0
  have f1 := I3.f1
  obtain ⟨E4, hE4⟩ : ∃ E4, sizeE l = E4 := ⟨_, rfl⟩
  obtain ⟨V, hV⟩ : ∃ V, sizeV l = V := ⟨_, rfl⟩
  have HEV := hide (And.intro hE4 hV)
  simp only [hE4, hV] at HE
  rw [hE4, hV]
  clear CZ hE4 hV
  by_cases h4 : E4 = 0
  case neg =>
    have HE5 : Hid (reshR x y = (zeroA, E4)) := HRE.out E4 (by rw [HE.out, if_neg (by simp), if_neg (by simp), if_neg (by simp), if_pos h4]) h4
    have HT := hide (I3.put (.slice none 0 0) (.slice none 0 0))
    have hne : (E4 == 0) = false := beq_eq_false_iff_ne.2 h4
    clear I3 HE HRE HX HY HCY h4 r1
    go_wp2
    exact bodyPost_ret (v := .tuple #[.agg #[.slice none 0 0, .slice none 0 0], .int .i64 E4]) (by simp [results, Try.results24, go_sem, HT.out.1, HT.out.2]) rfl (gives2_of HE5.out (zeroA_in _ _ _) (HI3.out.fin _ _))
  subst h4
  obtain ⟨hV0, hV1⟩ := sizeV_le HEV.out.1
  rw [HEV.out.2] at hV0 hV1
  obtain ⟨N, rfl⟩ : ∃ N : Nat, V = (N : Int) := ⟨V.toNat, by omega⟩
  by_cases h5 : 0 < N ∧ CY = 0
  · have HE5 : Hid (reshR x y = (zeroA, 7)) := HRE.out 7 (by rw [HE.out, if_neg (by simp), if_neg (by simp), if_neg (by simp), if_neg (by simp), if_pos ⟨by omega, h5.2⟩]) (by decide)
    have HT := hide (I3.put (.slice none 0 0) (.slice none 0 0))
    obtain ⟨h5a, rfl⟩ := h5
    have h5b : (0 : Int) < (N : Int) := by omega
    clear I3 HE HRE HX HY HCY
    go_wp2
    exact bodyPost_ret (v := .tuple #[.agg #[.slice none 0 0, .slice none 0 0], .int .i64 7]) (by simp [results, Try.results24, go_sem, HT.out.1, HT.out.2]) rfl (gives2_of HE5.out (zeroA_in _ _ _) (HI3.out.fin _ _))
  · have HE5 : Hid (reshR x y = (.mk l (mkCs N fun i => cAt y.cells (i % CY)), 0)) := by
      have e0 : reshE x y = 0 := by rw [HE.out, if_neg (by simp), if_neg (by simp), if_neg (by simp), if_neg (by simp), if_neg (fun h => h5 ⟨by omega, h.2⟩)]
      unfold reshR Hid
      rw [if_pos e0]
      unfold reshA
      rw [HLL.out, HEV.out.2, Int.toNat_natCast, HSC.out.2.2.2]
    have mk := make_cells N (by omega)
    have RM := hide (rowIs_made3 w4 (N * 3))
    have BM := one_alloc w4 (.cells (madeCells #[.int .i64 0, .int .i64 0, .slice none 0 0] (N * 3)) 36)
    have HI4 := hide (I3.next BM)
    have HZ4 : Hid ((w4.alloc (.cells (madeCells #[.int .i64 0, .int .i64 0, .slice none 0 0] (N * 3)) 36)).heap.size = w4.heap.size + 1) := by unfold Hid; simp
    have HR3' := hide HR3.out
    have HBS : Hid (w.heap.size + 3 ≤ w4.heap.size) := I3.size
    clear I3 HE HRE HX HR3 BM
    obtain ⟨ab, cb, hcf⟩ := cells_fn HCY.out
    have HCF := hide hcf
    rw [HSC.out.2.2.2] at HCF
    have HCK : Hid (∀ i, i < CY → chkC (inF 8) (cAt y.cells i) = 0) := by rw [← HSC.out.2.2.2]; exact ((chkA_iff 8 y).1 HEE.out.2).2.2.2
    have hCY16 : CY ≤ 16384 := by rw [← HSC.out.2.2.2]; exact (chk_len HEE.out.2).2
    have hguard : (0 : Int) < (N : Int) → ¬ (CY : Int) = 0 := fun h h' => h5 ⟨by omega, by omega⟩
    have HG := hide hguard
    obtain ⟨cs, hcs⟩ : ∃ cs, (mkCs N fun i => cAt y.cells (i % CY)) = cs := ⟨_, rfl⟩
    have HCS : Hid (cs.length = N ∧ ∀ i, i < N → cAt cs i = cAt y.cells (i % CY)) := by
      rw [← hcs]; exact ⟨mkCs_len _ _, fun i hi => mkCs_at _ _ _ hi⟩
    rw [hcs] at HE5
    clear hcf hcs h5 HY HCY
    by_cases hN : 0 < N
    · have hN' : (0 : Int) < (N : Int) := by omega
      have hCYne : ((CY : Int) == 0) = false := beq_eq_false_iff_ne.2 (hguard hN')
      clear hguard
      go_wp2
      clear mk r1 p0 p1 f0 f1
      go_loopw [56] (fun i wr => ∃ j : Nat, j ≤ N ∧ i = .int .i64 (j : Int) ∧ Below w4.heap.size w4 wr ∧ w4.heap.size + 1 ≤ wr.heap.size ∧ ∃ F, wr.rowIs w4.heap.size 36 (N * 3) F ∧ ∀ i, i < j → CeIn (ArIn n (w4.heap.size + 1) wr) (w4.heap.size + 1) wr (cAt cs i) (F (i * 3)) (F (i * 3 + 1)) (F (i * 3 + 2))) (fun i _ => N - (intOf i).toNat)
      case atStart => exact ⟨0, Nat.zero_le _, rfl, one_alloc _ _, by have := HZ4.out; omega, zero3, RM.out, fun i hi => absurd hi (by omega)⟩
      case round =>
        clear RM HI4 HZ4
        obtain ⟨j, hj, rfl, hnx, hsz, F, hr, hF⟩ := hrel
        have I5 := HI3.out.next hnx
        by_cases hlt : j < N
        · have hC0 := HG.out (by omega)
          obtain ⟨b, off, rfl, -, hb, hcells⟩ := HCF.out (by omega)
          obtain ⟨p, hp⟩ : ∃ p, j % CY = p := ⟨_, rfl⟩
          have hpl : p < CY := by rw [← hp]; exact Nat.mod_lt _ (by omega)
          obtain ⟨g0, g1, g2, g3⟩ := hcells p hpl
          have hck := HCK.out p hpl
          have ecs := HCS.out.2 j hlt
          rw [hp] at ecs
          obtain ⟨c, hcc⟩ : ∃ c, cAt y.cells p = c := ⟨_, rfl⟩
          rw [hcc] at g0 g1 g2 g3 hck ecs
          have hbw := I5.bel
          have u0 := (hbw.cell (p := ⟨b, off + p * 3, none⟩) hb).trans g0
          have u1 := (hbw.cell (p := ⟨b, off + p * 3 + 1, none⟩) hb).trans g1
          have u2 := (hbw.cell (p := ⟨b, off + p * 3 + 2, none⟩) hb).trans g2
          have r1 := I5.r1
          have hq : (j : Int).tmod (CY : Int) = (p : Int) := by rw [Int.tmod_eq_emod_of_nonneg (by omega), ← hp]; rfl
          have hCY1 : ¬ CY = 0 := by omega
          have hp0 : (0 : Int) ≤ (p : Int) := by omega
          have hp1 : (p : Int) < (CY : Int) := by omega
          have hg3 : CeIn (ArIn n lo' wr.drew) lo' wr.drew c (.int .i64 c.1) (.int .i64 c.2.1) (.slice (ab p) c.2.2.length (cb p)) := g3.mono (Nat.le_refl _) hbw.drew fun x v h => h.next hbw.drew
          have LC := lcopyCell_any hg3 (Nat.le_trans hlo' hbw.size) hck
          obtain ⟨nb, hnb⟩ : ∃ nb, c.2.2.length = nb := ⟨_, rfl⟩
          generalize ab p = abp at *
          generalize cb p = cbp at *
          have C : Hid (Calls Try.prog 57 #[.agg #[.int .i64 c.1, .int .i64 c.2.1, .slice abp nb cbp]] wr.drew fun e w' => (∃ a' cap', e = .returned (.agg #[.int .i64 c.1, .int .i64 c.2.1, .slice a' nb cap']) ∧ CeIn (ArIn n (w4.heap.size + 1) w') (w4.heap.size + 1) w' (cAt cs j) (.int .i64 c.1) (.int .i64 c.2.1) (.slice a' nb cap')) ∧ Below wr.heap.size wr w') := by
            rw [hnb] at LC
            refine LC.mono ?_
            rintro e w' ⟨⟨a', cap', rfl, hce⟩, hb'⟩
            rw [hnb] at hce ⊢
            refine ⟨⟨a', cap', rfl, ?_⟩, ((Below.refl _ _).drew).trans hb'⟩
            rw [ecs]
            exact hce.mono hsz (Below.refl _ _) fun x v h => h.mono hsz (Below.refl _ _)
          rw [hnb] at u2
          have HBL : Hid (w4.heap.size < wr.heap.size ∧ b < wr.heap.size ∧ w.heap.size + 1 < wr.heap.size ∧ b < w4.heap.size ∧ w.heap.size + 1 < w4.heap.size) := ⟨by omega, Nat.lt_of_lt_of_le hb hbw.size, by have := I5.size; omega, by have := HI3.out.bel.size; omega, by have := HBS.out; omega⟩
          have HD : Hid (∀ w1 : World, Below wr.heap.size wr w1 → w1.cell? ⟨w4.heap.size, j * 3, none⟩ = some (F (j * 3)) ∧ w1.cell? ⟨w4.heap.size, j * 3 + 1, none⟩ = some (F (j * 3 + 1)) ∧ w1.cell? ⟨w4.heap.size, j * 3 + 2, none⟩ = some (F (j * 3 + 2)) ∧ w1.frozen? ⟨w4.heap.size, j * 3, none⟩ = false ∧ w1.frozen? ⟨w4.heap.size, j * 3 + 1, none⟩ = false ∧ w1.frozen? ⟨w4.heap.size, j * 3 + 2, none⟩ = false) := by
            intro w1 h
            have r1 : w1.rowIs w4.heap.size 36 (N * 3) F := hr.of_block (h.block _ (by omega))
            exact ⟨r1.cell (by omega), r1.cell (by omega), r1.cell (by omega), r1.frozen _, r1.frozen _, r1.frozen _⟩
          have KS : Hid (∀ w1 : World, Below wr.heap.size wr w1 → (w1.cell? ⟨w.heap.size + 1, 1, none⟩ = some (.slice (some ⟨b, off, none⟩) CY d2) ∧ w1.cell? ⟨b, off + p * 3, none⟩ = some (.int .i64 c.1) ∧ w1.cell? ⟨b, off + p * 3 + 1, none⟩ = some (.int .i64 c.2.1) ∧ w1.cell? ⟨b, off + p * 3 + 2, none⟩ = some (.slice abp nb cbp))) := fun w1 h => ⟨(h.cell (p := ⟨w.heap.size + 1, 1, none⟩) HBL.out.2.2.1).trans r1, (h.cell (p := ⟨b, off + p * 3, none⟩) HBL.out.2.1).trans u0, (h.cell (p := ⟨b, off + p * 3 + 1, none⟩) HBL.out.2.1).trans u1, (h.cell (p := ⟨b, off + p * 3 + 2, none⟩) HBL.out.2.1).trans u2⟩
          have D0 : Hid (Below wr.heap.size wr wr.drew) := (Below.refl _ _).drew
          have KT : Hid (∀ (w1 : World) (v0 v1 v2 : Value), (w1.cell? ⟨w.heap.size + 1, 1, none⟩ = some (.slice (some ⟨b, off, none⟩) CY d2) ∧ w1.cell? ⟨b, off + p * 3, none⟩ = some (.int .i64 c.1) ∧ w1.cell? ⟨b, off + p * 3 + 1, none⟩ = some (.int .i64 c.2.1) ∧ w1.cell? ⟨b, off + p * 3 + 2, none⟩ = some (.slice abp nb cbp)) → ((((w1.setCell ⟨w4.heap.size, j * 3, none⟩ v0).setCell ⟨w4.heap.size, j * 3 + 1, none⟩ v1).setCell ⟨w4.heap.size, j * 3 + 2, none⟩ v2).cell? ⟨w.heap.size + 1, 1, none⟩ = some (.slice (some ⟨b, off, none⟩) CY d2) ∧ (((w1.setCell ⟨w4.heap.size, j * 3, none⟩ v0).setCell ⟨w4.heap.size, j * 3 + 1, none⟩ v1).setCell ⟨w4.heap.size, j * 3 + 2, none⟩ v2).cell? ⟨b, off + p * 3, none⟩ = some (.int .i64 c.1) ∧ (((w1.setCell ⟨w4.heap.size, j * 3, none⟩ v0).setCell ⟨w4.heap.size, j * 3 + 1, none⟩ v1).setCell ⟨w4.heap.size, j * 3 + 2, none⟩ v2).cell? ⟨b, off + p * 3 + 1, none⟩ = some (.int .i64 c.2.1) ∧ (((w1.setCell ⟨w4.heap.size, j * 3, none⟩ v0).setCell ⟨w4.heap.size, j * 3 + 1, none⟩ v1).setCell ⟨w4.heap.size, j * 3 + 2, none⟩ v2).cell? ⟨b, off + p * 3 + 2, none⟩ = some (.slice abp nb cbp))) := by
            rintro w1 v0 v1 v2 ⟨g0, g1, g2, g3⟩
            have ap : ∀ (b i : Nat) (v : Value), b ≠ w4.heap.size → w1.cell? ⟨b, i, none⟩ = some v → (((w1.setCell ⟨w4.heap.size, j * 3, none⟩ v0).setCell ⟨w4.heap.size, j * 3 + 1, none⟩ v1).setCell ⟨w4.heap.size, j * 3 + 2, none⟩ v2).cell? ⟨b, i, none⟩ = some v := fun b i v hne hv => cell_apart (p := ⟨b, i, none⟩) (q := ⟨w4.heap.size, j * 3 + 2, none⟩) hne _ (cell_apart (p := ⟨b, i, none⟩) (q := ⟨w4.heap.size, j * 3 + 1, none⟩) hne _ (cell_apart (p := ⟨b, i, none⟩) (q := ⟨w4.heap.size, j * 3, none⟩) hne _ hv))
            have hl := HBL.out
            exact ⟨ap _ _ _ (by omega) g0, ap _ _ _ (by omega) g1, ap _ _ _ (by omega) g2, ap _ _ _ (by omega) g3⟩
          have HEND : Hid (∀ w1 v0 v1 v2, Below wr.heap.size wr w1 → CeIn (ArIn n (w4.heap.size + 1) w1) (w4.heap.size + 1) w1 (cAt cs j) v0 v1 v2 → Below w4.heap.size w4 (((w1.setCell ⟨w4.heap.size, j * 3, none⟩ v0).setCell ⟨w4.heap.size, j * 3 + 1, none⟩ v1).setCell ⟨w4.heap.size, j * 3 + 2, none⟩ v2) ∧ w4.heap.size + 1 ≤ (((w1.setCell ⟨w4.heap.size, j * 3, none⟩ v0).setCell ⟨w4.heap.size, j * 3 + 1, none⟩ v1).setCell ⟨w4.heap.size, j * 3 + 2, none⟩ v2).heap.size ∧ ∃ F', (((w1.setCell ⟨w4.heap.size, j * 3, none⟩ v0).setCell ⟨w4.heap.size, j * 3 + 1, none⟩ v1).setCell ⟨w4.heap.size, j * 3 + 2, none⟩ v2).rowIs w4.heap.size 36 (N * 3) F' ∧ ∀ i, i < j + 1 → CeIn (ArIn n (w4.heap.size + 1) (((w1.setCell ⟨w4.heap.size, j * 3, none⟩ v0).setCell ⟨w4.heap.size, j * 3 + 1, none⟩ v1).setCell ⟨w4.heap.size, j * 3 + 2, none⟩ v2)) (w4.heap.size + 1) (((w1.setCell ⟨w4.heap.size, j * 3, none⟩ v0).setCell ⟨w4.heap.size, j * 3 + 1, none⟩ v1).setCell ⟨w4.heap.size, j * 3 + 2, none⟩ v2) (cAt cs i) (F' (i * 3)) (F' (i * 3 + 1)) (F' (i * 3 + 2))) := by
            intro w1 v0 v1 v2 hb hnew
            refine ⟨(((hnx.trans (hb.mono hnx.size)).setCell (p := ⟨w4.heap.size, j * 3, none⟩) (Nat.le_refl _) v0).setCell (p := ⟨w4.heap.size, j * 3 + 1, none⟩) (Nat.le_refl _) v1).setCell (p := ⟨w4.heap.size, j * 3 + 2, none⟩) (Nat.le_refl _) v2, ?_, fam_step (by omega) hb (by omega) hr hF v0 v1 v2 hnew⟩
            have : (((w1.setCell ⟨w4.heap.size, j * 3, none⟩ v0).setCell ⟨w4.heap.size, j * 3 + 1, none⟩ v1).setCell ⟨w4.heap.size, j * 3 + 2, none⟩ v2).heap.size = w1.heap.size := by simp
            rw [this]; exact Nat.le_trans hsz hb.size
          clear I5 g0 g1 g2 g3 hg3 LC hck hcc ecs hcells hr hF hbw hb hpl hp r1 u0 u1 u2 hnb HCF HG
          go_wp2
          go_region_held3 (fun W => W.cell? ⟨w.heap.size + 1, 1, none⟩ = some (.slice (some ⟨b, off, none⟩) CY d2) ∧ W.cell? ⟨b, off + p * 3, none⟩ = some (.int .i64 c.1) ∧ W.cell? ⟨b, off + p * 3 + 1, none⟩ = some (.int .i64 c.2.1) ∧ W.cell? ⟨b, off + p * 3 + 2, none⟩ = some (.slice abp nb cbp))
            (first | exact KS.out _ D0.out | exact KS.out _ (by assumption) | exact KT.out _ _ _ _ (by assumption))
            (first
              | (go_at_call 57; refine C.out.mono ?_; rintro e w1 ⟨⟨a', cap', rfl, hce⟩, hb1⟩; obtain ⟨y0, y1, y2, y3, y4, y5⟩ := HD.out _ hb1))
          have HFIN := hide (HEND.out w1 _ _ _ hb1 hce)
          clear HEND KT KS D0 HD C y0 y1 y2 y3 y4 y5 hce hb1
          go_wp2
          go_roundw
          case rel => exact ⟨j + 1, by omega, by go_num, HFIN.out⟩
          case measure => simp [intOf]; omega
        · have hje : j = N := by omega
          subst hje
          have p0 := I5.p0
          have p1 := I5.p1
          have f0 := I5.f0
          have f1 := I5.f1
          have R5 := HR3'.out.next hnx
          have hCS : CellsIn n (w.heap.size + 3) wr cs (some ⟨w4.heap.size, 0, none⟩) := by
            have hbs := HBS.out
            refine Or.inr ⟨w4.heap.size, 0, rfl, by omega, by omega, fun i hi => ?_⟩
            rw [HCS.out.1] at hi
            rw [Nat.zero_add]
            exact ⟨_, _, _, hr.cell (by omega), hr.cell (by omega), hr.cell (by omega), (hF i hi).mono (by omega) (Below.refl _ _) fun x v h => h.mono (by omega) (Below.refl _ _)⟩
          have hA : ArIn (n + 1) (w.heap.size + 3) wr (.mk l cs) (.agg #[.slice al l.length cl, .slice (some ⟨w4.heap.size, 0, none⟩) j j]) := arIn_mk (x := .mk l cs) R5 (by show cs.length ≤ _; rw [HCS.out.1]; omega) hCS rfl HCS.out.1
          have HT := hide (I5.put (.slice al l.length cl) (.slice (some ⟨w4.heap.size, 0, none⟩) j j))
          have HF := hide (I5.give hA (Nat.le_refl _))
          have HFI := hide I5.fin
          clear I5 hA hCS R5 hr hF hnx HCF HG
          go_wp2
          exact bodyPost_ret (v := .tuple #[.agg #[.slice al l.length cl, .slice (some ⟨w4.heap.size, 0, none⟩) j j], .int .i64 0]) (by simp [results, Try.results24, go_sem, HT.out.1, HT.out.2]) rfl (gives2_of HE5.out (HF.out _ _) (HFI.out _ _))
    · have hN' : ¬ (0 : Int) < (N : Int) := by omega
      clear hguard
      go_wp2
      clear mk r1 p0 p1 f0 f1
      go_loopw [56] (fun i wr => ∃ j : Nat, j ≤ N ∧ i = .int .i64 (j : Int) ∧ Below w4.heap.size w4 wr ∧ w4.heap.size + 1 ≤ wr.heap.size ∧ ∃ F, wr.rowIs w4.heap.size 36 (N * 3) F ∧ ∀ i, i < j → CeIn (ArIn n (w4.heap.size + 1) wr) (w4.heap.size + 1) wr (cAt cs i) (F (i * 3)) (F (i * 3 + 1)) (F (i * 3 + 2))) (fun i _ => N - (intOf i).toNat)
      case atStart => exact ⟨0, Nat.zero_le _, rfl, one_alloc _ _, by have := HZ4.out; omega, zero3, RM.out, fun i hi => absurd hi (by omega)⟩
      case round =>
        clear RM HI4 HZ4
        obtain ⟨j, hj, rfl, hnx, hsz, F, hr, hF⟩ := hrel
        have I5 := HI3.out.next hnx
        by_cases hlt : j < N
        · have hC0 := HG.out (by omega)
          obtain ⟨b, off, rfl, -, hb, hcells⟩ := HCF.out (by omega)
          obtain ⟨p, hp⟩ : ∃ p, j % CY = p := ⟨_, rfl⟩
          have hpl : p < CY := by rw [← hp]; exact Nat.mod_lt _ (by omega)
          obtain ⟨g0, g1, g2, g3⟩ := hcells p hpl
          have hck := HCK.out p hpl
          have ecs := HCS.out.2 j hlt
          rw [hp] at ecs
          obtain ⟨c, hcc⟩ : ∃ c, cAt y.cells p = c := ⟨_, rfl⟩
          rw [hcc] at g0 g1 g2 g3 hck ecs
          have hbw := I5.bel
          have u0 := (hbw.cell (p := ⟨b, off + p * 3, none⟩) hb).trans g0
          have u1 := (hbw.cell (p := ⟨b, off + p * 3 + 1, none⟩) hb).trans g1
          have u2 := (hbw.cell (p := ⟨b, off + p * 3 + 2, none⟩) hb).trans g2
          have r1 := I5.r1
          have hq : (j : Int).tmod (CY : Int) = (p : Int) := by rw [Int.tmod_eq_emod_of_nonneg (by omega), ← hp]; rfl
          have hCY1 : ¬ CY = 0 := by omega
          have hp0 : (0 : Int) ≤ (p : Int) := by omega
          have hp1 : (p : Int) < (CY : Int) := by omega
          have hg3 : CeIn (ArIn n lo' wr.drew) lo' wr.drew c (.int .i64 c.1) (.int .i64 c.2.1) (.slice (ab p) c.2.2.length (cb p)) := g3.mono (Nat.le_refl _) hbw.drew fun x v h => h.next hbw.drew
          have LC := lcopyCell_any hg3 (Nat.le_trans hlo' hbw.size) hck
          obtain ⟨nb, hnb⟩ : ∃ nb, c.2.2.length = nb := ⟨_, rfl⟩
          generalize ab p = abp at *
          generalize cb p = cbp at *
          have C : Hid (Calls Try.prog 57 #[.agg #[.int .i64 c.1, .int .i64 c.2.1, .slice abp nb cbp]] wr.drew fun e w' => (∃ a' cap', e = .returned (.agg #[.int .i64 c.1, .int .i64 c.2.1, .slice a' nb cap']) ∧ CeIn (ArIn n (w4.heap.size + 1) w') (w4.heap.size + 1) w' (cAt cs j) (.int .i64 c.1) (.int .i64 c.2.1) (.slice a' nb cap')) ∧ Below wr.heap.size wr w') := by
            rw [hnb] at LC
            refine LC.mono ?_
            rintro e w' ⟨⟨a', cap', rfl, hce⟩, hb'⟩
            rw [hnb] at hce ⊢
            refine ⟨⟨a', cap', rfl, ?_⟩, ((Below.refl _ _).drew).trans hb'⟩
            rw [ecs]
            exact hce.mono hsz (Below.refl _ _) fun x v h => h.mono hsz (Below.refl _ _)
          rw [hnb] at u2
          have HBL : Hid (w4.heap.size < wr.heap.size ∧ b < wr.heap.size ∧ w.heap.size + 1 < wr.heap.size ∧ b < w4.heap.size ∧ w.heap.size + 1 < w4.heap.size) := ⟨by omega, Nat.lt_of_lt_of_le hb hbw.size, by have := I5.size; omega, by have := HI3.out.bel.size; omega, by have := HBS.out; omega⟩
          have HD : Hid (∀ w1 : World, Below wr.heap.size wr w1 → w1.cell? ⟨w4.heap.size, j * 3, none⟩ = some (F (j * 3)) ∧ w1.cell? ⟨w4.heap.size, j * 3 + 1, none⟩ = some (F (j * 3 + 1)) ∧ w1.cell? ⟨w4.heap.size, j * 3 + 2, none⟩ = some (F (j * 3 + 2)) ∧ w1.frozen? ⟨w4.heap.size, j * 3, none⟩ = false ∧ w1.frozen? ⟨w4.heap.size, j * 3 + 1, none⟩ = false ∧ w1.frozen? ⟨w4.heap.size, j * 3 + 2, none⟩ = false) := by
            intro w1 h
            have r1 : w1.rowIs w4.heap.size 36 (N * 3) F := hr.of_block (h.block _ (by omega))
            exact ⟨r1.cell (by omega), r1.cell (by omega), r1.cell (by omega), r1.frozen _, r1.frozen _, r1.frozen _⟩
          have KS : Hid (∀ w1 : World, Below wr.heap.size wr w1 → (w1.cell? ⟨w.heap.size + 1, 1, none⟩ = some (.slice (some ⟨b, off, none⟩) CY d2) ∧ w1.cell? ⟨b, off + p * 3, none⟩ = some (.int .i64 c.1) ∧ w1.cell? ⟨b, off + p * 3 + 1, none⟩ = some (.int .i64 c.2.1) ∧ w1.cell? ⟨b, off + p * 3 + 2, none⟩ = some (.slice abp nb cbp))) := fun w1 h => ⟨(h.cell (p := ⟨w.heap.size + 1, 1, none⟩) HBL.out.2.2.1).trans r1, (h.cell (p := ⟨b, off + p * 3, none⟩) HBL.out.2.1).trans u0, (h.cell (p := ⟨b, off + p * 3 + 1, none⟩) HBL.out.2.1).trans u1, (h.cell (p := ⟨b, off + p * 3 + 2, none⟩) HBL.out.2.1).trans u2⟩
          have D0 : Hid (Below wr.heap.size wr wr.drew) := (Below.refl _ _).drew
          have KT : Hid (∀ (w1 : World) (v0 v1 v2 : Value), (w1.cell? ⟨w.heap.size + 1, 1, none⟩ = some (.slice (some ⟨b, off, none⟩) CY d2) ∧ w1.cell? ⟨b, off + p * 3, none⟩ = some (.int .i64 c.1) ∧ w1.cell? ⟨b, off + p * 3 + 1, none⟩ = some (.int .i64 c.2.1) ∧ w1.cell? ⟨b, off + p * 3 + 2, none⟩ = some (.slice abp nb cbp)) → ((((w1.setCell ⟨w4.heap.size, j * 3, none⟩ v0).setCell ⟨w4.heap.size, j * 3 + 1, none⟩ v1).setCell ⟨w4.heap.size, j * 3 + 2, none⟩ v2).cell? ⟨w.heap.size + 1, 1, none⟩ = some (.slice (some ⟨b, off, none⟩) CY d2) ∧ (((w1.setCell ⟨w4.heap.size, j * 3, none⟩ v0).setCell ⟨w4.heap.size, j * 3 + 1, none⟩ v1).setCell ⟨w4.heap.size, j * 3 + 2, none⟩ v2).cell? ⟨b, off + p * 3, none⟩ = some (.int .i64 c.1) ∧ (((w1.setCell ⟨w4.heap.size, j * 3, none⟩ v0).setCell ⟨w4.heap.size, j * 3 + 1, none⟩ v1).setCell ⟨w4.heap.size, j * 3 + 2, none⟩ v2).cell? ⟨b, off + p * 3 + 1, none⟩ = some (.int .i64 c.2.1) ∧ (((w1.setCell ⟨w4.heap.size, j * 3, none⟩ v0).setCell ⟨w4.heap.size, j * 3 + 1, none⟩ v1).setCell ⟨w4.heap.size, j * 3 + 2, none⟩ v2).cell? ⟨b, off + p * 3 + 2, none⟩ = some (.slice abp nb cbp))) := by
            rintro w1 v0 v1 v2 ⟨g0, g1, g2, g3⟩
            have ap : ∀ (b i : Nat) (v : Value), b ≠ w4.heap.size → w1.cell? ⟨b, i, none⟩ = some v → (((w1.setCell ⟨w4.heap.size, j * 3, none⟩ v0).setCell ⟨w4.heap.size, j * 3 + 1, none⟩ v1).setCell ⟨w4.heap.size, j * 3 + 2, none⟩ v2).cell? ⟨b, i, none⟩ = some v := fun b i v hne hv => cell_apart (p := ⟨b, i, none⟩) (q := ⟨w4.heap.size, j * 3 + 2, none⟩) hne _ (cell_apart (p := ⟨b, i, none⟩) (q := ⟨w4.heap.size, j * 3 + 1, none⟩) hne _ (cell_apart (p := ⟨b, i, none⟩) (q := ⟨w4.heap.size, j * 3, none⟩) hne _ hv))
            have hl := HBL.out
            exact ⟨ap _ _ _ (by omega) g0, ap _ _ _ (by omega) g1, ap _ _ _ (by omega) g2, ap _ _ _ (by omega) g3⟩
          have HEND : Hid (∀ w1 v0 v1 v2, Below wr.heap.size wr w1 → CeIn (ArIn n (w4.heap.size + 1) w1) (w4.heap.size + 1) w1 (cAt cs j) v0 v1 v2 → Below w4.heap.size w4 (((w1.setCell ⟨w4.heap.size, j * 3, none⟩ v0).setCell ⟨w4.heap.size, j * 3 + 1, none⟩ v1).setCell ⟨w4.heap.size, j * 3 + 2, none⟩ v2) ∧ w4.heap.size + 1 ≤ (((w1.setCell ⟨w4.heap.size, j * 3, none⟩ v0).setCell ⟨w4.heap.size, j * 3 + 1, none⟩ v1).setCell ⟨w4.heap.size, j * 3 + 2, none⟩ v2).heap.size ∧ ∃ F', (((w1.setCell ⟨w4.heap.size, j * 3, none⟩ v0).setCell ⟨w4.heap.size, j * 3 + 1, none⟩ v1).setCell ⟨w4.heap.size, j * 3 + 2, none⟩ v2).rowIs w4.heap.size 36 (N * 3) F' ∧ ∀ i, i < j + 1 → CeIn (ArIn n (w4.heap.size + 1) (((w1.setCell ⟨w4.heap.size, j * 3, none⟩ v0).setCell ⟨w4.heap.size, j * 3 + 1, none⟩ v1).setCell ⟨w4.heap.size, j * 3 + 2, none⟩ v2)) (w4.heap.size + 1) (((w1.setCell ⟨w4.heap.size, j * 3, none⟩ v0).setCell ⟨w4.heap.size, j * 3 + 1, none⟩ v1).setCell ⟨w4.heap.size, j * 3 + 2, none⟩ v2) (cAt cs i) (F' (i * 3)) (F' (i * 3 + 1)) (F' (i * 3 + 2))) := by
            intro w1 v0 v1 v2 hb hnew
            refine ⟨(((hnx.trans (hb.mono hnx.size)).setCell (p := ⟨w4.heap.size, j * 3, none⟩) (Nat.le_refl _) v0).setCell (p := ⟨w4.heap.size, j * 3 + 1, none⟩) (Nat.le_refl _) v1).setCell (p := ⟨w4.heap.size, j * 3 + 2, none⟩) (Nat.le_refl _) v2, ?_, fam_step (by omega) hb (by omega) hr hF v0 v1 v2 hnew⟩
            have : (((w1.setCell ⟨w4.heap.size, j * 3, none⟩ v0).setCell ⟨w4.heap.size, j * 3 + 1, none⟩ v1).setCell ⟨w4.heap.size, j * 3 + 2, none⟩ v2).heap.size = w1.heap.size := by simp
            rw [this]; exact Nat.le_trans hsz hb.size
          clear I5 g0 g1 g2 g3 hg3 LC hck hcc ecs hcells hr hF hbw hb hpl hp r1 u0 u1 u2 hnb HCF HG
          go_wp2
          go_region_held3 (fun W => W.cell? ⟨w.heap.size + 1, 1, none⟩ = some (.slice (some ⟨b, off, none⟩) CY d2) ∧ W.cell? ⟨b, off + p * 3, none⟩ = some (.int .i64 c.1) ∧ W.cell? ⟨b, off + p * 3 + 1, none⟩ = some (.int .i64 c.2.1) ∧ W.cell? ⟨b, off + p * 3 + 2, none⟩ = some (.slice abp nb cbp))
            (first | exact KS.out _ D0.out | exact KS.out _ (by assumption) | exact KT.out _ _ _ _ (by assumption))
            (first
              | (go_at_call 57; refine C.out.mono ?_; rintro e w1 ⟨⟨a', cap', rfl, hce⟩, hb1⟩; obtain ⟨y0, y1, y2, y3, y4, y5⟩ := HD.out _ hb1))
          have HFIN := hide (HEND.out w1 _ _ _ hb1 hce)
          clear HEND KT KS D0 HD C y0 y1 y2 y3 y4 y5 hce hb1
          go_wp2
          go_roundw
          case rel => exact ⟨j + 1, by omega, by go_num, HFIN.out⟩
          case measure => simp [intOf]; omega
        · have hje : j = N := by omega
          subst hje
          have p0 := I5.p0
          have p1 := I5.p1
          have f0 := I5.f0
          have f1 := I5.f1
          have R5 := HR3'.out.next hnx
          have hCS : CellsIn n (w.heap.size + 3) wr cs (some ⟨w4.heap.size, 0, none⟩) := by
            have hbs := HBS.out
            refine Or.inr ⟨w4.heap.size, 0, rfl, by omega, by omega, fun i hi => ?_⟩
            rw [HCS.out.1] at hi
            rw [Nat.zero_add]
            exact ⟨_, _, _, hr.cell (by omega), hr.cell (by omega), hr.cell (by omega), (hF i hi).mono (by omega) (Below.refl _ _) fun x v h => h.mono (by omega) (Below.refl _ _)⟩
          have hA : ArIn (n + 1) (w.heap.size + 3) wr (.mk l cs) (.agg #[.slice al l.length cl, .slice (some ⟨w4.heap.size, 0, none⟩) j j]) := arIn_mk (x := .mk l cs) R5 (by show cs.length ≤ _; rw [HCS.out.1]; omega) hCS rfl HCS.out.1
          have HT := hide (I5.put (.slice al l.length cl) (.slice (some ⟨w4.heap.size, 0, none⟩) j j))
          have HF := hide (I5.give hA (Nat.le_refl _))
          have HFI := hide I5.fin
          clear I5 hA hCS R5 hr hF hnx HCF HG
          go_wp2
          exact bodyPost_ret (v := .tuple #[.agg #[.slice al l.length cl, .slice (some ⟨w4.heap.size, 0, none⟩) j j], .int .i64 0]) (by simp [results, Try.results24, go_sem, HT.out.1, HT.out.2]) rfl (gives2_of HE5.out (HF.out _ _) (HFI.out _ _))
end Go.Proofs.Ytmjncdhahdpplaa
namespace Go.Proofs.Ytmjncdhahdpplaa
open Go.ChangeShapes Go.WideShapes Go.ChangeAt Go.RowKit
set_option linter.unusedVariables false
/-- append onto a row of the call's own, as one step of a region. -/
theorem step_append_own {P : Program} {w : World} {ops : Array Oper} {o : Oper} {a : Act} {K : Act → World → Prop} {Q : Exit → Act → World → Prop} {E : Prop} (hg : o.guard = none) (s x : Operand) (t : TypeId)
    (ho : o.op = .call { callee := .builtin .append, args := #[s, x], argTypes := #[t, t] })
    (base : Nat) (e : TypeId) (i : TypeInfo) (z : Value) (size bytes : Nat) (ht : P.underlying t = some (.slice e)) (hi : P.info? e = some i) (hz : i.zero = some z)
    (hsize : i.size = size) (hby : i.bytes = bytes) (hzs : z.cells.size = size) (hsz : 0 < size)
    (v : Value) (n : Nat) (xs : List Value) (hs : a.eval s = v) (hown : w.ownsRow base e size v n xs)
    (ad : Addr) (m c : Nat) (news : List Value) (hx : a.eval x = .slice (some ad) m c) (hl : news.length = m * size) (hnews : ∀ j u, news[j]? = some u → w.cell? (ad.add j) = some u) (h1 : ∀ u ∈ news, u.oneCell' = true)
    (h63 : n + m ≤ maxLen) (hbytes : (n + m) * bytes ≤ 140737488355328) (hbase : base ≤ w.heap.size)
    (h : ∀ v' w', w'.ownsRow base e size v' (n + m) (xs ++ news) → Below base w w' → K (a.put o.dst v') w') : if Region.wanted o (yielded ops a.tmps) = true then Oper.wp P o a w K Q else E := by
  have hw : Region.wanted o (yielded ops a.tmps) = true := by simp [Region.wanted, hg]
  rw [if_pos hw]
  refine wp_append_own w s x t ho base e i z size bytes ht hi hz hsize hby hzs hsz v n xs hs hown ad m c news hx hl hnews h1 h63 hbytes hbase ?_
  intro v' w' hown' hgrow _
  exact h v' w' hown' ((Below.refl _ _).grown hgrow hbase (fun q hq => (hown.lt q hq).1))
/-- What the row holds that append has put together, up to number j. -/
def rowF (k : Int) (l : List Int) (j : Nat) : List Value := (List.range (j * 3)).map (numF k l l.length)
theorem rowF_step (k : Int) (l : List Int) (j : Nat) (hj : j < l.length) : rowF k l (j + 1) = rowF k l j ++ [.int .i64 k, .int .i64 (l[j]?.getD 0), .slice none 0 0] := by
  unfold rowF
  have e : (j + 1) * 3 = j * 3 + 1 + 1 + 1 := by omega
  rw [e, List.range_succ, List.range_succ, List.range_succ]
  simp only [List.map_append, List.map_cons, List.map_nil, List.append_assoc, List.cons_append, List.nil_append]
  have f0 : numF k l l.length (j * 3) = .int .i64 k := by
    unfold numF; rw [if_pos (by omega), if_pos (by omega)]
  have f1 : numF k l l.length (j * 3 + 1) = .int .i64 (l[j]?.getD 0) := by
    unfold numF; rw [if_pos (by omega), if_neg (by omega), if_pos (by omega), show (j * 3 + 1) / 3 = j by omega]
  have f2 : numF k l l.length (j * 3 + 1 + 1) = .slice none 0 0 := by
    unfold numF; rw [if_pos (by omega), if_neg (by omega), if_neg (by omega)]
  rw [f0, f1, f2]
theorem owns_form {w : World} {base n : Nat} {e : TypeId} {v : Value} {xs : List Value} (h : w.ownsRow base e 3 v n xs) (hn : 0 < n) : ∃ g cap, v = .slice (some ⟨g, 0, none⟩) n cap ∧ base ≤ g ∧ g < w.heap.size := by
  obtain ⟨h1, h2⟩ := h
  rcases h2 with ⟨rfl, h2⟩ | ⟨g, cap, cur, rfl, hb, hg, -⟩
  · omega
  · exact ⟨g, cap, rfl, hb, lt_of_block hg⟩
theorem owns_cells {w : World} {base lo n : Nat} {v : Value} (k : Int) (l : List Int) (h : w.ownsRow base 36 3 v l.length (rowF k l l.length)) (hlo : lo ≤ base) :
    ∃ a2 cap, v = .slice a2 l.length cap ∧ CellsIn n lo w (numCs k l) a2 := by
  have h' := h
  obtain ⟨h1, h2⟩ := h'
  rcases h2 with ⟨rfl, h2⟩ | ⟨g, cap, cur, rfl, hb, hg, -⟩
  · have e : l = [] := List.eq_nil_of_length_eq_zero h2
    subst e
    exact ⟨none, 0, rfl, Or.inl rfl⟩
  · refine ⟨_, cap, rfl, Or.inr ⟨g, 0, rfl, by omega, lt_of_block hg, ?_⟩⟩
    intro i hi
    rw [numCs_len] at hi
    rw [numCs_at k l i hi]
    have hc : ∀ m, m < l.length * 3 → w.cell? ⟨g, m, none⟩ = some (numF k l l.length m) := by
      intro m hm
      have := h.cellAt m (by simpa [rowF] using hm)
      rw [this]
      simp [rowF, hm]
    have f0 : numF k l l.length (i * 3) = .int .i64 k := by
      unfold numF; rw [if_pos (by omega), if_pos (by omega)]
    have f1 : numF k l l.length (i * 3 + 1) = .int .i64 (l[i]?.getD 0) := by
      unfold numF; rw [if_pos (by omega), if_neg (by omega), if_pos (by omega), show (i * 3 + 1) / 3 = i by omega]
    have f2 : numF k l l.length (i * 3 + 2) = .slice none 0 0 := by
      unfold numF; rw [if_pos (by omega), if_neg (by omega), if_neg (by omega)]
    have h0 := hc (i * 3) (by omega)
    have h1 := hc (i * 3 + 1) (by omega)
    have h2 := hc (i * 3 + 2) (by omega)
    rw [f0] at h0
    rw [f1] at h1
    rw [f2] at h2
    rw [Nat.zero_add]
    exact ⟨_, _, _, h0, h1, h2, rfl, rfl, none, 0, rfl, by simp, Or.inl rfl⟩
end Go.Proofs.Ytmjncdhahdpplaa
namespace Go.Proofs.Ytmjncdhahdpplaa
open Go.ChangeShapes Go.WideShapes Go.ChangeAt Go.RowKit
set_option linter.unusedVariables false
set_option maxRecDepth 100000
/-- What holds while the document's Nums or Text goes on: its answer's place (block s), the array (block o, its shape sv) and its cells so far. -/
def Inv (s o : Nat) (sv : Value) (k : Int) (l : List Int) (j : Nat) (v : Value) (w wr : World) : Prop :=
  Below s w wr ∧ o < wr.heap.size ∧ (wr.cell? ⟨s, 0, none⟩ = some (.slice none 0 0) ∧ wr.cell? ⟨s, 1, none⟩ = some (.slice none 0 0) ∧ wr.frozen? ⟨s, 0, none⟩ = false ∧ wr.frozen? ⟨s, 1, none⟩ = false) ∧
  (wr.cell? ⟨o, 0, none⟩ = some sv ∧ wr.cell? ⟨o, 1, none⟩ = some v ∧ wr.frozen? ⟨o, 0, none⟩ = false ∧ wr.frozen? ⟨o, 1, none⟩ = false) ∧ wr.ownsRow (o + 1) 36 3 v j (rowF k l j)
theorem frozen_set (w : World) (a b : Addr) (v : Value) (h : w.frozen? b = false) : (w.setCell a v).frozen? b = false := by
  simpa using h
theorem inv_step {s o : Nat} {sv : Value} {k : Int} {l : List Int} {j : Nat} {v v' : Value} {w wr w1 : World} (so : s < o) (h : Inv s o sv k l j v w wr) (hb : Below (o + 1) wr w1) (hown : w1.ownsRow (o + 1) 36 3 v' (j + 1) (rowF k l (j + 1))) : Inv s o sv k l (j + 1) v' w (w1.setCell ⟨o, 1, none⟩ v') := by
  obtain ⟨h1, h2, ⟨c0, c1, c2, c3⟩, ⟨d0, d1, d2, d3⟩, -⟩ := h
  have e0 : w1.cell? ⟨o, 0, none⟩ = some sv := (hb.cell (p := ⟨o, 0, none⟩) (by show o < _; omega)).trans d0
  have e1 : w1.cell? ⟨o, 1, none⟩ = some v := (hb.cell (p := ⟨o, 1, none⟩) (by show o < _; omega)).trans d1
  refine ⟨(h1.trans (hb.mono (by omega))).setCell (p := ⟨o, 1, none⟩) (by show s ≤ o; omega) _, ?_, ⟨?_, ?_, ?_, ?_⟩, ⟨?_, ?_, ?_, ?_⟩, ownsRow_setCell_below hown (a := ⟨o, 1, none⟩) (by show o < _; omega) _⟩
  · have : (w1.setCell ⟨o, 1, none⟩ v').heap.size = w1.heap.size := by simp
    rw [this]; exact Nat.lt_of_lt_of_le h2 hb.size
  · exact cell_apart (p := ⟨s, 0, none⟩) (q := ⟨o, 1, none⟩) (by show s ≠ o; omega) _ ((hb.cell (p := ⟨s, 0, none⟩) (by show s < _; omega)).trans c0)
  · exact cell_apart (p := ⟨s, 1, none⟩) (q := ⟨o, 1, none⟩) (by show s ≠ o; omega) _ ((hb.cell (p := ⟨s, 1, none⟩) (by show s < _; omega)).trans c1)
  · exact frozen_set _ _ _ _ ((hb.frozen (p := ⟨s, 0, none⟩) (by show s < _; omega)).trans c2)
  · exact frozen_set _ _ _ _ ((hb.frozen (p := ⟨s, 1, none⟩) (by show s < _; omega)).trans c3)
  · rw [World.cell?_setCell_other _ _ _ _ (by simp)]; exact e0
  · exact World.cell?_setCell_same' _ _ _ (by rw [e1]; rfl)
  · exact frozen_set _ _ _ _ ((hb.frozen (p := ⟨o, 0, none⟩) (by show o < _; omega)).trans d2)
  · exact frozen_set _ _ _ _ ((hb.frozen (p := ⟨o, 1, none⟩) (by show o < _; omega)).trans d3)
theorem info33' : ∃ i, Try.prog.info? 36 = some i ∧ i.zero = some (.agg #[.int .i64 0, .int .i64 0, .slice none 0 0]) ∧ i.size = 3 ∧ i.bytes = 40 := by
  obtain ⟨i, hi, hzz⟩ := Option.map_eq_some_iff.1 info33
  simp only [Prod.mk.injEq] at hzz
  exact ⟨i, hi, hzz.1, hzz.2.1, hzz.2.2⟩
theorem owns_drew {w : World} {base e size n : Nat} {v : Value} {xs : List Value} (h : w.ownsRow base e size v n xs) : w.drew.ownsRow base e size v n xs := h
set_option maxHeartbeats 4000000 in
theorem rnums_any {lo : Nat} (n : Nat) (l : List Int) (a : Option Addr) (cap : Nat) (w : World) (R : Row lo w a l) (hl : l.length ≤ 16384) :
    Calls Try.prog 25 #[.slice a l.length cap] w fun e w' => GivesA (n + 1) (numsA l) w e w' := by
  obtain ⟨i0, hi, hz0, hz1, hz2⟩ := info33'
  have hrow := @row_at _ _ _ _ R
  clear R
  have b1 : Below w.heap.size w ((w.alloc (.cells #[.slice none 0 0, .slice none 0 0] 25)).alloc (.cells #[.int .i64 (l.length : Int)] 3)) := two_allocs _ _ _
  have s1 := size_two w (.cells #[.slice none 0 0, .slice none 0 0] 25) (.cells #[.int .i64 (l.length : Int)] 3)
  have HST : Hid (Inv w.heap.size (w.heap.size + 2) (.slice (some ⟨w.heap.size + 1, 0, none⟩) 1 1) 0 l 0 (.slice none 0 0) w (((w.alloc (.cells #[.slice none 0 0, .slice none 0 0] 25)).alloc (.cells #[.int .i64 (l.length : Int)] 3)).alloc (.cells #[.slice (some ⟨w.heap.size + 1, 0, none⟩) 1 1, .slice none 0 0] 25))) := by
    have g := fun (b i : Nat) (v : Value) (hb : b < w.heap.size + 2) (h : ((w.alloc (.cells #[.slice none 0 0, .slice none 0 0] 25)).alloc (.cells #[.int .i64 (l.length : Int)] 3)).cell? ⟨b, i, none⟩ = some v) => ((one_alloc _ (.cells #[.slice (some ⟨w.heap.size + 1, 0, none⟩) 1 1, .slice none 0 0] 25)).cell (p := ⟨b, i, none⟩) (by rw [s1]; exact hb)).trans h
    have gf : ∀ i, (((w.alloc (.cells #[.slice none 0 0, .slice none 0 0] 25)).alloc (.cells #[.int .i64 (l.length : Int)] 3)).alloc (.cells #[.slice (some ⟨w.heap.size + 1, 0, none⟩) 1 1, .slice none 0 0] 25)).frozen? ⟨w.heap.size, i, none⟩ = false := fun i =>
      (((two_allocs (w.alloc (.cells #[.slice none 0 0, .slice none 0 0] 25)) (.cells #[.int .i64 (l.length : Int)] 3) (.cells #[.slice (some ⟨w.heap.size + 1, 0, none⟩) 1 1, .slice none 0 0] 25)).frozen (p := ⟨w.heap.size, i, none⟩) (by simp))).trans (frozen_new w _ 25 i)
    have n0 := cell_new0 ((w.alloc (.cells #[.slice none 0 0, .slice none 0 0] 25)).alloc (.cells #[.int .i64 (l.length : Int)] 3)) #[.slice (some ⟨w.heap.size + 1, 0, none⟩) 1 1, .slice none 0 0] 25 0 _ rfl
    have n1 := cell_new0 ((w.alloc (.cells #[.slice none 0 0, .slice none 0 0] 25)).alloc (.cells #[.int .i64 (l.length : Int)] 3)) #[.slice (some ⟨w.heap.size + 1, 0, none⟩) 1 1, .slice none 0 0] 25 1 _ rfl
    have nf := fun i => frozen_new ((w.alloc (.cells #[.slice none 0 0, .slice none 0 0] 25)).alloc (.cells #[.int .i64 (l.length : Int)] 3)) #[.slice (some ⟨w.heap.size + 1, 0, none⟩) 1 1, .slice none 0 0] 25 i
    rw [s1] at n0 n1 nf
    refine ⟨b1.trans ((one_alloc _ _).mono (by rw [s1]; omega)), by simp, ⟨g _ _ _ (by omega) (cell_new1 w _ 25 (0, 0) _ 0 _ rfl), g _ _ _ (by omega) (cell_new1 w _ 25 (0, 0) _ 1 _ rfl), gf 0, gf 1⟩, ⟨n0, n1, nf 0, nf 1⟩, ?_⟩
    exact World.ownsRow_nil _ _ _ _
  have HLEN : Hid ((((w.alloc (.cells #[.slice none 0 0, .slice none 0 0] 25)).alloc (.cells #[.int .i64 (l.length : Int)] 3)).alloc (.cells #[.slice (some ⟨w.heap.size + 1, 0, none⟩) 1 1, .slice none 0 0] 25)).cell? ⟨w.heap.size + 1, 0, none⟩ = some (.int .i64 (l.length : Int))) :=
    ((one_alloc _ (.cells #[.slice (some ⟨w.heap.size + 1, 0, none⟩) 1 1, .slice none 0 0] 25)).cell (p := ⟨w.heap.size + 1, 0, none⟩) (by rw [s1]; show w.heap.size + 1 < _; omega)).trans (cell_new2 w #[.int .i64 (l.length : Int)] 3 (0, 0) (.cells #[.slice none 0 0, .slice none 0 0] 25) 0 _ rfl)
  clear b1 s1
  go_enter Try.func25, Try.ntmps25
  go_wp2
  go_loopw [4] (fun i wr => ∃ (j : Nat) (v : Value), j ≤ l.length ∧ i = .int .i64 (j : Int) ∧ Inv w.heap.size (w.heap.size + 2) (.slice (some ⟨w.heap.size + 1, 0, none⟩) 1 1) 0 l j v w wr ∧ wr.cell? ⟨w.heap.size + 1, 0, none⟩ = some (.int .i64 (l.length : Int))) (fun i _ => l.length - (intOf i).toNat)
  case atStart => exact ⟨0, _, Nat.zero_le _, rfl, HST.out, HLEN.out⟩
  case round =>
    clear HST HLEN
    obtain ⟨j, v, hj, rfl, hinv, hlen⟩ := hrel
    have HI := hide hinv
    have HL := hide hlen
    obtain ⟨hnx, hsz, ⟨c0, c1, c2, c3⟩, ⟨d0, d1, d2, d3⟩, hown⟩ := hinv
    by_cases hlt : j < l.length
    · obtain ⟨b, off, ha, hb, hck⟩ := hrow hlt
      subst ha
      have hc1 : wr.cell? ⟨b, off + j, none⟩ = some (.int .i64 (l[j]?.getD 0)) := (hnx.cell (p := ⟨b, off + j, none⟩) hb).trans hck
      have hc2 : ∀ o, (wr.drew.alloc o).cell? ⟨w.heap.size + 2, 1, none⟩ = some v := fun o => ((one_alloc wr.drew o).cell (p := ⟨w.heap.size + 2, 1, none⟩) hsz).trans d1
      have HSTEP := hide (rowF_step 0 l j hlt)
      generalize l[j]?.getD 0 = z at *
      have HOWN := hide ((owns_drew hown).alloc (.cells #[.int .i64 0, .int .i64 z, .slice none 0 0] 36))
      have HNEWS : Hid (∀ i u, [Value.int .i64 0, .int .i64 z, .slice none 0 0][i]? = some u → (wr.drew.alloc (.cells #[.int .i64 0, .int .i64 z, .slice none 0 0] 36)).cell? ((⟨wr.heap.size, 0, none⟩ : Addr).add i) = some u) := by
        intro i u hu
        have ha : (⟨wr.heap.size, 0, none⟩ : Addr).add i = ⟨wr.drew.heap.size, i, none⟩ := by
          unfold Addr.add
          split
          · subst_vars; rfl
          · simp
        rw [ha]
        exact cell_new0 wr.drew _ 36 i u (by simpa using hu)
      have HONE : Hid (∀ u ∈ [Value.int .i64 0, .int .i64 z, .slice none 0 0], u.oneCell' = true) := by
        intro u hu
        simp at hu
        rcases hu with rfl | rfl | rfl <;> rfl
      have HMAX : Hid (j + 1 ≤ maxLen ∧ (j + 1) * 40 ≤ 140737488355328 ∧ w.heap.size + 2 + 1 ≤ (wr.drew.alloc (.cells #[.int .i64 0, .int .i64 z, .slice none 0 0] 36)).heap.size) := by
        refine ⟨by unfold maxLen; omega, by omega, ?_⟩
        have : (wr.drew.alloc (.cells #[.int .i64 0, .int .i64 z, .slice none 0 0] 36)).heap.size = wr.heap.size + 1 := by simp
        omega
      have HAL : Hid (Below (w.heap.size + 2 + 1) wr (wr.drew.alloc (.cells #[.int .i64 0, .int .i64 z, .slice none 0 0] 36))) := ((Below.refl _ _).drew).alloc (by show _ ≤ wr.heap.size; omega) _
      clear hown hck hrow hlen c0 c1 c2 c3 d0 d2 hb hnx
      go_wp2
      go_region_law (refine step_append_own rfl (.tmp 16) (.tmp 22) 23 rfl (w.heap.size + 2 + 1) 36 i0 (.agg #[.int .i64 0, .int .i64 0, .slice none 0 0]) 3 40 Try.underlying23 hi hz0 hz1 hz2 rfl (by decide) v j (rowF 0 l j) rfl HOWN.out ⟨wr.heap.size, 0, none⟩ 1 1 [.int .i64 0, .int .i64 z, .slice none 0 0] rfl rfl HNEWS.out HONE.out HMAX.out.1 HMAX.out.2.1 HMAX.out.2.2 ?_; intro v' w1 hown1 hb1; obtain ⟨g, cp, rfl, -⟩ := owns_form hown1 (Nat.succ_pos j); have dd1 := (HAL.out.trans hb1).cell (p := ⟨w.heap.size + 2, 1, none⟩) (Nat.lt_succ_self _) |>.trans d1; have dd3 := (HAL.out.trans hb1).frozen (p := ⟨w.heap.size + 2, 1, none⟩) (Nat.lt_succ_self _) |>.trans d3)
      all_goals
        have hown2 : w1.ownsRow (w.heap.size + 2 + 1) 36 3 (.slice (some ⟨g, 0, none⟩) (j + 1) cp) (j + 1) (rowF 0 l (j + 1)) := by rw [HSTEP.out]; exact hown1
        have HN := hide (inv_step (by omega) HI.out (HAL.out.trans hb1) hown2)
        have HN2 : Hid ((w1.setCell ⟨w.heap.size + 2, 1, none⟩ (.slice (some ⟨g, 0, none⟩) (j + 1) cp)).cell? ⟨w.heap.size + 1, 0, none⟩ = some (.int .i64 (l.length : Int))) := cell_apart (p := ⟨w.heap.size + 1, 0, none⟩) (q := ⟨w.heap.size + 2, 1, none⟩) (by show w.heap.size + 1 ≠ w.heap.size + 2; omega) _ (((HAL.out.trans hb1).cell (p := ⟨w.heap.size + 1, 0, none⟩) (by show w.heap.size + 1 < _; omega)).trans HL.out)
        clear hown1 hown2 hb1 dd1 dd3 HOWN HNEWS HONE HMAX HAL HI HL HSTEP
        go_wp2
        go_roundw
        case rel => exact ⟨j + 1, _, by omega, by go_num, HN.out, HN2.out⟩
        case measure => simp [intOf]; omega
    · have hje : j = l.length := by omega
      subst hje
      obtain ⟨a2, cp, rfl, hcs⟩ := owns_cells (n := n) (lo := w.heap.size + 2 + 1) 0 l hown (Nat.le_refl _)
      have HF : Hid (∀ x y, ArIn (n + 1) w.heap.size ((wr.setCell ⟨w.heap.size, 0, none⟩ x).setCell ⟨w.heap.size, 1, none⟩ y) (numsA l) (.agg #[.slice (some ⟨w.heap.size + 1, 0, none⟩) 1 1, .slice a2 l.length cp])) := by
        intro x y
        have hk : Keeps (w.heap.size + 1) wr ((wr.setCell ⟨w.heap.size, 0, none⟩ x).setCell ⟨w.heap.size, 1, none⟩ y) := ((Keeps.refl _ _).setCell (p := ⟨w.heap.size, 0, none⟩) (by show w.heap.size < _; omega) x).setCell (p := ⟨w.heap.size, 1, none⟩) (by show w.heap.size < _; omega) y
        refine arIn_mk (x := numsA l) ?_ (by simp [numsA, Ar.cells, numCs_len]; omega) ?_ rfl (numCs_len 0 l)
        · exact ((row_one (lo := w.heap.size + 1) (b := w.heap.size + 1) (by omega) (Nat.le_refl _) HL.out).keeps hk).low (by omega)
        · exact ((hcs.mono (lo' := w.heap.size + 1) (by omega) (Below.refl _ _)).keeps hk).mono (by omega) (Below.refl _ _)
      have HT := hide (set_two c0 c1 (.slice (some ⟨w.heap.size + 1, 0, none⟩) 1 1) (.slice a2 l.length cp))
      have HB := hide hnx
      clear hown hrow hcs HI HL hnx
      go_wp2
      exact bodyPost_ret (v := .agg #[.slice (some ⟨w.heap.size + 1, 0, none⟩) 1 1, .slice a2 l.length cp]) (by simp [results, Try.results25, go_sem, HT.out.1, HT.out.2]) rfl ⟨⟨_, rfl, HF.out _ _⟩, (HB.out.setCell (p := ⟨w.heap.size, 0, none⟩) (Nat.le_refl _) _).setCell (p := ⟨w.heap.size, 1, none⟩) (Nat.le_refl _) _⟩
end Go.Proofs.Ytmjncdhahdpplaa
namespace Go.Proofs.Ytmjncdhahdpplaa
open Go.ChangeShapes Go.WideShapes Go.ChangeAt Go.RowKit
set_option linter.unusedVariables false
set_option maxRecDepth 100000
theorem weight_any' {n lo : Nat} {x : Ar} {va : Value} {w : World} (hx : ArIn n lo w x va) : Calls Try.prog 23 #[va, .int .i64 3000] w fun e w' => (∃ r : Int, e = .returned (.int .i64 r)) ∧ Below w.heap.size w w' := by
  have C := fun w' hb => weigh_any 16 (Nat.le_refl _) n x lo va w' 3000 (hx.next hb) (by omega) (by omega)
  cases n with
  | zero => exact hx.elim
  | succ n =>
    obtain ⟨a1, c1, a2, c2, rfl, -⟩ := hx
    generalize x.shape.length = SA at *
    generalize x.cells.length = CA at *
    have C1 := C _ (one_alloc w (.cells #[.slice a1 SA c1, .slice a2 CA c2] 25))
    clear C
    go_enter Try.func23, Try.ntmps23
    go_wp2_with fail
    refine C1.mono ?_
    rintro e w1 ⟨⟨r, rfl, -, -, hr⟩, hb1⟩
    clear hr
    go_wp2
    go_ret
    exact ⟨⟨r, rfl⟩, (one_alloc _ _).trans (hb1.mono (one_alloc _ _).size)⟩
theorem light_any {n lo : Nat} {x : Ar} {va : Value} {w : World} (hx : ArIn n lo w x va) : Calls Try.prog 11 #[va] w fun e w' => (∃ r : Bool, e = .returned (.bool r)) ∧ Below w.heap.size w w' := by
  have C := fun w' hb => weight_any' (w := w') (hx.next hb)
  cases n with
  | zero => exact hx.elim
  | succ n =>
    obtain ⟨a1, c1, a2, c2, rfl, -⟩ := hx
    generalize x.shape.length = SA at *
    generalize x.cells.length = CA at *
    have C1 := C _ (one_alloc w (.cells #[.slice a1 SA c1, .slice a2 CA c2] 25))
    clear C
    go_enter Try.func11, Try.ntmps11
    go_wp2_with fail
    refine C1.mono ?_
    rintro e w1 ⟨⟨r, rfl⟩, hb1⟩
    go_wp2
    go_ret
    exact ⟨⟨_, rfl⟩, (one_alloc _ _).trans (hb1.mono (one_alloc _ _).size)⟩
def sixA : Ar := .mk [2, 3] (numCs 0 (upL 6))
theorem w_iota (n : Nat) : moR n 5 (atomA 6) = (numsA (upL 6), 0) := by
  rw [moR_ok (chk_atom 6), if_pos rfl]
  rfl
theorem chk_six : chkA 8 (numsA (upL 6)) = 0 := chk_nums _ (by decide)
theorem chk_two : chkA 8 (numsA [2, 3]) = 0 := chk_nums _ (by decide)
theorem w_resh : reshR (numsA [2, 3]) (numsA (upL 6)) = (sixA, 0) := by
  have e : reshE (numsA [2, 3]) (numsA (upL 6)) = 0 := by
    unfold reshE
    rw [chk_two, chk_six]
    decide
  unfold reshR
  rw [if_pos e]
  rfl
theorem chk_sixA : chkA 8 sixA = 0 := by
  refine chk_of (x := numsA (upL 6)) chk_six (by decide) (by decide) (by decide) fun i hi => ⟨i, hi, rfl⟩
theorem w_flip (n : Nat) : moR n 11 sixA = (flipR sixA, 0) := by
  rw [moR_ok chk_sixA]
  rfl
theorem w_zero (n : Nat) : moR n 0 (numsA (upL 6)) = (zeroA, 1) := by
  rw [moR_ok chk_six]
  rfl
theorem flip_six : (flipR sixA).shape = [3, 2] ∧ (flipR sixA).cells.length = 6 ∧ (cAt (flipR sixA).cells 1).2.1 = 3 := by
  refine ⟨rfl, rfl, ?_⟩
  decide
set_option maxHeartbeats 4000000 in
theorem works_any (w : World) : Calls Try.prog 12 #[] w fun e w' => e = .returned (.bool true) ∧ Below w.heap.size w w' := by
  go_enter Try.func12, Try.ntmps12
  go_wp2_with fail
  refine (ratom_any 0 6 w).mono ?_
  rintro e w1 ⟨⟨va, rfl, hva⟩, hb1⟩
  obtain ⟨a1, k1, a2, k2, rfl, -, -⟩ := hva.form
  have C1 := mo_any hva 5 (fun h => absurd h (by decide))
  rw [w_iota] at C1
  simp only [atomA, Ar.shape, Ar.cells, numCs, List.map_cons, List.map_nil, List.length_cons, List.length_nil, Nat.zero_add] at C1 ⊢
  have HB1 := hide hb1
  clear hva hb1
  go_wp2_with fail
  refine C1.mono ?_
  rintro e w2 ⟨⟨v, rfl, hv⟩, hb2⟩
  obtain ⟨x1, m1, x2, m2, rfl, -, -⟩ := hv.form
  have es : (numsA (upL 6)).shape.length = 1 := rfl
  have ec : (numsA (upL 6)).cells.length = 6 := rfl
  simp only [es, ec] at hv ⊢
  have B2 : Below w.heap.size w w2 := HB1.out.trans (hb2.mono HB1.out.size)
  obtain ⟨W3, e3⟩ : ∃ W3, w2.alloc (.cells #[.slice x1 1 m1, .slice x2 6 m2] 25) = W3 := ⟨_, rfl⟩
  have B3 : Below w2.heap.size w2 W3 := by rw [← e3]; exact one_alloc _ _
  have z3 : W3.heap.size = w2.heap.size + 1 := by rw [← e3]; simp
  have q0 : W3.cell? ⟨w2.heap.size, 0, none⟩ = some (.slice x1 1 m1) := by rw [← e3]; exact cell_new0 w2 _ 25 0 _ rfl
  have q1 : W3.cell? ⟨w2.heap.size, 1, none⟩ = some (.slice x2 6 m2) := by rw [← e3]; exact cell_new0 w2 _ 25 1 _ rfl
  have BW : Below w.heap.size w W3 := B2.trans (B3.mono B2.size)
  have HV : Hid (∀ W, Below W3.heap.size W3 W → ArIn 2 0 W (numsA (upL 6)) (.agg #[.slice x1 1 m1, .slice x2 6 m2])) := fun W h => (hv.next B3).mono (Nat.zero_le _) h
  have HBW := hide BW
  have hlt : w2.heap.size < W3.heap.size := by omega
  have KQ : Hid (∀ W, Below W3.heap.size W3 W → W.cell? ⟨w2.heap.size, 0, none⟩ = some (.slice x1 1 m1) ∧ W.cell? ⟨w2.heap.size, 1, none⟩ = some (.slice x2 6 m2)) := fun W h => ⟨(h.cell (p := ⟨w2.heap.size, 0, none⟩) hlt).trans q0, (h.cell (p := ⟨w2.heap.size, 1, none⟩) hlt).trans q1⟩
  have CN : Hid (∀ W b, Below W3.heap.size W3 W → Row 0 W (some ⟨b, 0, none⟩) [2, 3] → Calls Try.prog 25 #[.slice (some ⟨b, 0, none⟩) 2 2] W fun e w' => (∃ y1 n1 y2 n2, e = .returned (.agg #[.slice y1 1 n1, .slice y2 2 n2]) ∧ ArIn 1 0 w' (numsA [2, 3]) (.agg #[.slice y1 1 n1, .slice y2 2 n2])) ∧ Below W3.heap.size W3 w' ∧ Below W.heap.size W w') := by
    intro W b h hR
    refine (rnums_any 0 [2, 3] _ 2 W hR (by decide)).mono ?_
    rintro e w' ⟨⟨v, rfl, hv⟩, hb⟩
    obtain ⟨y1, n1, y2, n2, rfl, -, -⟩ := hv.form
    exact ⟨⟨_, _, _, _, rfl, hv.mono (Nat.zero_le _) (Below.refl _ _)⟩, h.trans (hb.mono h.size), hb⟩
  have CR : Hid (∀ W, Below W3.heap.size W3 W → ∀ y1 n1 y2 n2, ArIn 1 0 W (numsA [2, 3]) (.agg #[.slice y1 1 n1, .slice y2 2 n2]) → Calls Try.prog 24 #[.agg #[.slice y1 1 n1, .slice y2 2 n2], .agg #[.slice x1 1 m1, .slice x2 6 m2]] W fun e w' => (∃ z1 l1 z2 l2, e = .returned (.tuple #[.agg #[.slice z1 2 l1, .slice z2 6 l2], .int .i64 0]) ∧ ArIn 2 W.heap.size w' sixA (.agg #[.slice z1 2 l1, .slice z2 6 l2])) ∧ Below W3.heap.size W3 w' ∧ Below W.heap.size W w') := by
    intro W h y1 n1 y2 n2 hn
    have := reshape_any hn (HV.out W h) (Nat.zero_le _)
    rw [w_resh] at this
    refine this.mono ?_
    rintro e w' ⟨⟨v, rfl, hv⟩, hb⟩
    obtain ⟨z1, l1, z2, l2, rfl, -, -⟩ := hv.form
    exact ⟨⟨_, _, _, _, rfl, hv⟩, h.trans (hb.mono h.size), hb⟩
  have HA : Hid (Below W3.heap.size W3 (W3.alloc (.cells #[.int .i64 2, .int .i64 3] 2)).drew ∧ Row 0 (W3.alloc (.cells #[.int .i64 2, .int .i64 3] 2)).drew (some ⟨W3.heap.size, 0, none⟩) [2, 3]) := ⟨(one_alloc _ _).drew, (row_new W3 [2, 3] 2 (0, 0) (by simp)).low (Nat.zero_le _)⟩
  have HZ0 : Hid (∀ (X w4 : World), Below (X.alloc (.cells #[.slice none 0 0, .slice none 0 0] 25)).heap.size (X.alloc (.cells #[.slice none 0 0, .slice none 0 0] 25)) w4 → w4.cell? ⟨X.heap.size, 0, none⟩ = some (.slice none 0 0) ∧ w4.cell? ⟨X.heap.size, 1, none⟩ = some (.slice none 0 0) ∧ w4.frozen? ⟨X.heap.size, 0, none⟩ = false ∧ w4.frozen? ⟨X.heap.size, 1, none⟩ = false ∧ X.heap.size < w4.heap.size) := by
    intro X w4 h
    have hs : (X.alloc (.cells #[.slice none 0 0, .slice none 0 0] 25)).heap.size = X.heap.size + 1 := by simp
    exact ⟨(h.cell (p := ⟨X.heap.size, 0, none⟩) (by show X.heap.size < _; omega)).trans (cell_new0 X _ 25 0 _ rfl), (h.cell (p := ⟨X.heap.size, 1, none⟩) (by show X.heap.size < _; omega)).trans (cell_new0 X _ 25 1 _ rfl), (h.frozen (p := ⟨X.heap.size, 0, none⟩) (by show X.heap.size < _; omega)).trans (frozen_new X _ 25 0), (h.frozen (p := ⟨X.heap.size, 1, none⟩) (by show X.heap.size < _; omega)).trans (frozen_new X _ 25 1), by have := h.size; omega⟩
  have sL : (W3.alloc (.cells #[.int .i64 2, .int .i64 3] 2)).heap.size = W3.heap.size + 1 := by simp
  have sZ : (W3.alloc (.cells #[.slice none 0 0, .slice none 0 0] 25)).heap.size = W3.heap.size + 1 := by simp
  have HB : Hid (Below W3.heap.size W3 ((W3.alloc (.cells #[.slice none 0 0, .slice none 0 0] 25)).alloc (.cells #[.int .i64 2, .int .i64 3] 2)).drew ∧ Row 0 ((W3.alloc (.cells #[.slice none 0 0, .slice none 0 0] 25)).alloc (.cells #[.int .i64 2, .int .i64 3] 2)).drew (some ⟨W3.heap.size + 1, 0, none⟩) [2, 3]) := ⟨(two_allocs W3 _ _).drew, by
    have := (row_new (W3.alloc (.cells #[.slice none 0 0, .slice none 0 0] 25)) [2, 3] 2 (0, 0) (by simp)).low (Nat.zero_le _)
    rw [sZ] at this
    exact this⟩
  have HC : Hid (Below W3.heap.size W3 ((W3.alloc (.cells #[.int .i64 2, .int .i64 3] 2)).alloc (.cells #[.slice none 0 0, .slice none 0 0] 25)).drew ∧ Row 0 ((W3.alloc (.cells #[.int .i64 2, .int .i64 3] 2)).alloc (.cells #[.slice none 0 0, .slice none 0 0] 25)).drew (some ⟨W3.heap.size, 0, none⟩) [2, 3]) := ⟨(two_allocs W3 _ _).drew, Row.next (w := W3.alloc (.cells #[.int .i64 2, .int .i64 3] 2)) ((row_new W3 [2, 3] 2 (0, 0) (by simp)).low (Nat.zero_le _)) (one_alloc (W3.alloc (.cells #[.int .i64 2, .int .i64 3] 2)) (.cells #[.slice none 0 0, .slice none 0 0] 25)).drew⟩
  have HZB : Hid (∀ w4 : World, Below ((W3.alloc (.cells #[.slice none 0 0, .slice none 0 0] 25)).alloc (.cells #[.int .i64 2, .int .i64 3] 2)).drew.heap.size ((W3.alloc (.cells #[.slice none 0 0, .slice none 0 0] 25)).alloc (.cells #[.int .i64 2, .int .i64 3] 2)).drew w4 → w4.cell? ⟨W3.heap.size, 0, none⟩ = some (.slice none 0 0) ∧ w4.cell? ⟨W3.heap.size, 1, none⟩ = some (.slice none 0 0) ∧ w4.frozen? ⟨W3.heap.size, 0, none⟩ = false ∧ w4.frozen? ⟨W3.heap.size, 1, none⟩ = false ∧ W3.heap.size < w4.heap.size) := fun w4 h => HZ0.out W3 w4 (((one_alloc (W3.alloc (.cells #[.slice none 0 0, .slice none 0 0] 25)) (.cells #[.int .i64 2, .int .i64 3] 2)).drew).trans (h.mono (one_alloc (W3.alloc (.cells #[.slice none 0 0, .slice none 0 0] 25)) (.cells #[.int .i64 2, .int .i64 3] 2)).size))
  have HZC : Hid (∀ w4 : World, Below ((W3.alloc (.cells #[.int .i64 2, .int .i64 3] 2)).alloc (.cells #[.slice none 0 0, .slice none 0 0] 25)).drew.heap.size ((W3.alloc (.cells #[.int .i64 2, .int .i64 3] 2)).alloc (.cells #[.slice none 0 0, .slice none 0 0] 25)).drew w4 → w4.cell? ⟨W3.heap.size + 1, 0, none⟩ = some (.slice none 0 0) ∧ w4.cell? ⟨W3.heap.size + 1, 1, none⟩ = some (.slice none 0 0) ∧ w4.frozen? ⟨W3.heap.size + 1, 0, none⟩ = false ∧ w4.frozen? ⟨W3.heap.size + 1, 1, none⟩ = false ∧ W3.heap.size + 1 < w4.heap.size) := fun w4 h => by
    have := HZ0.out (W3.alloc (.cells #[.int .i64 2, .int .i64 3] 2)) w4 (((Below.refl _ _).drew).trans h)
    rw [sL] at this
    exact this
  have HUP : Hid (∀ (w4 w5 : World) (b : Nat), Below w4.heap.size w4 w5 → (w4.cell? ⟨b, 0, none⟩ = some (.slice none 0 0) ∧ w4.cell? ⟨b, 1, none⟩ = some (.slice none 0 0) ∧ w4.frozen? ⟨b, 0, none⟩ = false ∧ w4.frozen? ⟨b, 1, none⟩ = false ∧ b < w4.heap.size) → (w5.cell? ⟨b, 0, none⟩ = some (.slice none 0 0) ∧ w5.cell? ⟨b, 1, none⟩ = some (.slice none 0 0) ∧ w5.frozen? ⟨b, 0, none⟩ = false ∧ w5.frozen? ⟨b, 1, none⟩ = false ∧ b < w4.heap.size)) := fun w4 w5 b h ⟨h1, h2, h3, h4, h5⟩ => ⟨(h.cell (p := ⟨b, 0, none⟩) h5).trans h1, (h.cell (p := ⟨b, 1, none⟩) h5).trans h2, (h.frozen (p := ⟨b, 0, none⟩) h5).trans h3, (h.frozen (p := ⟨b, 1, none⟩) h5).trans h4, h5⟩
  have HZA : Hid (Below W3.heap.size W3 (W3.alloc (.cells #[.slice none 0 0, .slice none 0 0] 25)).drew) := (one_alloc _ _).drew
  have le0 : Hid (W3.heap.size ≤ W3.heap.size ∧ W3.heap.size ≤ W3.heap.size + 1) := ⟨Nat.le_refl _, Nat.le_succ _⟩
  clear sL sZ
  have KS : Hid (∀ W, Below W3.heap.size W3 W → (Below W3.heap.size W3 W ∧ W.cell? ⟨w2.heap.size, 0, none⟩ = some (.slice x1 1 m1) ∧ W.cell? ⟨w2.heap.size, 1, none⟩ = some (.slice x2 6 m2))) := fun W h => ⟨h, (KQ.out W h).1, (KQ.out W h).2⟩
  have HRR : Hid (Below W3.heap.size W3 W3.drew) := (Below.refl _ _).drew
  have HAL : Hid (∀ W o, Below W3.heap.size W3 W → Below W3.heap.size W3 (W.alloc o)) := fun W o h => h.alloc h.size o
  have HSET : Hid (∀ W b u v, Below W3.heap.size W3 W → W3.heap.size ≤ b → Below W3.heap.size W3 ((W.setCell ⟨b, 0, none⟩ u).setCell ⟨b, 1, none⟩ v)) := fun W b u v h hb => (h.setCell (p := ⟨b, 0, none⟩) hb u).setCell (p := ⟨b, 1, none⟩) hb v
  clear C1 hv hb2 B2 B3 BW hlt z3 es ec q0 q1
  go_wp2
  clear e3
  go_cut [3, 4] from 14 (fun s3 s4 wx => ∃ B z1 l1 z2 l2, s3 = .pointer (some ⟨B, 0, none⟩) ∧ s4 = .int .i64 0 ∧ Below W3.heap.size W3 wx ∧ (wx.cell? ⟨B, 0, none⟩ = some (.slice z1 2 l1) ∧ wx.cell? ⟨B, 1, none⟩ = some (.slice z2 6 l2)) ∧ ArIn 2 0 wx sixA (.agg #[.slice z1 2 l1, .slice z2 6 l2]) ∧ B < wx.heap.size)
  case first =>
    go_region_held3 (fun W => Below W3.heap.size W3 W ∧ W.cell? ⟨w2.heap.size, 0, none⟩ = some (.slice x1 1 m1) ∧ W.cell? ⟨w2.heap.size, 1, none⟩ = some (.slice x2 6 m2))
      (first | with_reducible exact KS.out _ HA.out.1 | with_reducible exact KS.out _ HB.out.1 | with_reducible exact KS.out _ HC.out.1 | with_reducible exact KS.out _ HRR.out | with_reducible exact KS.out _ HZA.out | with_reducible exact KS.out _ (by with_reducible assumption) | with_reducible exact KS.out _ (HAL.out _ _ (by with_reducible assumption)) | with_reducible exact KS.out _ (HSET.out _ _ _ _ (by with_reducible assumption) (by with_reducible assumption)) | with_reducible exact KS.out _ (HSET.out _ _ _ _ (by with_reducible assumption) le0.out.1) | with_reducible exact KS.out _ (HSET.out _ _ _ _ (by with_reducible assumption) le0.out.2))
      (first
        | (go_at_call 25; first
            | (with_reducible refine (CN.out _ _ HA.out.1 HA.out.2).mono ?_; rintro e w4 ⟨⟨y1, n1, y2, n2, rfl, hy⟩, g4, hb4⟩; have hs4 := g4.size; clear hb4; have tt : ∀ w5, Below w4.heap.size w4 w5 → True := fun _ _ => trivial)
            | (with_reducible refine (CN.out _ _ HB.out.1 HB.out.2).mono ?_; rintro e w4 ⟨⟨y1, n1, y2, n2, rfl, hy⟩, g4, hb4⟩; have tt := fun w5 h => HUP.out w4 w5 _ h (HZB.out w4 hb4); clear hb4)
            | (with_reducible refine (CN.out _ _ HC.out.1 HC.out.2).mono ?_; rintro e w4 ⟨⟨y1, n1, y2, n2, rfl, hy⟩, g4, hb4⟩; have tt := fun w5 h => HUP.out w4 w5 _ h (HZC.out w4 hb4); clear hb4))
        | (go_at_call 24; first
            | (with_reducible refine (CR.out w4 g4 y1 n1 y2 n2 hy).mono ?_; rintro e w5 ⟨⟨z1, l1, z2, l2, rfl, hz⟩, g5, hb5⟩; have t := tt w5 hb5; clear tt)
            | (with_reducible refine (CR.out (w4.alloc (.cells #[.slice none 0 0, .slice none 0 0] 25)) (g4.alloc g4.size _) y1 n1 y2 n2 (hy.next (one_alloc _ _))).mono ?_; rintro e w5 ⟨⟨z1, l1, z2, l2, rfl, hz⟩, g5, hb5⟩; have t := HZ0.out w4 w5 hb5; clear tt)))
    all_goals
      go_wp2
      go_meet
    all_goals
      case rel =>
        first
          | exact ⟨w5.heap.size, z1, l1, z2, l2, rfl, rfl, HAL.out _ _ g5, ⟨cell_new0 w5 _ 25 0 _ rfl, cell_new0 w5 _ 25 1 _ rfl⟩, (hz.next (one_alloc _ _)).mono (Nat.zero_le _) (Below.refl _ _), by simp⟩
          | (have hsz : (w4.alloc (.cells #[.slice none 0 0, .slice none 0 0] 25)).heap.size = w4.heap.size + 1 := by simp
             have st := set_two t.1 t.2.1 (.slice z1 2 l1) (.slice z2 6 l2)
             have hk : Keeps (w4.heap.size + 1) w5 ((w5.setCell ⟨w4.heap.size, 0, none⟩ (.slice z1 2 l1)).setCell ⟨w4.heap.size, 1, none⟩ (.slice z2 6 l2)) := ((Keeps.refl _ _).setCell (p := ⟨w4.heap.size, 0, none⟩) (Nat.lt_succ_self _) _).setCell (p := ⟨w4.heap.size, 1, none⟩) (Nat.lt_succ_self _) _
             rw [hsz] at hz
             exact ⟨w4.heap.size, z1, l1, z2, l2, rfl, rfl, HSET.out _ _ _ _ g5 hs4, ⟨by rw [World.cell?_setCell_other _ _ _ _ (by simp)]; exact st.1, st.2⟩, (hz.keeps hk).mono (Nat.zero_le _) (Below.refl _ _), by have := t.2.2.2.2; simpa using this⟩)
          | (have st := set_two t.1 t.2.1 (.slice z1 2 l1) (.slice z2 6 l2)
             have hk := ((Keeps.refl w4.heap.size w5).setCell (p := ⟨W3.heap.size, 0, none⟩) t.2.2.2.2 (.slice z1 2 l1)).setCell (p := ⟨W3.heap.size, 1, none⟩) t.2.2.2.2 (.slice z2 6 l2)
             exact ⟨W3.heap.size, z1, l1, z2, l2, rfl, rfl, HSET.out _ _ _ _ g5 (Nat.le_refl _), ⟨by rw [World.cell?_setCell_other _ _ _ _ (by simp)]; exact st.1, st.2⟩, (hz.keeps hk).mono (Nat.zero_le _) (Below.refl _ _), by have := Nat.lt_of_lt_of_le t.2.2.2.2 hb5.size; simpa using this⟩)
          | (have st := set_two t.1 t.2.1 (.slice z1 2 l1) (.slice z2 6 l2)
             have hk := ((Keeps.refl w4.heap.size w5).setCell (p := ⟨W3.heap.size + 1, 0, none⟩) t.2.2.2.2 (.slice z1 2 l1)).setCell (p := ⟨W3.heap.size + 1, 1, none⟩) t.2.2.2.2 (.slice z2 6 l2)
             exact ⟨W3.heap.size + 1, z1, l1, z2, l2, rfl, rfl, HSET.out _ _ _ _ g5 (Nat.le_succ _), ⟨by rw [World.cell?_setCell_other _ _ _ _ (by simp)]; exact st.1, st.2⟩, (hz.keeps hk).mono (Nat.zero_le _) (Below.refl _ _), by have := Nat.lt_of_lt_of_le t.2.2.2.2 hb5.size; simpa using this⟩)
  case rest =>
    obtain ⟨B, z1, l1, z2, l2, rfl, rfl, g6, ⟨c0, c1⟩, hz, hBl⟩ := hcut
    clear CN CR HA HB HC HZB HZC HZ0 HUP HZA le0 KS HAL HSET HRR
    have C3 := mo_any hz 11 (fun h => absurd h (by decide))
    rw [w_flip] at C3
    obtain ⟨d0, d1⟩ := KQ.out _ g6
    have HG6 := hide g6
    clear g6 hz
    go_wp2_with fail
    refine C3.mono ?_
    rintro e w7 ⟨⟨v, rfl, hv⟩, hb7⟩
    obtain ⟨f1, j1, f2, j2, rfl, hR, hcs⟩ := hv.form
    obtain ⟨s1, s2, s3⟩ := flip_six
    have e1 : (flipR sixA).shape.length = 2 := by rw [s1]; rfl
    obtain ⟨p, q, rfl, hp, hpc⟩ := row_at hR (j := 0) (by rw [s1]; decide)
    have hpc' : w7.cell? ⟨p, q, none⟩ = some (.int .i64 3) := by rw [s1] at hpc; simpa using hpc
    obtain ⟨ab, cb, hcf⟩ := cells_fn hcs
    obtain ⟨r, o, rfl, -, hr, hcells⟩ := hcf (by rw [s2]; decide)
    have hrc := (hcells 1 (by rw [s2]; decide)).2.1
    rw [s3] at hrc
    have hrc' : w7.cell? ⟨r, o + 3 + 1, none⟩ = some (.int .i64 3) := by simpa using hrc
    rw [e1, s2] at hv ⊢
    have g7 : Below W3.heap.size W3 w7 := HG6.out.trans (hb7.mono HG6.out.size)
    obtain ⟨W8, e8⟩ : ∃ W8, w7.alloc (.cells #[.slice (some ⟨p, q, none⟩) 2 j1, .slice (some ⟨r, o, none⟩) 6 j2] 25) = W8 := ⟨_, rfl⟩
    have B8 : Below w7.heap.size w7 W8 := by rw [← e8]; exact one_alloc _ _
    have z8 : W8.heap.size = w7.heap.size + 1 := by rw [← e8]; simp
    have v0 : W8.cell? ⟨w7.heap.size, 0, none⟩ = some (.slice (some ⟨p, q, none⟩) 2 j1) := by rw [← e8]; exact cell_new0 w7 _ 25 0 _ rfl
    have v1 : W8.cell? ⟨w7.heap.size, 1, none⟩ = some (.slice (some ⟨r, o, none⟩) 6 j2) := by rw [← e8]; exact cell_new0 w7 _ 25 1 _ rfl
    have g8 : Below W3.heap.size W3 W8 := g7.trans (B8.mono g7.size)
    have C4 := mo_any (HV.out W8 g8) 0 (fun h => absurd h (by decide))
    rw [w_zero] at C4
    obtain ⟨k0, k1⟩ := KQ.out _ g8
    have hlt8 : w7.heap.size < W8.heap.size := by omega
    have HF := hide (And.intro v0 (And.intro v1 (And.intro ((B8.cell (p := ⟨p, q, none⟩) hp).trans hpc') (And.intro ((B8.cell (p := ⟨r, o + 3 + 1, none⟩) hr).trans hrc') (And.intro hlt8 (And.intro (Nat.lt_of_lt_of_le hp B8.size) (Nat.lt_of_lt_of_le hr B8.size)))))))
    have HG8 := hide g8
    clear C3 hv hb7 hR hcs hcf hcells hrc hrc' hpc hpc' g7 g8 B8 z8 v0 v1 hlt8 s1 s2 s3 e1 hp hr HG6 c0 c1 d0 d1 hBl
    go_wp2_with fail
    clear e8
    refine C4.mono ?_
    rintro e w9 ⟨⟨v, rfl, hv⟩, hb9⟩
    obtain ⟨f1, n1, f2, n2, rfl, -, -⟩ := hv.form
    obtain ⟨t0, t1, t2, t3, t4, t5, t6⟩ := HF.out
    have ez : zeroA.shape.length = 0 := rfl
    have ec : zeroA.cells.length = 0 := rfl
    rw [ez, ec]
    have B10 : Below W8.heap.size W8 (w9.alloc (.cells #[.slice f1 0 n1, .slice f2 0 n2] 25)) := hb9.trans ((one_alloc w9 _).mono hb9.size)
    have u0 := (B10.cell (p := ⟨w7.heap.size, 0, none⟩) t4).trans t0
    have u1 := (B10.cell (p := ⟨w7.heap.size, 1, none⟩) t4).trans t1
    have u2 := (B10.cell (p := ⟨p, q, none⟩) t5).trans t2
    have u3 := (B10.cell (p := ⟨r, o + 3 + 1, none⟩) t6).trans t3
    have HBF : Hid (Below w.heap.size w (w9.alloc (.cells #[.slice f1 0 n1, .slice f2 0 n2] 25))) := (HBW.out.trans (HG8.out.mono HBW.out.size)).trans (B10.mono (Nat.le_trans HBW.out.size HG8.out.size))
    clear C4 hv hb9 HF t0 t1 t2 t3 t4 t5 t6 ez ec B10 HV KQ HG8 HBW k0 k1
    go_wp2
    go_ret
    exact ⟨rfl, HBF.out⟩
end Go.Proofs.Ytmjncdhahdpplaa
namespace Go.Proofs.Ytmjncdhahdpplaa
open Go.ChangeShapes Go.WideShapes Go.ChangeAt Go.RowKit Go.Deep
set_option linter.unusedVariables false
set_option maxRecDepth 100000
theorem arr_caps {H : Type} {enc : TypeId × Value → H} {W : World} {sp : Nat → Bool} {held : Bool} {d : DataW H} {c0 c1 : Value} {p : List MemPlace} (h : DataW.Trod enc Try.prog W 0 sp held 25 (.agg #[c0, c1]) d p) : Caps (.agg #[c0, c1]) := by
  obtain ⟨fuel, h⟩ := h
  obtain ⟨y0, y1, m, hx, hl, h0, h1⟩ := trod_struct2 Try.underlying25 h
  have hcs : (Value.agg #[c0, c1]).cells.toList = [c0, c1] := rfl
  rw [hcs] at h0 h1
  simp only [cells22, cells23, List.drop_zero, List.take_succ_cons, List.take_zero, List.drop_succ_cons] at h0 h1
  obtain ⟨a1, n1, k1, rfl, hk1⟩ : ∃ a1 n1 k1, c0 = .slice a1 n1 k1 ∧ n1 ≤ k1 := by
    rcases open_ints Try.underlying22 Try.underlying3 cells3 h0 with ⟨hcs, hx⟩ | ⟨a, l, c, zs, hcs, _, hlc, hm, hz, hx, hcell, hwz⟩
    · simp only [List.cons.injEq, and_true] at hcs
      exact ⟨none, 0, 0, hcs, Nat.le_refl _⟩
    · simp only [List.cons.injEq, and_true] at hcs
      exact ⟨_, _, _, hcs, hlc⟩
  obtain ⟨a2, n2, k2, rfl, hk2⟩ : ∃ a2 n2 k2, c1 = .slice a2 n2 k2 ∧ n2 ≤ k2 := by
    rcases open_slice Try.underlying23 h1 with ⟨hcs, hx⟩ | ⟨a, len, cap, mm, n, D, Pl, hcs, _, hlc, hm, hmm, hx, hel⟩
    · simp only [List.cons.injEq, and_true] at hcs
      exact ⟨none, 0, 0, hcs, Nat.le_refl _⟩
    · simp only [List.cons.injEq, and_true] at hcs
      exact ⟨_, _, _, hcs, hlc⟩
  exact ⟨a1, n1, k1, a2, n2, k2, rfl, hk1, hk2⟩
end Go.Proofs.Ytmjncdhahdpplaa
