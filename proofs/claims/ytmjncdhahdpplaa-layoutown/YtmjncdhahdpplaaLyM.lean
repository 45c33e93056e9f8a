/-
  The contract of layer 5's Mo: any function of one argument that looks at shapes, of any array.
-/
import Derived.Test.YtmjncdhahdpplaaLyJ
import Derived.Test.YtmjncdhahdpplaaLyL
import Derived.Deep.CutRange
namespace Go.Proofs.Ytmjncdhahdpplaa
open Go.ChangeShapes Go.WideShapes Go.ChangeAt Go.RowKit
set_option linter.unusedVariables false
set_option maxRecDepth 100000
theorem moR_ok {n : Nat} {op : Int} {x : Ar} (h : chkA 8 x = 0) : moR n op x = if op = 5 then iotaR x else if op = 6 then (numsA x.shape, 0) else if op = 7 then (atomA (tallyN x), 0) else if op = 8 then (ravelR x, 0) else
  if op = 9 then (revR x 0, 0) else if op = 10 then (revR x (x.shape.length - 1), 0) else if op = 11 then (flipR x, 0) else
  if op = 15 then enclR n x else if op = 16 then discR x else if op = 17 then firstR x else if op = 18 then listR x else (zeroA, 1) := by
  unfold moR
  rw [if_neg (fun k => k h)]
theorem gives2_eq {n lo : Nat} {w w' : World} {v : Value} {R R' : Ar × Int} (hR : R = R') (hx : ArIn n lo w' R'.1 v) (hb : Below w.heap.size w w') : Gives2 n lo R.1 R.2 w (.returned (.tuple #[v, .int .i64 R'.2])) w' := by
  subst hR
  exact ⟨⟨_, rfl, hx⟩, hb⟩
set_option maxHeartbeats 2000000 in
theorem mo_iota {n lo : Nat} {x : Ar} {va : Value} {w : World} (hx : ArIn (n + 1) lo w x va) (hchk : chkA 8 x = 0) : Calls Try.prog 13 #[.int .i64 5, va] w fun e w' => Gives2 (n + 2) w.heap.size (moR (n + 1) 5 x).1 (moR (n + 1) 5 x).2 w e w' := by
  obtain ⟨a1, c1, a2, c2, rfl, R, hc⟩ := hx.form
  have I := in2_new w (.slice a1 x.shape.length c1) (.slice a2 x.cells.length c2)
  obtain ⟨W2, e2⟩ : ∃ W2, (w.alloc (.cells #[.slice a1 x.shape.length c1, .slice a2 x.cells.length c2] 25)).alloc (.cells #[.slice none 0 0, .slice none 0 0] 25) = W2 := ⟨_, rfl⟩
  rw [e2] at I
  have q0 := I.q0
  have q1 := I.q1
  have hl := R.1
  have CK := check_any (n + 1) x _ _ W2 (hx.next I.bel)
  rw [hchk] at CK
  have HI := hide I
  have HX := hide (And.intro hx hchk)
  have HRC := hide (And.intro R hc)
  obtain ⟨l8, c16⟩ := chk_len hchk
  have HMO := hide (moR_ok (n := n + 1) (op := 5) hchk)
  obtain ⟨SA, hSA⟩ : ∃ SA, x.shape.length = SA := ⟨_, rfl⟩
  obtain ⟨CA, hCA⟩ : ∃ CA, x.cells.length = CA := ⟨_, rfl⟩
  have HSC := hide (And.intro hSA hCA)
  simp only [hSA, hCA] at CK e2 q0 q1 HI HX l8 c16 hl ⊢
  clear R hc I hx hchk hSA hCA
  go_enter Try.func13, Try.ntmps13
  go_wp2_with fail
  clear e2 q0 q1
  refine CK.mono ?_
  rintro e w1 ⟨rfl, hb1⟩
  have I1 := HI.out.next hb1
  have q0 := I1.q0
  have q1 := I1.q1
  have p0 := I1.p0
  have p1 := I1.p1
  have f0 := I1.f0
  have f1 := I1.f1
  have HI1 := hide I1
  have CC := upTo_any (HX.out.1.next I1.bel) HX.out.2
  have HE : Hid (moR (n + 1) 5 x = iotaR x) := by unfold Hid; rw [HMO.out]; simp
  clear I1 hb1 CK HI HX HRC HMO p0 p1 f0 f1
  go_wp2_with fail
  refine CC.mono ?_
  rintro e w2 ⟨⟨v, rfl, hv⟩, hb2⟩
  obtain ⟨z1, m1, z2, m2, rfl, -, -⟩ := hv.form
  have I2 := HI1.out.next hb2
  have p0 := I2.p0
  have p1 := I2.p1
  have f0 := I2.f0
  have f1 := I2.f1
  have HT := hide (I2.put (.slice z1 (iotaR x).1.shape.length m1) (.slice z2 (iotaR x).1.cells.length m2))
  have HF := hide (I2.give hv.deeper HI1.out.size)
  have HFI := hide I2.fin
  clear I2 hv hb2 CC HI1 q0 q1
  generalize (iotaR x).1.shape.length = SB at *
  generalize (iotaR x).1.cells.length = CB at *
  obtain ⟨E, hE⟩ : ∃ E, (iotaR x).2 = E := ⟨_, rfl⟩
  rw [hE]
  have HEE := hide hE
  clear hE
  go_wp2
  exact bodyPost_ret (v := .tuple #[.agg #[.slice z1 SB m1, .slice z2 CB m2], .int .i64 E]) (by simp [results, Try.results13, go_sem, HT.out.1, HT.out.2]) rfl (by rw [← HEE.out]; exact gives2_eq HE.out (HF.out _ _) (HFI.out _ _))
set_option maxHeartbeats 2000000 in
theorem mo_shape {n lo : Nat} {x : Ar} {va : Value} {w : World} (hx : ArIn (n + 1) lo w x va) (hchk : chkA 8 x = 0) : Calls Try.prog 13 #[.int .i64 6, va] w fun e w' => Gives2 (n + 2) w.heap.size (moR (n + 1) 6 x).1 (moR (n + 1) 6 x).2 w e w' := by
  obtain ⟨a1, c1, a2, c2, rfl, R, hc⟩ := hx.form
  have I := in2_new w (.slice a1 x.shape.length c1) (.slice a2 x.cells.length c2)
  obtain ⟨W2, e2⟩ : ∃ W2, (w.alloc (.cells #[.slice a1 x.shape.length c1, .slice a2 x.cells.length c2] 25)).alloc (.cells #[.slice none 0 0, .slice none 0 0] 25) = W2 := ⟨_, rfl⟩
  rw [e2] at I
  have q0 := I.q0
  have q1 := I.q1
  have hl := R.1
  have CK := check_any (n + 1) x _ _ W2 (hx.next I.bel)
  rw [hchk] at CK
  have HI := hide I
  have HX := hide (And.intro hx hchk)
  have HRC := hide (And.intro R hc)
  obtain ⟨l8, c16⟩ := chk_len hchk
  have HMO := hide (moR_ok (n := n + 1) (op := 6) hchk)
  obtain ⟨SA, hSA⟩ : ∃ SA, x.shape.length = SA := ⟨_, rfl⟩
  obtain ⟨CA, hCA⟩ : ∃ CA, x.cells.length = CA := ⟨_, rfl⟩
  have HSC := hide (And.intro hSA hCA)
  simp only [hSA, hCA] at CK e2 q0 q1 HI HX l8 c16 hl ⊢
  clear R hc I hx hchk hSA hCA
  go_enter Try.func13, Try.ntmps13
  go_wp2_with fail
  clear e2 q0 q1
  refine CK.mono ?_
  rintro e w1 ⟨rfl, hb1⟩
  have I1 := HI.out.next hb1
  have q0 := I1.q0
  have q1 := I1.q1
  have p0 := I1.p0
  have p1 := I1.p1
  have f0 := I1.f0
  have f1 := I1.f1
  have HI1 := hide I1
  have CC := axes_any n x.shape a1 c1 w1 (HRC.out.1.next I1.bel) (by rw [HSC.out.1]; exact l8)
  rw [HSC.out.1] at CC
  have HE : Hid (moR (n + 1) 6 x = (numsA x.shape, 0)) := by unfold Hid; rw [HMO.out]; simp
  clear I1 hb1 CK HI HX HRC HMO p0 p1 f0 f1
  go_wp2_with fail
  refine CC.mono ?_
  rintro e w2 ⟨⟨v, rfl, hv⟩, hb2⟩
  obtain ⟨z1, m1, z2, m2, rfl, -, -⟩ := hv.form
  have I2 := HI1.out.next hb2
  have p0 := I2.p0
  have p1 := I2.p1
  have f0 := I2.f0
  have f1 := I2.f1
  have HT := hide (I2.put (.slice z1 (numsA x.shape).shape.length m1) (.slice z2 (numsA x.shape).cells.length m2))
  have HF := hide (I2.give hv.deeper HI1.out.size)
  have HFI := hide I2.fin
  clear I2 hv hb2 CC HI1 q0 q1
  generalize (numsA x.shape).shape.length = SB at *
  generalize (numsA x.shape).cells.length = CB at *
  go_wp2
  exact bodyPost_ret (v := .tuple #[.agg #[.slice z1 SB m1, .slice z2 CB m2], .int .i64 0]) (by simp [results, Try.results13, go_sem, HT.out.1, HT.out.2]) rfl (gives2_of HE.out (HF.out _ _) (HFI.out _ _))
set_option maxHeartbeats 2000000 in
theorem mo_revF {n lo : Nat} {x : Ar} {va : Value} {w : World} (hx : ArIn (n + 1) lo w x va) (hchk : chkA 8 x = 0) : Calls Try.prog 13 #[.int .i64 9, va] w fun e w' => Gives2 (n + 2) w.heap.size (moR (n + 1) 9 x).1 (moR (n + 1) 9 x).2 w e w' := by
  obtain ⟨a1, c1, a2, c2, rfl, R, hc⟩ := hx.form
  have I := in2_new w (.slice a1 x.shape.length c1) (.slice a2 x.cells.length c2)
  obtain ⟨W2, e2⟩ : ∃ W2, (w.alloc (.cells #[.slice a1 x.shape.length c1, .slice a2 x.cells.length c2] 25)).alloc (.cells #[.slice none 0 0, .slice none 0 0] 25) = W2 := ⟨_, rfl⟩
  rw [e2] at I
  have q0 := I.q0
  have q1 := I.q1
  have hl := R.1
  have CK := check_any (n + 1) x _ _ W2 (hx.next I.bel)
  rw [hchk] at CK
  have HI := hide I
  have HX := hide (And.intro hx hchk)
  have HRC := hide (And.intro R hc)
  obtain ⟨l8, c16⟩ := chk_len hchk
  have HMO := hide (moR_ok (n := n + 1) (op := 9) hchk)
  obtain ⟨SA, hSA⟩ : ∃ SA, x.shape.length = SA := ⟨_, rfl⟩
  obtain ⟨CA, hCA⟩ : ∃ CA, x.cells.length = CA := ⟨_, rfl⟩
  have HSC := hide (And.intro hSA hCA)
  simp only [hSA, hCA] at CK e2 q0 q1 HI HX l8 c16 hl ⊢
  clear R hc I hx hchk hSA hCA
  go_enter Try.func13, Try.ntmps13
  go_wp2_with fail
  clear e2 q0 q1
  refine CK.mono ?_
  rintro e w1 ⟨rfl, hb1⟩
  have I1 := HI.out.next hb1
  have q0 := I1.q0
  have q1 := I1.q1
  have p0 := I1.p0
  have p1 := I1.p1
  have f0 := I1.f0
  have f1 := I1.f1
  have HI1 := hide I1
  have CC := turned_any (HX.out.1.next I1.bel) HX.out.2 0 0 (fun h => ⟨h, rfl⟩)
  have HE : Hid (moR (n + 1) 9 x = (revR x 0, 0)) := by unfold Hid; rw [HMO.out]; simp
  clear I1 hb1 CK HI HX HRC HMO p0 p1 f0 f1
  go_wp2_with fail
  refine CC.mono ?_
  rintro e w2 ⟨⟨v, rfl, hv⟩, hb2⟩
  obtain ⟨z1, m1, z2, m2, rfl, -, -⟩ := hv.form
  have I2 := HI1.out.next hb2
  have p0 := I2.p0
  have p1 := I2.p1
  have f0 := I2.f0
  have f1 := I2.f1
  have HT := hide (I2.put (.slice z1 (revR x 0).shape.length m1) (.slice z2 (revR x 0).cells.length m2))
  have HF := hide (I2.give hv.deeper HI1.out.size)
  have HFI := hide I2.fin
  clear I2 hv hb2 CC HI1 q0 q1
  generalize (revR x 0).shape.length = SB at *
  generalize (revR x 0).cells.length = CB at *
  go_wp2
  exact bodyPost_ret (v := .tuple #[.agg #[.slice z1 SB m1, .slice z2 CB m2], .int .i64 0]) (by simp [results, Try.results13, go_sem, HT.out.1, HT.out.2]) rfl (gives2_of HE.out (HF.out _ _) (HFI.out _ _))
set_option maxHeartbeats 2000000 in
theorem mo_revL {n lo : Nat} {x : Ar} {va : Value} {w : World} (hx : ArIn (n + 1) lo w x va) (hchk : chkA 8 x = 0) : Calls Try.prog 13 #[.int .i64 10, va] w fun e w' => Gives2 (n + 2) w.heap.size (moR (n + 1) 10 x).1 (moR (n + 1) 10 x).2 w e w' := by
  obtain ⟨a1, c1, a2, c2, rfl, R, hc⟩ := hx.form
  have I := in2_new w (.slice a1 x.shape.length c1) (.slice a2 x.cells.length c2)
  obtain ⟨W2, e2⟩ : ∃ W2, (w.alloc (.cells #[.slice a1 x.shape.length c1, .slice a2 x.cells.length c2] 25)).alloc (.cells #[.slice none 0 0, .slice none 0 0] 25) = W2 := ⟨_, rfl⟩
  rw [e2] at I
  have q0 := I.q0
  have q1 := I.q1
  have hl := R.1
  have CK := check_any (n + 1) x _ _ W2 (hx.next I.bel)
  rw [hchk] at CK
  have HI := hide I
  have HX := hide (And.intro hx hchk)
  have HRC := hide (And.intro R hc)
  obtain ⟨l8, c16⟩ := chk_len hchk
  have HMO := hide (moR_ok (n := n + 1) (op := 10) hchk)
  obtain ⟨SA, hSA⟩ : ∃ SA, x.shape.length = SA := ⟨_, rfl⟩
  obtain ⟨CA, hCA⟩ : ∃ CA, x.cells.length = CA := ⟨_, rfl⟩
  have HSC := hide (And.intro hSA hCA)
  simp only [hSA, hCA] at CK e2 q0 q1 HI HX l8 c16 hl ⊢
  clear R hc I hx hchk hSA hCA
  go_enter Try.func13, Try.ntmps13
  go_wp2_with fail
  clear e2 q0 q1
  refine CK.mono ?_
  rintro e w1 ⟨rfl, hb1⟩
  have I1 := HI.out.next hb1
  have q0 := I1.q0
  have q1 := I1.q1
  have p0 := I1.p0
  have p1 := I1.p1
  have f0 := I1.f0
  have f1 := I1.f1
  have HI1 := hide I1
  have CC := turned_any (HX.out.1.next I1.bel) HX.out.2 (x.shape.length - 1) ((SA : Int) - 1) (fun h => ⟨by omega, by have := HSC.out.1; omega⟩)
  have HE : Hid (moR (n + 1) 10 x = (revR x (x.shape.length - 1), 0)) := by unfold Hid; rw [HMO.out]; simp
  clear I1 hb1 CK HI HX HRC HMO p0 p1 f0 f1
  go_wp2_with fail
  refine CC.mono ?_
  rintro e w2 ⟨⟨v, rfl, hv⟩, hb2⟩
  obtain ⟨z1, m1, z2, m2, rfl, -, -⟩ := hv.form
  have I2 := HI1.out.next hb2
  have p0 := I2.p0
  have p1 := I2.p1
  have f0 := I2.f0
  have f1 := I2.f1
  have HT := hide (I2.put (.slice z1 (revR x (x.shape.length - 1)).shape.length m1) (.slice z2 (revR x (x.shape.length - 1)).cells.length m2))
  have HF := hide (I2.give hv.deeper HI1.out.size)
  have HFI := hide I2.fin
  clear I2 hv hb2 CC HI1 q0 q1
  generalize (revR x (x.shape.length - 1)).shape.length = SB at *
  generalize (revR x (x.shape.length - 1)).cells.length = CB at *
  go_wp2
  exact bodyPost_ret (v := .tuple #[.agg #[.slice z1 SB m1, .slice z2 CB m2], .int .i64 0]) (by simp [results, Try.results13, go_sem, HT.out.1, HT.out.2]) rfl (gives2_of HE.out (HF.out _ _) (HFI.out _ _))
set_option maxHeartbeats 2000000 in
theorem mo_flip {n lo : Nat} {x : Ar} {va : Value} {w : World} (hx : ArIn (n + 1) lo w x va) (hchk : chkA 8 x = 0) : Calls Try.prog 13 #[.int .i64 11, va] w fun e w' => Gives2 (n + 2) w.heap.size (moR (n + 1) 11 x).1 (moR (n + 1) 11 x).2 w e w' := by
  obtain ⟨a1, c1, a2, c2, rfl, R, hc⟩ := hx.form
  have I := in2_new w (.slice a1 x.shape.length c1) (.slice a2 x.cells.length c2)
  obtain ⟨W2, e2⟩ : ∃ W2, (w.alloc (.cells #[.slice a1 x.shape.length c1, .slice a2 x.cells.length c2] 25)).alloc (.cells #[.slice none 0 0, .slice none 0 0] 25) = W2 := ⟨_, rfl⟩
  rw [e2] at I
  have q0 := I.q0
  have q1 := I.q1
  have hl := R.1
  have CK := check_any (n + 1) x _ _ W2 (hx.next I.bel)
  rw [hchk] at CK
  have HI := hide I
  have HX := hide (And.intro hx hchk)
  have HRC := hide (And.intro R hc)
  obtain ⟨l8, c16⟩ := chk_len hchk
  have HMO := hide (moR_ok (n := n + 1) (op := 11) hchk)
  obtain ⟨SA, hSA⟩ : ∃ SA, x.shape.length = SA := ⟨_, rfl⟩
  obtain ⟨CA, hCA⟩ : ∃ CA, x.cells.length = CA := ⟨_, rfl⟩
  have HSC := hide (And.intro hSA hCA)
  simp only [hSA, hCA] at CK e2 q0 q1 HI HX l8 c16 hl ⊢
  clear R hc I hx hchk hSA hCA
  go_enter Try.func13, Try.ntmps13
  go_wp2_with fail
  clear e2 q0 q1
  refine CK.mono ?_
  rintro e w1 ⟨rfl, hb1⟩
  have I1 := HI.out.next hb1
  have q0 := I1.q0
  have q1 := I1.q1
  have p0 := I1.p0
  have p1 := I1.p1
  have f0 := I1.f0
  have f1 := I1.f1
  have HI1 := hide I1
  have CC := flipped_any (HX.out.1.next I1.bel) HX.out.2
  have HE : Hid (moR (n + 1) 11 x = (flipR x, 0)) := by unfold Hid; rw [HMO.out]; simp
  clear I1 hb1 CK HI HX HRC HMO p0 p1 f0 f1
  go_wp2_with fail
  refine CC.mono ?_
  rintro e w2 ⟨⟨v, rfl, hv⟩, hb2⟩
  obtain ⟨z1, m1, z2, m2, rfl, -, -⟩ := hv.form
  have I2 := HI1.out.next hb2
  have p0 := I2.p0
  have p1 := I2.p1
  have f0 := I2.f0
  have f1 := I2.f1
  have HT := hide (I2.put (.slice z1 (flipR x).shape.length m1) (.slice z2 (flipR x).cells.length m2))
  have HF := hide (I2.give hv.deeper HI1.out.size)
  have HFI := hide I2.fin
  clear I2 hv hb2 CC HI1 q0 q1
  generalize (flipR x).shape.length = SB at *
  generalize (flipR x).cells.length = CB at *
  go_wp2
  exact bodyPost_ret (v := .tuple #[.agg #[.slice z1 SB m1, .slice z2 CB m2], .int .i64 0]) (by simp [results, Try.results13, go_sem, HT.out.1, HT.out.2]) rfl (gives2_of HE.out (HF.out _ _) (HFI.out _ _))
set_option maxHeartbeats 2000000 in
theorem mo_encl {n lo : Nat} {x : Ar} {va : Value} {w : World} (hx : ArIn (n + 1) lo w x va) (hchk : chkA 8 x = 0) : Calls Try.prog 13 #[.int .i64 15, va] w fun e w' => Gives2 (n + 2) w.heap.size (moR (n + 1) 15 x).1 (moR (n + 1) 15 x).2 w e w' := by
  obtain ⟨a1, c1, a2, c2, rfl, R, hc⟩ := hx.form
  have I := in2_new w (.slice a1 x.shape.length c1) (.slice a2 x.cells.length c2)
  obtain ⟨W2, e2⟩ : ∃ W2, (w.alloc (.cells #[.slice a1 x.shape.length c1, .slice a2 x.cells.length c2] 25)).alloc (.cells #[.slice none 0 0, .slice none 0 0] 25) = W2 := ⟨_, rfl⟩
  rw [e2] at I
  have q0 := I.q0
  have q1 := I.q1
  have hl := R.1
  have CK := check_any (n + 1) x _ _ W2 (hx.next I.bel)
  rw [hchk] at CK
  have HI := hide I
  have HX := hide (And.intro hx hchk)
  have HRC := hide (And.intro R hc)
  obtain ⟨l8, c16⟩ := chk_len hchk
  have HMO := hide (moR_ok (n := n + 1) (op := 15) hchk)
  obtain ⟨SA, hSA⟩ : ∃ SA, x.shape.length = SA := ⟨_, rfl⟩
  obtain ⟨CA, hCA⟩ : ∃ CA, x.cells.length = CA := ⟨_, rfl⟩
  have HSC := hide (And.intro hSA hCA)
  simp only [hSA, hCA] at CK e2 q0 q1 HI HX l8 c16 hl ⊢
  clear R hc I hx hchk hSA hCA
  go_enter Try.func13, Try.ntmps13
  go_wp2_with fail
  clear e2 q0 q1
  refine CK.mono ?_
  rintro e w1 ⟨rfl, hb1⟩
  have I1 := HI.out.next hb1
  have q0 := I1.q0
  have q1 := I1.q1
  have p0 := I1.p0
  have p1 := I1.p1
  have f0 := I1.f0
  have f1 := I1.f1
  have HI1 := hide I1
  have CC := enclosed_any (HX.out.1.next I1.bel) HX.out.2
  have HE : Hid (moR (n + 1) 15 x = enclR (n + 1) x) := by unfold Hid; rw [HMO.out]; simp
  clear I1 hb1 CK HI HX HRC HMO p0 p1 f0 f1
  go_wp2_with fail
  refine CC.mono ?_
  rintro e w2 ⟨⟨v, rfl, hv⟩, hb2⟩
  obtain ⟨z1, m1, z2, m2, rfl, -, -⟩ := hv.form
  have I2 := HI1.out.next hb2
  have p0 := I2.p0
  have p1 := I2.p1
  have f0 := I2.f0
  have f1 := I2.f1
  have HT := hide (I2.put (.slice z1 (enclR (n + 1) x).1.shape.length m1) (.slice z2 (enclR (n + 1) x).1.cells.length m2))
  have HF := hide (I2.give hv HI1.out.size)
  have HFI := hide I2.fin
  clear I2 hv hb2 CC HI1 q0 q1
  generalize (enclR (n + 1) x).1.shape.length = SB at *
  generalize (enclR (n + 1) x).1.cells.length = CB at *
  obtain ⟨E, hE⟩ : ∃ E, (enclR (n + 1) x).2 = E := ⟨_, rfl⟩
  rw [hE]
  have HEE := hide hE
  clear hE
  go_wp2
  exact bodyPost_ret (v := .tuple #[.agg #[.slice z1 SB m1, .slice z2 CB m2], .int .i64 E]) (by simp [results, Try.results13, go_sem, HT.out.1, HT.out.2]) rfl (by rw [← HEE.out]; exact gives2_eq HE.out (HF.out _ _) (HFI.out _ _))
set_option maxHeartbeats 2000000 in
theorem mo_disc {n lo : Nat} {x : Ar} {va : Value} {w : World} (hx : ArIn (n + 1) lo w x va) (hchk : chkA 8 x = 0) : Calls Try.prog 13 #[.int .i64 16, va] w fun e w' => Gives2 (n + 2) w.heap.size (moR (n + 1) 16 x).1 (moR (n + 1) 16 x).2 w e w' := by
  obtain ⟨a1, c1, a2, c2, rfl, R, hc⟩ := hx.form
  have I := in2_new w (.slice a1 x.shape.length c1) (.slice a2 x.cells.length c2)
  obtain ⟨W2, e2⟩ : ∃ W2, (w.alloc (.cells #[.slice a1 x.shape.length c1, .slice a2 x.cells.length c2] 25)).alloc (.cells #[.slice none 0 0, .slice none 0 0] 25) = W2 := ⟨_, rfl⟩
  rw [e2] at I
  have q0 := I.q0
  have q1 := I.q1
  have hl := R.1
  have CK := check_any (n + 1) x _ _ W2 (hx.next I.bel)
  rw [hchk] at CK
  have HI := hide I
  have HX := hide (And.intro hx hchk)
  have HRC := hide (And.intro R hc)
  obtain ⟨l8, c16⟩ := chk_len hchk
  have HMO := hide (moR_ok (n := n + 1) (op := 16) hchk)
  obtain ⟨SA, hSA⟩ : ∃ SA, x.shape.length = SA := ⟨_, rfl⟩
  obtain ⟨CA, hCA⟩ : ∃ CA, x.cells.length = CA := ⟨_, rfl⟩
  have HSC := hide (And.intro hSA hCA)
  simp only [hSA, hCA] at CK e2 q0 q1 HI HX l8 c16 hl ⊢
  clear R hc I hx hchk hSA hCA
  go_enter Try.func13, Try.ntmps13
  go_wp2_with fail
  clear e2 q0 q1
  refine CK.mono ?_
  rintro e w1 ⟨rfl, hb1⟩
  have I1 := HI.out.next hb1
  have q0 := I1.q0
  have q1 := I1.q1
  have p0 := I1.p0
  have p1 := I1.p1
  have f0 := I1.f0
  have f1 := I1.f1
  have HI1 := hide I1
  have CC := disclosed_any (HX.out.1.next I1.bel) HX.out.2
  have HE : Hid (moR (n + 1) 16 x = discR x) := by unfold Hid; rw [HMO.out]; simp
  clear I1 hb1 CK HI HX HRC HMO p0 p1 f0 f1
  go_wp2_with fail
  refine CC.mono ?_
  rintro e w2 ⟨⟨v, rfl, hv⟩, hb2⟩
  obtain ⟨z1, m1, z2, m2, rfl, -, -⟩ := hv.form
  have I2 := HI1.out.next hb2
  have p0 := I2.p0
  have p1 := I2.p1
  have f0 := I2.f0
  have f1 := I2.f1
  have HT := hide (I2.put (.slice z1 (discR x).1.shape.length m1) (.slice z2 (discR x).1.cells.length m2))
  have HF := hide (I2.give hv.deeper HI1.out.size)
  have HFI := hide I2.fin
  clear I2 hv hb2 CC HI1 q0 q1
  generalize (discR x).1.shape.length = SB at *
  generalize (discR x).1.cells.length = CB at *
  obtain ⟨E, hE⟩ : ∃ E, (discR x).2 = E := ⟨_, rfl⟩
  rw [hE]
  have HEE := hide hE
  clear hE
  go_wp2
  exact bodyPost_ret (v := .tuple #[.agg #[.slice z1 SB m1, .slice z2 CB m2], .int .i64 E]) (by simp [results, Try.results13, go_sem, HT.out.1, HT.out.2]) rfl (by rw [← HEE.out]; exact gives2_eq HE.out (HF.out _ _) (HFI.out _ _))
set_option maxHeartbeats 2000000 in
theorem mo_first {n lo : Nat} {x : Ar} {va : Value} {w : World} (hx : ArIn (n + 1) lo w x va) (hchk : chkA 8 x = 0) (hcap : Caps va) : Calls Try.prog 13 #[.int .i64 17, va] w fun e w' => Gives2 (n + 2) w.heap.size (moR (n + 1) 17 x).1 (moR (n + 1) 17 x).2 w e w' := by
  obtain ⟨a1, c1, a2, c2, rfl, R, hc⟩ := hx.form
  have I := in2_new w (.slice a1 x.shape.length c1) (.slice a2 x.cells.length c2)
  obtain ⟨W2, e2⟩ : ∃ W2, (w.alloc (.cells #[.slice a1 x.shape.length c1, .slice a2 x.cells.length c2] 25)).alloc (.cells #[.slice none 0 0, .slice none 0 0] 25) = W2 := ⟨_, rfl⟩
  rw [e2] at I
  have q0 := I.q0
  have q1 := I.q1
  have hl := R.1
  have CK := check_any (n + 1) x _ _ W2 (hx.next I.bel)
  rw [hchk] at CK
  have HI := hide I
  have HX := hide (And.intro hx hchk)
  have HRC := hide (And.intro R hc)
  obtain ⟨l8, c16⟩ := chk_len hchk
  have HMO := hide (moR_ok (n := n + 1) (op := 17) hchk)
  obtain ⟨SA, hSA⟩ : ∃ SA, x.shape.length = SA := ⟨_, rfl⟩
  obtain ⟨CA, hCA⟩ : ∃ CA, x.cells.length = CA := ⟨_, rfl⟩
  have HSC := hide (And.intro hSA hCA)
  simp only [hSA, hCA] at CK e2 q0 q1 HI HX l8 c16 hl ⊢
  clear R hc I hx hchk hSA hCA
  go_enter Try.func13, Try.ntmps13
  go_wp2_with fail
  clear e2 q0 q1
  refine CK.mono ?_
  rintro e w1 ⟨rfl, hb1⟩
  have I1 := HI.out.next hb1
  have q0 := I1.q0
  have q1 := I1.q1
  have p0 := I1.p0
  have p1 := I1.p1
  have f0 := I1.f0
  have f1 := I1.f1
  have HI1 := hide I1
  have CC := first_any (HX.out.1.next I1.bel) HX.out.2 (by have h := hcap; simp only [HSC.out.1, HSC.out.2] at h; exact h)
  have HE : Hid (moR (n + 1) 17 x = firstR x) := by unfold Hid; rw [HMO.out]; simp
  clear I1 hb1 CK HI HX HRC HMO p0 p1 f0 f1
  go_wp2_with fail
  refine CC.mono ?_
  rintro e w2 ⟨⟨v, rfl, hv⟩, hb2⟩
  obtain ⟨z1, m1, z2, m2, rfl, -, -⟩ := hv.form
  have I2 := HI1.out.next hb2
  have p0 := I2.p0
  have p1 := I2.p1
  have f0 := I2.f0
  have f1 := I2.f1
  have HT := hide (I2.put (.slice z1 (firstR x).1.shape.length m1) (.slice z2 (firstR x).1.cells.length m2))
  have HF := hide (I2.give hv.deeper HI1.out.size)
  have HFI := hide I2.fin
  clear I2 hv hb2 CC HI1 q0 q1
  generalize (firstR x).1.shape.length = SB at *
  generalize (firstR x).1.cells.length = CB at *
  obtain ⟨E, hE⟩ : ∃ E, (firstR x).2 = E := ⟨_, rfl⟩
  rw [hE]
  have HEE := hide hE
  clear hE
  go_wp2
  exact bodyPost_ret (v := .tuple #[.agg #[.slice z1 SB m1, .slice z2 CB m2], .int .i64 E]) (by simp [results, Try.results13, go_sem, HT.out.1, HT.out.2]) rfl (by rw [← HEE.out]; exact gives2_eq HE.out (HF.out _ _) (HFI.out _ _))
set_option maxHeartbeats 2000000 in
theorem mo_list {n lo : Nat} {x : Ar} {va : Value} {w : World} (hx : ArIn (n + 1) lo w x va) (hchk : chkA 8 x = 0) : Calls Try.prog 13 #[.int .i64 18, va] w fun e w' => Gives2 (n + 2) w.heap.size (moR (n + 1) 18 x).1 (moR (n + 1) 18 x).2 w e w' := by
  obtain ⟨a1, c1, a2, c2, rfl, R, hc⟩ := hx.form
  have I := in2_new w (.slice a1 x.shape.length c1) (.slice a2 x.cells.length c2)
  obtain ⟨W2, e2⟩ : ∃ W2, (w.alloc (.cells #[.slice a1 x.shape.length c1, .slice a2 x.cells.length c2] 25)).alloc (.cells #[.slice none 0 0, .slice none 0 0] 25) = W2 := ⟨_, rfl⟩
  rw [e2] at I
  have q0 := I.q0
  have q1 := I.q1
  have hl := R.1
  have CK := check_any (n + 1) x _ _ W2 (hx.next I.bel)
  rw [hchk] at CK
  have HI := hide I
  have HX := hide (And.intro hx hchk)
  have HRC := hide (And.intro R hc)
  obtain ⟨l8, c16⟩ := chk_len hchk
  have HMO := hide (moR_ok (n := n + 1) (op := 18) hchk)
  obtain ⟨SA, hSA⟩ : ∃ SA, x.shape.length = SA := ⟨_, rfl⟩
  obtain ⟨CA, hCA⟩ : ∃ CA, x.cells.length = CA := ⟨_, rfl⟩
  have HSC := hide (And.intro hSA hCA)
  simp only [hSA, hCA] at CK e2 q0 q1 HI HX l8 c16 hl ⊢
  clear R hc I hx hchk hSA hCA
  go_enter Try.func13, Try.ntmps13
  go_wp2_with fail
  clear e2 q0 q1
  refine CK.mono ?_
  rintro e w1 ⟨rfl, hb1⟩
  have I1 := HI.out.next hb1
  have q0 := I1.q0
  have q1 := I1.q1
  have p0 := I1.p0
  have p1 := I1.p1
  have f0 := I1.f0
  have f1 := I1.f1
  have HI1 := hide I1
  have CC := listed_any (HX.out.1.next I1.bel) HX.out.2
  have HE : Hid (moR (n + 1) 18 x = listR x) := by unfold Hid; rw [HMO.out]; simp
  clear I1 hb1 CK HI HX HRC HMO p0 p1 f0 f1
  go_wp2_with fail
  refine CC.mono ?_
  rintro e w2 ⟨⟨v, rfl, hv⟩, hb2⟩
  obtain ⟨z1, m1, z2, m2, rfl, -, -⟩ := hv.form
  have I2 := HI1.out.next hb2
  have p0 := I2.p0
  have p1 := I2.p1
  have f0 := I2.f0
  have f1 := I2.f1
  have HT := hide (I2.put (.slice z1 (listR x).1.shape.length m1) (.slice z2 (listR x).1.cells.length m2))
  have HF := hide (I2.give hv.deeper HI1.out.size)
  have HFI := hide I2.fin
  clear I2 hv hb2 CC HI1 q0 q1
  generalize (listR x).1.shape.length = SB at *
  generalize (listR x).1.cells.length = CB at *
  obtain ⟨E, hE⟩ : ∃ E, (listR x).2 = E := ⟨_, rfl⟩
  rw [hE]
  have HEE := hide hE
  clear hE
  go_wp2
  exact bodyPost_ret (v := .tuple #[.agg #[.slice z1 SB m1, .slice z2 CB m2], .int .i64 E]) (by simp [results, Try.results13, go_sem, HT.out.1, HT.out.2]) rfl (by rw [← HEE.out]; exact gives2_eq HE.out (HF.out _ _) (HFI.out _ _))
end Go.Proofs.Ytmjncdhahdpplaa
