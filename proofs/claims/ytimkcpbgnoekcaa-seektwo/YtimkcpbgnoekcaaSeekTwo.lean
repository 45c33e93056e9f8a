/-
  For all functions and arrays the statement SeekTwo holds: where cells stand in a list, and whether they stand in an array, is what the document says; no condition (the given row speaks of what a machine of 64 bits can hold).
-/
import Derived.Test.YtimkcpbgnoekcaaM9
import Derived.Test.YtimkcpbgnoekcaaChecked
import GoSem.Claim
import GoSem.ClaimJoined
import GoSem.ClaimMapViews
import Derived.JoinedTies
import Derived.KernelRfl
import Derived.WalkKit
import Derived.ProofKit
import Derived.Below
import Derived.Deep.OwnRows
import Derived.Deep.QuietTactic
import Derived.BigQuiet
import Derived.Deep.RegionWith
import Derived.Laws.MakeOwn
import Derived.Deep.RegionHeld3
import Derived.Laws.IdiomCopy
import Derived.Deep.Cut
import Derived.Deep.LoopGhost
import Derived.OpenShut
import Derived.ChangeOld
import Derived.SizedLaws
import Derived.Deep.Slices
import Derived.Deep.Strs
import Derived.Laws.AppendOwn
import Derived.BigFrame
import Derived.Deep.CutRange
import Derived.Deep.RegionLaw
import Derived.Laws.OwnMore
import Derived.Lib.SliceRun
import Derived.Laws.CopyOwn
import Derived.Lib.Mul64
import Derived.Lib.Overlaps
import Derived.Laws.EntriesVeiled
namespace Go.Proofs.Ytimkcpbgnoekcaa.seekTwo
open Go.ChangeShapes Go.WideShapes Go.ChangeAt Go.RowKit
set_option linter.unusedVariables false
set_option maxRecDepth 100000
set_option maxHeartbeats 4000000 in
theorem walk (op : Int) (n : Nat) (x : Ar) (d0 d1 : Value) (m : Nat) (y : Ar) (f0 f1 : Value) (w : World) (hx : ArIn n 0 w x (.agg #[d0, d1])) (hcap : Caps (.agg #[d0, d1])) (hy : ArIn m 0 w y (.agg #[f0, f1])) (hcap2 : Caps (.agg #[f0, f1])) :
    Calls Try.prog 3 #[.int .i64 op, .agg #[d0, d1], .agg #[f0, f1]] w fun e w' => e = .returned (.bool true) ∧ Below w.heap.size w w' := by
  obtain ⟨k, hk1, hk2⟩ : ∃ k, n ≤ k + 1 ∧ m ≤ k + 1 := ⟨n + m, by omega, by omega⟩
  replace hx := hx.deep hk1
  replace hy := hy.deep hk2
  clear hk1 hk2 hcap hcap2
  generalize k = n at *
  have hx' := hx
  obtain ⟨a1, c1, a2, c2, hv, -⟩ := hx'
  simp only [Value.agg.injEq, Array.mk.injEq, List.cons.injEq, and_true] at hv
  obtain ⟨rfl, rfl⟩ := hv
  have hy' := hy
  obtain ⟨b1', g1, b2', g2, hv, -⟩ := hy'
  simp only [Value.agg.injEq, Array.mk.injEq, List.cons.injEq, and_true] at hv
  obtain ⟨rfl, rfl⟩ := hv
  have HX : Hid (∀ W, Below w.heap.size w W → ArIn (n + 1) 0 W x (.agg #[.slice a1 x.shape.length c1, .slice a2 x.cells.length c2])) := fun W h => hx.next h
  have HY : Hid (∀ W, Below w.heap.size w W → ArIn (n + 1) 0 W y (.agg #[.slice b1' y.shape.length g1, .slice b2' y.cells.length g2])) := fun W h => hy.next h
  generalize x.shape.length = SA at *
  generalize x.cells.length = CA at *
  generalize y.shape.length = SB at *
  generalize y.cells.length = CB at *
  obtain ⟨W1, e1⟩ : ∃ W1, (w.alloc (.cells #[.slice a1 SA c1, .slice a2 CA c2] 25)).alloc (.cells #[.slice b1' SB g1, .slice b2' CB g2] 25) = W1 := ⟨_, rfl⟩
  have b1 : Below w.heap.size w W1 := by rw [← e1]; exact two_allocs _ _ _
  have z1 : W1.heap.size = w.heap.size + 2 := by rw [← e1]; simp
  have q0 : W1.cell? ⟨w.heap.size, 0, none⟩ = some (.slice a1 SA c1) := by rw [← e1]; exact cell_new1 w _ 25 (0, 0) _ 0 _ rfl
  have q1 : W1.cell? ⟨w.heap.size, 1, none⟩ = some (.slice a2 CA c2) := by rw [← e1]; exact cell_new1 w _ 25 (0, 0) _ 1 _ rfl
  have q2 : W1.cell? ⟨w.heap.size + 1, 0, none⟩ = some (.slice b1' SB g1) := by rw [← e1]; exact cell_new2 w _ 25 (0, 0) _ 0 _ rfl
  have q3 : W1.cell? ⟨w.heap.size + 1, 1, none⟩ = some (.slice b2' CB g2) := by rw [← e1]; exact cell_new2 w _ 25 (0, 0) _ 1 _ rfl
  have HQ : Hid (∀ W, Below W1.heap.size W1 W → Below w.heap.size w W ∧ W.cell? ⟨w.heap.size, 0, none⟩ = some (.slice a1 SA c1) ∧ W.cell? ⟨w.heap.size, 1, none⟩ = some (.slice a2 CA c2) ∧ W.cell? ⟨w.heap.size + 1, 0, none⟩ = some (.slice b1' SB g1) ∧ W.cell? ⟨w.heap.size + 1, 1, none⟩ = some (.slice b2' CB g2)) := fun W h => ⟨b1.trans (h.mono b1.size), (h.cell (p := ⟨w.heap.size, 0, none⟩) (by show w.heap.size < _; omega)).trans q0, (h.cell (p := ⟨w.heap.size, 1, none⟩) (by show w.heap.size < _; omega)).trans q1, (h.cell (p := ⟨w.heap.size + 1, 0, none⟩) (by show w.heap.size + 1 < _; omega)).trans q2, (h.cell (p := ⟨w.heap.size + 1, 1, none⟩) (by show w.heap.size + 1 < _; omega)).trans q3⟩
  have HW : Hid (∀ W, Below W1.heap.size W1 W → Calls Try.prog 9 #[] W fun e w' => e = .returned (.bool true) ∧ Below w.heap.size w w') := fun W h => (sworks_any W).mono fun e w' ⟨he, hw⟩ => ⟨he, (HQ.out W h).1.trans (hw.mono (HQ.out W h).1.size)⟩
  have C0 := slight_any (HX.out _ b1)
  clear hx hy b1 z1
  go_enter Try.func3, Try.ntmps3
  go_wp2_with fail
  clear e1
  refine C0.mono ?_
  clear C0 q0 q1 q2 q3
  rintro e w2 ⟨⟨r, rfl⟩, hb2⟩
  have HB2 := hide hb2
  have CW := HW.out w2 hb2
  obtain ⟨n2, t0, t1, t2, t3⟩ := HQ.out w2 hb2
  have C1 := slight_any (HY.out _ n2)
  clear hb2 n2
  cases r with
  | false =>
    clear C1
    go_wp2_with fail
    refine CW.mono ?_
    rintro e w9 ⟨rfl, hb9⟩
    have HF := hide hb9
    clear hb9 CW
    go_wp2
    go_ret
    exact ⟨rfl, HF.out⟩
  | true =>
  clear CW
  go_wp2_with fail
  refine C1.mono ?_
  clear C1 t0 t1 t2 t3
  rintro e w3 ⟨⟨r, rfl⟩, hb3⟩
  have hb3' : Below W1.heap.size W1 w3 := HB2.out.trans (hb3.mono HB2.out.size)
  have CW := HW.out w3 hb3'
  obtain ⟨n3, t0, t1, t2, t3⟩ := HQ.out w3 hb3'
  have HB3 := hide hb3'
  have C2 := sdy_any (op := op) (HX.out _ n3) (HY.out _ n3)
  have HM : Hid (∀ W, Below w.heap.size w W → Calls Try.prog 11 #[.int .i64 op, .agg #[.slice a1 SA c1, .slice a2 CA c2], .agg #[.slice b1' SB g1, .slice b2' CB g2]] W fun e w' => Gives2Z (n + 1) W (seekD n op x y).1 (seekD n op x y).2 W e w') := fun W h => rsdy_any (HX.out W h) (HY.out W h)
  obtain ⟨⟨Y, E⟩, hR⟩ : ∃ p, seekD n op x y = p := ⟨_, rfl⟩
  rw [hR] at C2 HM
  simp only at C2 HM
  clear hb3 hb3' n3 HB2 hR
  cases r with
  | false =>
    clear C2
    go_wp2_with fail
    refine CW.mono ?_
    rintro e w9 ⟨rfl, hb9⟩
    have HF := hide hb9
    clear hb9 CW
    go_wp2
    go_ret
    exact ⟨rfl, HF.out⟩
  | true =>
  clear CW
  go_wp2_with fail
  refine C2.mono ?_
  clear C2 t0 t1 t2 t3
  rintro e w4 ⟨⟨v4, rfl, kv4, hv4⟩, hb4⟩
  obtain ⟨u1, k1, u2, k2, rfl, -, -⟩ := hv4.form
  obtain ⟨SY, hSY⟩ : ∃ SY, Y.shape.length = SY := ⟨_, rfl⟩
  obtain ⟨CY, hCY⟩ : ∃ CY, Y.cells.length = CY := ⟨_, rfl⟩
  simp only [hSY, hCY] at hv4 ⊢
  obtain ⟨B5, hB5⟩ : ∃ B5, w4.heap.size = B5 := ⟨_, rfl⟩
  obtain ⟨W5, e5⟩ : ∃ W5, w4.alloc (.cells #[.slice u1 SY k1, .slice u2 CY k2] 25) = W5 := ⟨_, rfl⟩
  have b45 : Below w4.heap.size w4 W5 := by rw [← e5]; exact one_alloc _ _
  have z5 : B5 < W5.heap.size := by rw [← e5, ← hB5]; simp
  have r0 : W5.cell? ⟨B5, 0, none⟩ = some (.slice u1 SY k1) := by rw [← e5, ← hB5]; exact cell_new0 w4 _ 25 0 _ rfl
  have r1 : W5.cell? ⟨B5, 1, none⟩ = some (.slice u2 CY k2) := by rw [← e5, ← hB5]; exact cell_new0 w4 _ 25 1 _ rfl
  have hb15 : Below W1.heap.size W1 W5 := (HB3.out.trans (hb4.mono HB3.out.size)).trans (b45.mono (Nat.le_trans HB3.out.size hb4.size))
  have HV5 : Hid (∀ W, Below W5.heap.size W5 W → ArIn (n + 1) 0 W Y (.agg #[.slice u1 SY k1, .slice u2 CY k2]) ∧ W.cell? ⟨B5, 0, none⟩ = some (.slice u1 SY k1) ∧ W.cell? ⟨B5, 1, none⟩ = some (.slice u2 CY k2)) := fun W h => ⟨(hv4.mono (Nat.zero_le _) (Below.refl _ _)).next (b45.trans (h.mono b45.size)), (h.cell (p := ⟨B5, 0, none⟩) z5).trans r0, (h.cell (p := ⟨B5, 1, none⟩) z5).trans r1⟩
  obtain ⟨n5, t0, t1, t2, t3⟩ := HQ.out W5 hb15
  have C3 := HM.out W5 n5
  have HB5 := hide hb15
  have HE5 := hide (And.intro e5 hB5)
  clear hv4 hb4 e5 hB5 b45 z5 r0 r1 hb15 n5 HM HB3
  go_upto_region 4 with fail
  rw [HE5.out.1, HE5.out.2]
  clear HE5
  go_wp2_with fail
  refine C3.mono ?_
  clear C3 t0 t1 t2 t3
  rintro e w6 ⟨⟨v6, rfl, hv6⟩, hb6⟩
  have hb16 : Below W1.heap.size W1 w6 := HB5.out.trans (hb6.mono HB5.out.size)
  obtain ⟨p1, j1, p2, j2, rfl, -, -⟩ := (hv6 w6 hb6 (Keeps.refl _ _)).form
  simp only [hSY, hCY] at hv6 ⊢
  obtain ⟨B7, hB7⟩ : ∃ B7, w6.heap.size = B7 := ⟨_, rfl⟩
  obtain ⟨W7, e7⟩ : ∃ W7, w6.alloc (.cells #[.slice p1 SY j1, .slice p2 CY j2] 25) = W7 := ⟨_, rfl⟩
  have b67 : Below w6.heap.size w6 W7 := by rw [← e7]; exact one_alloc _ _
  have s0 : W7.cell? ⟨B7, 0, none⟩ = some (.slice p1 SY j1) := by rw [← e7, ← hB7]; exact cell_new0 w6 _ 25 0 _ rfl
  have s1 : W7.cell? ⟨B7, 1, none⟩ = some (.slice p2 CY j2) := by rw [← e7, ← hB7]; exact cell_new0 w6 _ 25 1 _ rfl
  have hb57 : Below W5.heap.size W5 W7 := hb6.trans (b67.mono hb6.size)
  obtain ⟨hA, r0, r1⟩ := HV5.out W7 hb57
  have hB := hv6 W7 hb57 (keeps_below b67)
  have C4 := rsame_any hA hB
  rw [show decide (cmpA (n + 1) Y Y = 0) = true by rw [cmpA_self]; rfl] at C4
  have HB7 : Hid (Below W1.heap.size W1 W7) := hb16.trans (b67.mono hb16.size)
  have HE7 := hide (And.intro e7 hB7)
  clear hv6 hb6 hb16 e7 hB7 b67 hb57 hA hB HV5 HB5 hSY hCY
  go_upto_region 5 with fail
  rw [HE7.out.1, HE7.out.2]
  clear HE7
  go_wp2_with fail
  refine C4.mono ?_
  clear C4 r0 r1 s0 s1
  rintro e w8 ⟨rfl, hb8⟩
  have CW := HW.out w8 (HB7.out.trans (hb8.mono HB7.out.size))
  clear hb8
  go_wp2_with fail
  refine CW.mono ?_
  rintro e w9 ⟨rfl, hb9⟩
  have HF := hide hb9
  clear hb9 CW
  go_wp2
  go_ret
  exact ⟨rfl, HF.out⟩
set_option maxRecDepth 100000 in
theorem lifted (os : Os) (started : os.Started) (H : Type) (enc : TypeId × Value → H) :
    ReturnsInHanded {} Try.checked os 3 .any (Rows.seekTwoSpec.pre6 enc Try.prog Try.f3 Rows.seekTwoRow.domain false) (Rows.seekTwoSpec.post enc Try.prog Try.f3 false true false false) := by
  refine returnsInHanded_of_change_sized (C := Try.checked) own started (by kernel_rfl) Try.func3
    (ChangeSpec.witness6 (enc := enc) (C := Try.checked) false ⟨#[], #[.int .i64 0, .agg #[.slice none 0 0, .slice none 0 0], .agg #[.slice none 0 0, .slice none 0 0]], []⟩ 8 (by kernel_rfl) (by kernel_rfl) (by kernel_rfl) (by kernel_rfl)) ?_
  intro W base args ds gs before hval0 hW _ hsz0 _
  have hsz : (DataW.weightsEach Try.prog (Try.f3.params.toList ++ Rows.seekTwoSpec.plain.varTypes Try.prog) (ds ++ gs)).all (· ≤ reachBytes) = true := hsz0
  clear hsz0
  have hval : ∀ (j : Nat) t v, Try.f3.params[j]? = some t → args[j]? = some v → Value.okWide Try.prog W .any base t v := hval0
  have hW' := hW
  obtain ⟨p, q, hA0, hV, rfl, hfz, hnd⟩ := hW
  have hA : DataW.TrodAll enc Try.prog W 0 (fun _ => true) true Try.f3.params.toList args.toList ds p := hA0
  rw [Try.params3] at hA hval hsz
  obtain ⟨v0, vs0, d0, ds0, p0, q0, hargs, rfl, rfl, h0, r0⟩ := trodAll_cons hA
  obtain ⟨v1, vs1, d1, ds1, p1, q1, rfl, rfl, rfl, h1, r1⟩ := trodAll_cons r0
  obtain ⟨v2, vs2, d2, ds2, p2, q2, rfl, rfl, rfl, h2, r2⟩ := trodAll_cons r1
  obtain ⟨rfl, rfl, rfl⟩ := trodAll_nil r2
  obtain rfl : args = #[v0, v1, v2] := by cases args; simp_all
  obtain ⟨rfl, rfl⟩ := trodVars_none hV
  obtain ⟨x0, rfl, rfl, rfl, w0⟩ := open_int Try.underlying3 (hval 0 3 v0 rfl rfl) h0
  have k1 := h1
  have lt1 : ∀ x ∈ p1, x.block < W.heap.size := by obtain ⟨m, hm⟩ := k1; exact DataW.trod_lt m _ _ _ hm
  obtain ⟨n1, y1, c10, c11, hc1, w1⟩ := arr_of hsz (j := 1) rfl rfl h1
  obtain rfl := agg_two hc1
  have k2 := h2
  have lt2 : ∀ x ∈ p2, x.block < W.heap.size := by obtain ⟨m, hm⟩ := k2; exact DataW.trod_lt m _ _ _ hm
  obtain ⟨n2, y2, c20, c21, hc2, w2⟩ := arr_of hsz (j := 2) rfl rfl h2
  obtain rfl := agg_two hc2
  clear hA0 hval0
  refine (walk x0 n1 y1 c10 c11 n2 y2 c20 c21 W w1.1 (arr_caps h1) w2.1 (arr_caps h2)).mono fun e W' ⟨he, bel⟩ => ?_
  subst he
  exact ⟨_, rfl, _, _, _, [], _, [], hW', trodAll_mk1 (shut_bool Try.underlying4 _), (trodAll_cons_mk (shut_int Try.underlying3 w0) (trodAll_cons_mk (Below.trod laidOut (by kernel_rfl) (of_decide_eq_true (by kernel_rfl)) k1 bel lt1) (trodAll_cons_mk (Below.trod laidOut (by kernel_rfl) (of_decide_eq_true (by kernel_rfl)) k2 bel lt2) trodAll_mk0))), rfl, bel.frame _, fun h => by cases h⟩
theorem over : Rows.seekTwoRow.holds Try.pinned (OpenSpec.ofChange Rows.seekTwoSpec) :=
  OpenClaim.holds_of_wide 3 Try.f3 rfl rfl rfl rfl rfl rfl rfl ⟨rfl, rfl, rfl, rfl, rfl⟩ rfl rfl rfl rfl rfl (by kernel_rfl) Try.func3 (by kernel_rfl)
    (of_decide_eq_true (by kernel_rfl)) (by unfold Func.isWrapper; first | (rw [if_pos (by decide +kernel)]; kernel_rfl) | (rw [if_neg (by decide +kernel)]; exact ⟨rfl, rfl⟩))
    (fun os started H enc _ => lifted os started H enc)
theorem proved : Rows.SeekTwoSaid := over
end Go.Proofs.Ytimkcpbgnoekcaa.seekTwo
namespace Go.Proofs.Ytimkcpbgnoekcaa
theorem seekTwo_holds : Rows.SeekTwoSaid := seekTwo.proved
#print axioms seekTwo_holds
end Go.Proofs.Ytimkcpbgnoekcaa
