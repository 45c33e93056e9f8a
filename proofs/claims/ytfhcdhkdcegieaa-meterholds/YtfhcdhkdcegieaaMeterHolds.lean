/-
  For all fuel, cells and arrays the statement MeterHolds holds: how many cells an array has, and whether it may be held, is what the document says, and nothing is used by that; no condition (the given row speaks of what a machine of 64 bits can hold).
-/
import Derived.Test.YtfhcdhkdcegieaaMtE
import Derived.Test.YtfhcdhkdcegieaaMtF
import Derived.Test.YtfhcdhkdcegieaaOwnZ
namespace Go.Proofs.Ytfhcdhkdcegieaa.meterHolds
open Go.ChangeShapes Go.WideShapes Go.ChangeAt Go.RowKit
set_option linter.unusedVariables false
set_option maxRecDepth 100000
set_option maxHeartbeats 4000000 in
theorem walk (f c : Int) (n : Nat) (x : Ar) (d0 d1 : Value) (w : World) (hf : -9223372036854775808 ≤ f ∧ f ≤ 9223372036854775807) (hc : -9223372036854775808 ≤ c ∧ c ≤ 9223372036854775807) (hx : ArIn n 0 w x (.agg #[d0, d1])) :
    Calls Try.prog 4 #[.int .i64 f, .int .i64 c, .agg #[d0, d1]] w fun e w' => e = .returned (.bool true) ∧ Below w.heap.size w w' := by
  cases n with
  | zero => exact hx.elim
  | succ n =>
  have hx' := hx
  obtain ⟨a1, c1, a2, c2, hv, -⟩ := hx'
  simp only [Value.agg.injEq, Array.mk.injEq, List.cons.injEq, and_true] at hv
  obtain ⟨rfl, rfl⟩ := hv
  have HX : Hid (∀ W, Below w.heap.size w W → ArIn (n + 1) 0 W x (.agg #[.slice a1 x.shape.length c1, .slice a2 x.cells.length c2])) := fun W h => hx.next h
  generalize x.shape.length = SA at *
  generalize x.cells.length = CA at *
  obtain ⟨W1, e1⟩ : ∃ W1, w.alloc (.cells #[.slice a1 SA c1, .slice a2 CA c2] 38) = W1 := ⟨_, rfl⟩
  have b1 : Below w.heap.size w W1 := by rw [← e1]; exact one_alloc _ _
  have z1 : W1.heap.size = w.heap.size + 1 := by rw [← e1]; simp
  have q0 : W1.cell? ⟨w.heap.size, 0, none⟩ = some (.slice a1 SA c1) := by rw [← e1]; exact cell_new0 w _ 38 0 _ rfl
  have q1 : W1.cell? ⟨w.heap.size, 1, none⟩ = some (.slice a2 CA c2) := by rw [← e1]; exact cell_new0 w _ 38 1 _ rfl
  have HQ : Hid (∀ W, Below W1.heap.size W1 W → Below w.heap.size w W ∧ W.cell? ⟨w.heap.size, 0, none⟩ = some (.slice a1 SA c1) ∧ W.cell? ⟨w.heap.size, 1, none⟩ = some (.slice a2 CA c2)) := fun W h => ⟨b1.trans (h.mono b1.size), (h.cell (p := ⟨w.heap.size, 0, none⟩) (by show w.heap.size < _; omega)).trans q0, (h.cell (p := ⟨w.heap.size, 1, none⟩) (by show w.heap.size < _; omega)).trans q1⟩
  have C0 := light_any (HX.out _ b1)
  clear hx b1 z1
  go_enter Try.func4, Try.ntmps4
  go_wp2_with fail
  clear e1
  refine C0.mono ?_
  clear C0 q0 q1
  rintro e w2 ⟨⟨r, rfl, hr⟩, hb2⟩
  have HR := hide hr
  have HB2 := hide hb2
  clear hr hb2
  cases r with
  | false =>
    have CW := works_any w2
    go_wp2_with fail
    refine CW.mono ?_
    rintro e w9 ⟨rfl, hb9⟩
    have HF := hide ((HQ.out _ HB2.out).1.trans (hb9.mono (HQ.out _ HB2.out).1.size))
    clear hb9 CW
    go_wp2
    go_ret
    exact ⟨rfl, HF.out⟩
  | true =>
  have HCN := hide (HR.out rfl)
  have C1 := new7 (w := w2) f c hf.2 hc.2
  have HN : Hid (∀ W, Calls Try.prog 8 #[.int .i64 f, .int .i64 c] W fun e w' => e = .returned (.agg #[.int .i64 0, .int .i64 (pos f), .int .i64 (pos c)]) ∧ Below W.heap.size W w') := fun W => rnew8 f c
  generalize pos f = F at *
  generalize pos c = R at *
  clear HR
  go_wp2_with fail
  refine C1.mono ?_
  clear C1
  rintro e w3 ⟨⟨b, rfl, hb, hm⟩, hb3⟩
  have H3 := hide (And.intro hm (HB2.out.trans (hb3.mono HB2.out.size)))
  have C2 := used11 hm
  clear hm hb3 hb HB2
  go_wp2_with fail
  refine C2.mono ?_
  clear C2
  rintro e w4 ⟨rfl, hb4⟩
  have H4 := hide (And.intro (H3.out.1.next hb4 H3.out.1.lt) (H3.out.2.trans (hb4.mono H3.out.2.size)))
  obtain ⟨n4, t0, t1⟩ := HQ.out _ H4.out.2
  have C3 := hold14 H4.out.1 (HX.out _ n4) (by have := HCN.out; omega)
  have HK : Hid (∀ W, Below w.heap.size w W → Calls Try.prog 15 #[.agg #[.int .i64 0, .int .i64 F, .int .i64 R], .agg #[.slice a1 SA c1, .slice a2 CA c2]] W fun e w' => e = .returned (.int .i64 (holdE (cntA (n + 1) x) R)) ∧ Below W.heap.size W w') := fun W h => rheld15 (HX.out _ h) (by have := HCN.out; omega)
  have HP : Hid (∀ W, Below w.heap.size w W → Calls Try.prog 16 #[.agg #[.slice a1 SA c1, .slice a2 CA c2]] W fun e w' => e = .returned (.int .i64 (cntA (n + 1) x : Int)) ∧ Below W.heap.size W w') := fun W h => mcells_any _ _ _ _ _ (HX.out _ h) (by have := HCN.out; omega)
  have HD : Hid (∀ W, Below w.heap.size w W → Calls Try.prog 17 #[.agg #[.slice a1 SA c1, .slice a2 CA c2]] W fun e w' => e = .returned (.int .i64 (cntA (n + 1) x : Int)) ∧ Below W.heap.size W w') := fun W h => rcells_any _ _ _ _ _ (HX.out _ h) (by have := HCN.out; omega)
  generalize holdE (cntA (n + 1) x) R = E at *
  generalize cntA (n + 1) x = K at *
  clear hb4 H3 n4 HX
  go_wp2_with fail
  refine C3.mono ?_
  clear C3 t0 t1
  rintro e w5 ⟨rfl, hb5⟩
  have H5 := hide (And.intro (H4.out.1.next hb5 H4.out.1.lt) (H4.out.2.trans (hb5.mono H4.out.2.size)))
  have C4 := used11 H5.out.1
  clear hb5 H4
  go_wp2_with fail
  refine C4.mono ?_
  clear C4
  rintro e w6 ⟨rfl, hb6⟩
  have H6 := hide (H5.out.2.trans (hb6.mono H5.out.2.size))
  clear hb6 H5 HCN
  have HD0 : Hid (Below W1.heap.size W1 w6.drew) := H6.out.drew
  have KS : Hid (∀ W, Below W1.heap.size W1 W → Below W1.heap.size W1 W ∧ W.cell? ⟨w.heap.size, 0, none⟩ = some (.slice a1 SA c1) ∧ W.cell? ⟨w.heap.size, 1, none⟩ = some (.slice a2 CA c2)) := fun W h => ⟨h, (HQ.out W h).2.1, (HQ.out W h).2.2⟩
  have HN' : Hid (∀ W, Below W1.heap.size W1 W → Calls Try.prog 8 #[.int .i64 f, .int .i64 c] W fun e w' => e = .returned (.agg #[.int .i64 0, .int .i64 F, .int .i64 R]) ∧ Below W1.heap.size W1 w') := fun W h => (HN.out W).mono fun e w' ⟨he, hw⟩ => ⟨he, h.trans (hw.mono h.size)⟩
  have HK' : Hid (∀ W, Below W1.heap.size W1 W → Calls Try.prog 15 #[.agg #[.int .i64 0, .int .i64 F, .int .i64 R], .agg #[.slice a1 SA c1, .slice a2 CA c2]] W fun e w' => e = .returned (.int .i64 E) ∧ Below W1.heap.size W1 w') := fun W h => (HK.out W (HQ.out W h).1).mono fun e w' ⟨he, hw⟩ => ⟨he, h.trans (hw.mono h.size)⟩
  have HP' : Hid (∀ W, Below W1.heap.size W1 W → Calls Try.prog 16 #[.agg #[.slice a1 SA c1, .slice a2 CA c2]] W fun e w' => e = .returned (.int .i64 (K : Int)) ∧ Below W1.heap.size W1 w') := fun W h => (HP.out W (HQ.out W h).1).mono fun e w' ⟨he, hw⟩ => ⟨he, h.trans (hw.mono h.size)⟩
  have HD' : Hid (∀ W, Below W1.heap.size W1 W → Calls Try.prog 17 #[.agg #[.slice a1 SA c1, .slice a2 CA c2]] W fun e w' => e = .returned (.int .i64 (K : Int)) ∧ Below W1.heap.size W1 w') := fun W h => (HD.out W (HQ.out W h).1).mono fun e w' ⟨he, hw⟩ => ⟨he, h.trans (hw.mono h.size)⟩
  have HW' : Hid (∀ W, Below W1.heap.size W1 W → Calls Try.prog 12 #[] W fun e w' => e = .returned (.bool true) ∧ Below W1.heap.size W1 w') := fun W h => (works_any W).mono fun e w' ⟨he, hw⟩ => ⟨he, h.trans (hw.mono h.size)⟩
  clear HN HK HP HD H6
  have hd0 := HD0.out
  go_upto_region 9 with fail
  go_region_held3 (fun W => Below W1.heap.size W1 W ∧ W.cell? ⟨w.heap.size, 0, none⟩ = some (.slice a1 SA c1) ∧ W.cell? ⟨w.heap.size, 1, none⟩ = some (.slice a2 CA c2)) (first | with_reducible exact KS.out _ HD0.out | with_reducible exact KS.out _ (by with_reducible assumption))
    (first | (go_at_call 8; refine (HN'.out _ (by with_reducible assumption)).mono ?_; rintro e w7 ⟨rfl, hb7⟩) | (go_at_call 15; refine (HK'.out _ (by with_reducible assumption)).mono ?_; rintro e w8 ⟨rfl, hb8⟩) | (go_at_call 16; refine (HP'.out _ (by with_reducible assumption)).mono ?_; rintro e w9 ⟨rfl, hb9⟩) | (go_at_call 17; refine (HD'.out _ (by with_reducible assumption)).mono ?_; rintro e w10 ⟨rfl, hb10⟩) | (go_at_call 12; refine (HW'.out _ (by with_reducible assumption)).mono ?_; rintro e w11 ⟨rfl, hb11⟩))
  all_goals
    go_wp2
    go_ret
    exact ⟨rfl, (HQ.out _ (by assumption)).1⟩
set_option maxRecDepth 100000 in
theorem lifted (os : Os) (started : os.Started) (H : Type) (enc : TypeId × Value → H) :
    ReturnsInHanded {} Try.checked os 4 .any (Rows.meterHoldsSpec.pre6 enc Try.prog Try.f4 Rows.meterHoldsRow.domain false) (Rows.meterHoldsSpec.post enc Try.prog Try.f4 false true false false) := by
  refine returnsInHanded_of_change_sized (C := Try.checked) own started (by kernel_rfl) Try.func4
    (ChangeSpec.witness6 (enc := enc) (C := Try.checked) false ⟨#[], #[.int .i64 0, .int .i64 0, .agg #[.slice none 0 0, .slice none 0 0]], []⟩ 8 (by kernel_rfl) (by kernel_rfl) (by kernel_rfl) (by kernel_rfl)) ?_
  intro W base args ds gs before hval0 hW _ hsz0 _
  have hsz : (DataW.weightsEach Try.prog (Try.f4.params.toList ++ Rows.meterHoldsSpec.plain.varTypes Try.prog) (ds ++ gs)).all (· ≤ reachBytes) = true := hsz0
  clear hsz0
  have hval : ∀ (j : Nat) t v, Try.f4.params[j]? = some t → args[j]? = some v → Value.okWide Try.prog W .any base t v := hval0
  have hW' := hW
  obtain ⟨p, q, hA0, hV, rfl, hfz, hnd⟩ := hW
  have hA : DataW.TrodAll enc Try.prog W 0 (fun _ => true) true Try.f4.params.toList args.toList ds p := hA0
  rw [Try.params4] at hA hval hsz
  obtain ⟨v0, vs0, d0, ds0, p0, q0, hargs, rfl, rfl, h0, r0⟩ := trodAll_cons hA
  obtain ⟨v1, vs1, d1, ds1, p1, q1, rfl, rfl, rfl, h1, r1⟩ := trodAll_cons r0
  obtain ⟨v2, vs2, d2, ds2, p2, q2, rfl, rfl, rfl, h2, r2⟩ := trodAll_cons r1
  obtain ⟨rfl, rfl, rfl⟩ := trodAll_nil r2
  obtain rfl : args = #[v0, v1, v2] := by cases args; simp_all
  obtain ⟨rfl, rfl⟩ := trodVars_none hV
  obtain ⟨x0, rfl, rfl, rfl, w0⟩ := open_int Try.underlying3 (hval 0 3 v0 rfl rfl) h0
  obtain ⟨x1, rfl, rfl, rfl, w1⟩ := open_int Try.underlying3 (hval 1 3 v1 rfl rfl) h1
  have k2 := h2
  have lt2 : ∀ x ∈ p2, x.block < W.heap.size := by obtain ⟨m, hm⟩ := k2; exact DataW.trod_lt m _ _ _ hm
  obtain ⟨n2, y2, c20, c21, hc2, w2⟩ := arr_of hsz (j := 2) rfl rfl h2
  obtain rfl := agg_two hc2
  clear hA0 hval0
  refine (walk x0 x1 n2 y2 c20 c21 W (bounds_i64 w0) (bounds_i64 w1) w2.1).mono fun e W' ⟨he, bel⟩ => ?_
  subst he
  exact ⟨_, rfl, _, _, _, [], _, [], hW', trodAll_mk1 (shut_bool Try.underlying4 _), (trodAll_cons_mk (shut_int Try.underlying3 w0) (trodAll_cons_mk (shut_int Try.underlying3 w1) (trodAll_cons_mk (Below.trod laidOut (by kernel_rfl) (of_decide_eq_true (by kernel_rfl)) k2 bel lt2) trodAll_mk0))), rfl, bel.frame _, fun h => by cases h⟩
theorem over : Rows.meterHoldsRow.holds Try.pinned (OpenSpec.ofChange Rows.meterHoldsSpec) :=
  OpenClaim.holds_of_wide 4 Try.f4 rfl rfl rfl rfl rfl rfl rfl ⟨rfl, rfl, rfl, rfl, rfl⟩ rfl rfl rfl rfl rfl (by kernel_rfl) Try.func4 (by kernel_rfl)
    (of_decide_eq_true (by kernel_rfl)) (by unfold Func.isWrapper; first | (rw [if_pos (by decide +kernel)]; kernel_rfl) | (rw [if_neg (by decide +kernel)]; exact ⟨rfl, rfl⟩))
    (fun os started H enc _ => lifted os started H enc)
theorem proved : Rows.MeterHoldsSaid := over
end Go.Proofs.Ytfhcdhkdcegieaa.meterHolds
namespace Go.Proofs.Ytfhcdhkdcegieaa
theorem meterHolds_holds : Rows.MeterHoldsSaid := meterHolds.proved
#print axioms meterHolds_holds
end Go.Proofs.Ytfhcdhkdcegieaa
