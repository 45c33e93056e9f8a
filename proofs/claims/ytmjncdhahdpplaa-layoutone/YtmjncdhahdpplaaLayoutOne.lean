/-
  For all arrays and functions the statement LayoutOne holds: any function of one argument that looks at shapes, of any array, is what the document says; no condition (the given row speaks of what a machine of 64 bits can hold).
-/
import Derived.Test.YtmjncdhahdpplaaPkF
namespace Go.Proofs.Ytmjncdhahdpplaa.layoutOne
open Go.ChangeShapes Go.WideShapes Go.ChangeAt Go.RowKit
set_option linter.unusedVariables false
set_option maxHeartbeats 4000000 in
theorem walk (op : Int) (n : Nat) (x : Ar) (c0 c1 : Value) (w : World) (hx : ArIn n 0 w x (.agg #[c0, c1])) (hcap : Caps (.agg #[c0, c1])) :
    Calls Try.prog 3 #[.int .i64 op, .agg #[c0, c1]] w fun e w' => e = .returned (.bool true) ∧ Below w.heap.size w w' := by
  cases n with
  | zero => exact hx.elim
  | succ n =>
  obtain ⟨a1, k1, a2, k2, hv, -⟩ := hx.form
  simp only [Value.agg.injEq, Array.mk.injEq, List.cons.injEq, and_true] at hv
  obtain ⟨rfl, rfl⟩ := hv
  obtain ⟨SA, hSA⟩ : ∃ SA, x.shape.length = SA := ⟨_, rfl⟩
  obtain ⟨CA, hCA⟩ : ∃ CA, x.cells.length = CA := ⟨_, rfl⟩
  simp only [hSA, hCA] at hx hcap ⊢
  obtain ⟨W1, e1⟩ : ∃ W1, w.alloc (.cells #[.slice a1 SA k1, .slice a2 CA k2] 25) = W1 := ⟨_, rfl⟩
  have b0 : Below w.heap.size w W1 := by rw [← e1]; exact one_alloc _ _
  have z1 : W1.heap.size = w.heap.size + 1 := by rw [← e1]; simp
  have q0 : W1.cell? ⟨w.heap.size, 0, none⟩ = some (.slice a1 SA k1) := by rw [← e1]; exact cell_new0 w _ 25 0 _ rfl
  have q1 : W1.cell? ⟨w.heap.size, 1, none⟩ = some (.slice a2 CA k2) := by rw [← e1]; exact cell_new0 w _ 25 1 _ rfl
  have HX : Hid (∀ W, Below w.heap.size w W → ArIn (n + 1) 0 W x (.agg #[.slice a1 SA k1, .slice a2 CA k2])) := fun W h => hx.next h
  have HQ : Hid (∀ W, Below W1.heap.size W1 W → Below w.heap.size w W ∧ W.cell? ⟨w.heap.size, 0, none⟩ = some (.slice a1 SA k1) ∧ W.cell? ⟨w.heap.size, 1, none⟩ = some (.slice a2 CA k2)) := fun W h => ⟨b0.trans (h.mono b0.size), (h.cell (p := ⟨w.heap.size, 0, none⟩) (by show w.heap.size < _; omega)).trans q0, (h.cell (p := ⟨w.heap.size, 1, none⟩) (by show w.heap.size < _; omega)).trans q1⟩
  have HW : Hid (∀ W w', Below W1.heap.size W1 W → Below W.heap.size W w' → Below w.heap.size w w') := fun W w' h1 h2 => (HQ.out W h1).1.trans (h2.mono (HQ.out W h1).1.size)
  have C0 := light_any (HX.out _ b0)
  have HCAP := hide hcap
  clear hx hcap hSA hCA b0 z1
  go_enter Try.func3, Try.ntmps3
  go_wp2_with fail
  clear e1
  refine C0.mono ?_
  rintro e w1 ⟨⟨r, rfl⟩, hb1⟩
  have HG1 := hide hb1
  obtain ⟨n1, t0, t1⟩ := HQ.out w1 hb1
  clear C0 hb1 q0 q1
  cases r with
  | false =>
    have CW := works_any w1
    clear n1 t0 t1
    go_wp2_with fail
    refine CW.mono ?_
    rintro e wz ⟨rfl, hbz⟩
    go_wp2
    go_ret
    exact ⟨rfl, HW.out _ _ HG1.out hbz⟩
  | true =>
  have CM := mo_any (HX.out _ n1) op (fun _ => HCAP.out)
  obtain ⟨R, hR⟩ : ∃ R, moR (n + 1) op x = R := ⟨_, rfl⟩
  rw [hR] at CM
  have HRR := hide hR
  obtain ⟨y, E⟩ := R
  simp only at CM
  clear hR n1
  go_wp2_with fail
  clear t0 t1
  refine CM.mono ?_
  rintro e w5 ⟨⟨v, rfl, hv⟩, hb5⟩
  obtain ⟨y1, m1, y2, m2, rfl, -, -⟩ := hv.form
  obtain ⟨SY, hSY⟩ : ∃ SY, y.shape.length = SY := ⟨_, rfl⟩
  obtain ⟨CY, hCY⟩ : ∃ CY, y.cells.length = CY := ⟨_, rfl⟩
  have HSY := hide (And.intro hSY hCY)
  simp only [hSY, hCY] at hv ⊢
  obtain ⟨W6, e6⟩ : ∃ W6, w5.alloc (.cells #[.slice y1 SY m1, .slice y2 CY m2] 25) = W6 := ⟨_, rfl⟩
  have B6 : Below w5.heap.size w5 W6 := by rw [← e6]; exact one_alloc _ _
  have z6 : W6.heap.size = w5.heap.size + 1 := by rw [← e6]; simp
  have B46 : Below w1.heap.size w1 W6 := hb5.trans (B6.mono hb5.size)
  have y0 : W6.cell? ⟨w5.heap.size, 0, none⟩ = some (.slice y1 SY m1) := by rw [← e6]; exact cell_new0 w5 _ 25 0 _ rfl
  have y1' : W6.cell? ⟨w5.heap.size, 1, none⟩ = some (.slice y2 CY m2) := by rw [← e6]; exact cell_new0 w5 _ 25 1 _ rfl
  have HY : Hid (∀ W, Below W6.heap.size W6 W → ArIn (n + 2) 0 W y (.agg #[.slice y1 SY m1, .slice y2 CY m2]) ∧ W.cell? ⟨w5.heap.size, 0, none⟩ = some (.slice y1 SY m1) ∧ W.cell? ⟨w5.heap.size, 1, none⟩ = some (.slice y2 CY m2)) := fun W h => ⟨(hv.next B6).mono (Nat.zero_le _) h, (h.cell (p := ⟨w5.heap.size, 0, none⟩) (by show w5.heap.size < _; omega)).trans y0, (h.cell (p := ⟨w5.heap.size, 1, none⟩) (by show w5.heap.size < _; omega)).trans y1'⟩
  have HG6 := hide (HG1.out.trans (B46.mono HG1.out.size))
  obtain ⟨n6, t0, t1⟩ := HQ.out W6 HG6.out
  have CR := rmo_any (op := op) (HX.out _ n6) (fun _ => HCAP.out)
  rw [HRR.out] at CR
  clear n6 CM hv hb5 B6 B46 z6 hSY hCY HG1 y0 y1'
  go_wp2_with fail
  clear e6 t0 t1
  refine CR.mono ?_
  rintro e w7 ⟨⟨v, rfl, hv⟩, hb7⟩
  obtain ⟨z1, j1, z2, j2, rfl, -, -⟩ := hv.form
  simp only [HSY.out.1, HSY.out.2] at hv ⊢
  obtain ⟨W8, e8⟩ : ∃ W8, w7.alloc (.cells #[.slice z1 SY j1, .slice z2 CY j2] 25) = W8 := ⟨_, rfl⟩
  have B8 : Below w7.heap.size w7 W8 := by rw [← e8]; exact one_alloc _ _
  have B68 : Below W6.heap.size W6 W8 := hb7.trans (B8.mono hb7.size)
  have z0 : W8.cell? ⟨w7.heap.size, 0, none⟩ = some (.slice z1 SY j1) := by rw [← e8]; exact cell_new0 w7 _ 25 0 _ rfl
  have z1' : W8.cell? ⟨w7.heap.size, 1, none⟩ = some (.slice z2 CY j2) := by rw [← e8]; exact cell_new0 w7 _ 25 1 _ rfl
  obtain ⟨hy8, y0, y1'⟩ := HY.out W8 B68
  have HG8 := hide (HG6.out.trans (B68.mono HG6.out.size))
  have C4 := rsame_any hy8 (hv.next B8)
  rw [cmpA_self] at C4
  clear CR hv hb7 B8 B68 hy8 HG6
  go_wp2_with fail
  clear e8 z0 z1' y0 y1'
  refine C4.mono ?_
  rintro e w9 ⟨rfl, hb9⟩
  have HG9 := hide (HG8.out.trans (hb9.mono HG8.out.size))
  have CW := works_any w9
  clear C4 hb9
  simp only [decide_true]
  go_wp2_with fail
  refine CW.mono ?_
  rintro e wa ⟨rfl, hba⟩
  go_wp2
  go_ret
  exact ⟨rfl, HW.out _ _ HG9.out hba⟩
set_option maxRecDepth 100000 in
theorem lifted (os : Os) (started : os.Started) (H : Type) (enc : TypeId × Value → H) :
    ReturnsInHanded {} Try.checked os 3 .any (Rows.layoutOneSpec.pre6 enc Try.prog Try.f3 Rows.layoutOneRow.domain false) (Rows.layoutOneSpec.post enc Try.prog Try.f3 false true false false) := by
  refine returnsInHanded_of_change_sized (C := Try.checked) own started (by kernel_rfl) Try.func3
    (ChangeSpec.witness6 (enc := enc) (C := Try.checked) false ⟨#[], #[.int .i64 0, .agg #[.slice none 0 0, .slice none 0 0]], []⟩ 8 (by kernel_rfl) (by kernel_rfl) (by kernel_rfl) (by kernel_rfl)) ?_
  intro W base args ds gs before hval0 hW _ hsz0 _
  have hsz : (DataW.weightsEach Try.prog (Try.f3.params.toList ++ Rows.layoutOneSpec.plain.varTypes Try.prog) (ds ++ gs)).all (· ≤ reachBytes) = true := hsz0
  clear hsz0
  have hval : ∀ (j : Nat) t v, Try.f3.params[j]? = some t → args[j]? = some v → Value.okWide Try.prog W .any base t v := hval0
  have hW' := hW
  obtain ⟨p, q, hA0, hV, rfl, hfz, hnd⟩ := hW
  have hA : DataW.TrodAll enc Try.prog W 0 (fun _ => true) true Try.f3.params.toList args.toList ds p := hA0
  rw [Try.params3] at hA hval hsz
  obtain ⟨v0, vs0, d0, ds0, p0, q0, hargs, rfl, rfl, h0, r0⟩ := trodAll_cons hA
  obtain ⟨v1, vs1, d1, ds1, p1, q1, rfl, rfl, rfl, h1, r1⟩ := trodAll_cons r0
  obtain ⟨rfl, rfl, rfl⟩ := trodAll_nil r1
  obtain rfl : args = #[v0, v1] := by cases args; simp_all
  obtain ⟨rfl, rfl⟩ := trodVars_none hV
  obtain ⟨x0, rfl, rfl, rfl, w0⟩ := open_int Try.underlying3 (hval 0 3 v0 rfl rfl) h0
  have k1 := h1
  have lt1 : ∀ x ∈ p1, x.block < W.heap.size := by obtain ⟨m, hm⟩ := k1; exact DataW.trod_lt m _ _ _ hm
  obtain ⟨n1, y1, c10, c11, hc1, w1⟩ := arr_of hsz (j := 1) rfl rfl h1
  obtain rfl := agg_two hc1
  clear hA0 hval0
  refine (walk x0 n1 y1 c10 c11 W w1.1 (arr_caps h1)).mono fun e W' ⟨he, bel⟩ => ?_
  subst he
  exact ⟨_, rfl, _, _, _, [], _, [], hW', trodAll_mk1 (shut_bool Try.underlying4 _), (trodAll_cons_mk (shut_int Try.underlying3 w0) (trodAll_cons_mk (Below.trod laidOut (by kernel_rfl) (of_decide_eq_true (by kernel_rfl)) k1 bel lt1) trodAll_mk0)), rfl, bel.frame _, fun h => by cases h⟩
theorem over : Rows.layoutOneRow.holds Try.pinned (OpenSpec.ofChange Rows.layoutOneSpec) :=
  OpenClaim.holds_of_wide 3 Try.f3 rfl rfl rfl rfl rfl rfl rfl ⟨rfl, rfl, rfl, rfl, rfl⟩ rfl rfl rfl rfl rfl (by kernel_rfl) Try.func3 (by kernel_rfl)
    (of_decide_eq_true (by kernel_rfl)) (by unfold Func.isWrapper; first | (rw [if_pos (by decide +kernel)]; kernel_rfl) | (rw [if_neg (by decide +kernel)]; exact ⟨rfl, rfl⟩))
    (fun os started H enc _ => lifted os started H enc)
theorem proved : Rows.LayoutOneSaid := over
end Go.Proofs.Ytmjncdhahdpplaa.layoutOne
namespace Go.Proofs.Ytmjncdhahdpplaa
theorem layoutOne_holds : Rows.LayoutOneSaid := layoutOne.proved
#print axioms layoutOne_holds
end Go.Proofs.Ytmjncdhahdpplaa
