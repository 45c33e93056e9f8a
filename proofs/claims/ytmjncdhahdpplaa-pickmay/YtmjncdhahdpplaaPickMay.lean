/-
  For all arrays and functions the statement PickMay holds: what comes of arrays that may be may be; no condition (the given row speaks of what a machine of 64 bits can hold).
-/
import Derived.Test.YtmjncdhahdpplaaM9
import Derived.Test.YtmjncdhahdpplaaM8
namespace Go.Proofs.Ytmjncdhahdpplaa.pickMay
open Go.ChangeShapes Go.WideShapes Go.ChangeAt Go.RowKit
set_option linter.unusedVariables false
set_option maxRecDepth 100000
theorem snd_num {x : Ar} (h : Snd x) : I64 (numR x).1 := by
  unfold numR
  by_cases h1 : 0 < x.shape.length
  · rw [if_pos h1]; exact ⟨by show (-9223372036854775808 : Int) ≤ 0; omega, by show (0 : Int) ≤ _; omega⟩
  rw [if_neg h1]
  by_cases h2 : ¬ (cAt x.cells 0).1 = 0
  · rw [if_pos h2]; exact ⟨by show (-9223372036854775808 : Int) ≤ 0; omega, by show (0 : Int) ≤ _; omega⟩
  rw [if_neg h2]
  by_cases h3 : 0 < x.cells.length
  · have hm : cAt x.cells 0 ∈ x.cells := by unfold cAt; rw [List.getElem?_eq_getElem h3]; exact List.getElem_mem h3
    exact (h.cell hm).2.1
  · have : x.cells = [] := List.eq_nil_of_length_eq_zero (by omega)
    rw [this]; exact ⟨by show (-9223372036854775808 : Int) ≤ 0; omega, by show (0 : Int) ≤ _; omega⟩
set_option maxHeartbeats 16000000 in
theorem walk (op : Int) (m1 : Nat) (x : Ar) (c0 c1 : Value) (m2 : Nat) (y : Ar) (d0 d1 : Value) (w : World) (hop : I64 op) (hx : ArIn m1 0 w x (.agg #[c0, c1])) (hcap : Caps (.agg #[c0, c1])) (hsx : Snd x) (hy : ArIn m2 0 w y (.agg #[d0, d1])) (hcapy : Caps (.agg #[d0, d1])) (hsy : Snd y) :
    Calls Try.prog 10 #[.int .i64 op, .agg #[c0, c1], .agg #[d0, d1]] w fun e w' => e = .returned (.bool true) ∧ Below w.heap.size w w' := by
  obtain ⟨n, hn⟩ : ∃ n, m1 + m2 + 1 = n + 1 := ⟨_, rfl⟩
  replace hx : ArIn (n + 1) 0 w x (.agg #[c0, c1]) := hx.deep (by omega)
  replace hy : ArIn (n + 1) 0 w y (.agg #[d0, d1]) := hy.deep (by omega)
  clear hn
  obtain ⟨a1, k1, a2, k2, hv, -⟩ := hx.form
  simp only [Value.agg.injEq, Array.mk.injEq, List.cons.injEq, and_true] at hv
  obtain ⟨rfl, rfl⟩ := hv
  obtain ⟨b1, j1, b2, j2, hv, -⟩ := hy.form
  simp only [Value.agg.injEq, Array.mk.injEq, List.cons.injEq, and_true] at hv
  obtain ⟨rfl, rfl⟩ := hv
  obtain ⟨SA, hSA⟩ : ∃ SA, x.shape.length = SA := ⟨_, rfl⟩
  obtain ⟨CA, hCA⟩ : ∃ CA, x.cells.length = CA := ⟨_, rfl⟩
  obtain ⟨SB, hSB⟩ : ∃ SB, y.shape.length = SB := ⟨_, rfl⟩
  obtain ⟨CB, hCB⟩ : ∃ CB, y.cells.length = CB := ⟨_, rfl⟩
  simp only [hSA, hCA, hSB, hCB] at hx hcap hy hcapy ⊢
  obtain ⟨b0, V0⟩ := var_new (W3 := w) (Below.refl _ _) hx hcap
  obtain ⟨b00, U1⟩ := var_new (W3 := w) b0 (hy.next b0) hcapy
  have z1 : (w.alloc (.cells #[.slice a1 SA k1, .slice a2 CA k2] 25)).heap.size = w.heap.size + 1 := by simp
  rw [z1] at U1
  have V1 := V0.next (one_alloc _ (.cells #[.slice b1 SB j1, .slice b2 CB j2] 25))
  obtain ⟨W1, e1⟩ : ∃ W1, (w.alloc (.cells #[.slice a1 SA k1, .slice a2 CA k2] 25)).alloc (.cells #[.slice b1 SB j1, .slice b2 CB j2] 25) = W1 := ⟨_, rfl⟩
  rw [e1] at b00 U1 V1
  have q0 := V1.c0
  have q1 := V1.c1
  have HV : Hid (∀ W, Below W1.heap.size W1 W → Var (n + 1) W w.heap.size x (.slice a1 SA k1) (.slice a2 CA k2)) := fun W h => V1.next h
  have HU : Hid (∀ W, Below W1.heap.size W1 W → Var (n + 1) W (w.heap.size + 1) y (.slice b1 SB j1) (.slice b2 CB j2)) := fun W h => U1.next h
  have HW : Hid (∀ W w', Below W1.heap.size W1 W → Below W.heap.size W w' → Below w.heap.size w w') := fun W w' h1 h2 => b00.trans ((h1.trans (h2.mono h1.size)).mono b00.size)
  have C0 := plight_any V1.ar
  have HSC := hide (And.intro hSA hCA)
  clear hx hcap hSA hCA b0 V1 V0 U1 b00 hy hcapy hSB hCB z1
  go_enter Try.func10, Try.ntmps10
  go_wp2_with fail
  clear e1 q0 q1
  refine C0.mono ?_
  rintro e w1 ⟨⟨r, rfl⟩, hb1⟩
  have HG1 := hide hb1
  clear C0 hb1
  cases r with
  | false =>
    have CW := pworks_any w1
    go_wp2_with fail
    refine CW.mono ?_
    rintro e wz ⟨rfl, hbz⟩
    go_wp2
    go_ret
    exact ⟨rfl, HW.out _ _ HG1.out hbz⟩
  | true =>
  have C1 := plight_any (HU.out w1 HG1.out).ar
  have t0 := (HU.out w1 HG1.out).c0
  have t1 := (HU.out w1 HG1.out).c1
  go_wp2_with fail
  clear t0 t1
  refine C1.mono ?_
  rintro e w2 ⟨⟨r, rfl⟩, hb2⟩
  have HG2 := hide (HG1.out.trans (hb2.mono HG1.out.size))
  clear C1 hb2 HG1
  cases r with
  | false =>
    have CW := pworks_any w2
    go_wp2_with fail
    refine CW.mono ?_
    rintro e wz ⟨rfl, hbz⟩
    go_wp2
    go_ret
    exact ⟨rfl, HW.out _ _ HG2.out hbz⟩
  | true =>
  have V2 := HV.out w2 HG2.out
  have t0 := V2.c0
  have t1 := V2.c1
  have CK := rcheck_any (n + 1) x _ _ w2 V2.ar
  clear V2
  go_wp2_with fail
  clear t0 t1
  refine CK.mono ?_
  rintro e w3 ⟨rfl, hb3⟩
  have HG3 := hide (HG2.out.trans (hb3.mono HG2.out.size))
  obtain ⟨Q, hQ⟩ : ∃ Q, chkA 8 x = Q := ⟨_, rfl⟩
  rw [hQ]
  clear CK hb3 HG2
  by_cases hQ0 : Q = 0
  case neg =>
    have hqb : (Q == 0) = false := beq_eq_false_iff_ne.2 hQ0
    have CW := pworks_any w3
    clear hQ
    go_wp2_with fail
    refine CW.mono ?_
    rintro e wz ⟨rfl, hbz⟩
    go_wp2
    go_ret
    exact ⟨rfl, HW.out _ _ HG3.out hbz⟩
  subst hQ0
  have V2 := HU.out w3 HG3.out
  have t0 := V2.c0
  have t1 := V2.c1
  have CK := rcheck_any (n + 1) y _ _ w3 V2.ar
  clear V2
  go_wp2_with fail
  clear t0 t1
  refine CK.mono ?_
  rintro e w4 ⟨rfl, hb4⟩
  have HG4 := hide (HG3.out.trans (hb4.mono HG3.out.size))
  obtain ⟨Q, hR⟩ : ∃ Q, chkA 8 y = Q := ⟨_, rfl⟩
  rw [hR]
  clear CK hb4 HG3
  by_cases hQ0 : Q = 0
  case neg =>
    have hqb : (Q == 0) = false := beq_eq_false_iff_ne.2 hQ0
    have CW := pworks_any w4
    clear hR
    go_wp2_with fail
    refine CW.mono ?_
    rintro e wz ⟨rfl, hbz⟩
    go_wp2
    go_ret
    exact ⟨rfl, HW.out _ _ HG4.out hbz⟩
  subst hQ0
  have U2 := HU.out w4 HG4.out
  have V2 := HV.out w4 HG4.out
  have CX := pick_any (op := op) V2.ar U2.ar hQ hR V2.cap U2.cap (snd_num hsx)
  have HCX := hide (pick_chk (op := op) hQ hR)
  obtain ⟨⟨X, E⟩, hXE⟩ : ∃ p, pickR op x y = p := ⟨_, rfl⟩
  rw [hXE] at CX HCX
  simp only at CX HCX
  have t0 := V2.c0
  have t1 := V2.c1
  have s0 := U2.c0
  have s1 := U2.c1
  clear hXE U2 V2 hQ hR
  go_wp2_with fail
  clear t0 t1 s0 s1
  refine CX.mono ?_
  clear CX
  rintro e w5 ⟨⟨v, rfl, kx, hv⟩, hb5⟩
  obtain ⟨f1, i1, f2, i2, rfl, -, -⟩ := hv.form
  obtain ⟨SX, hSX⟩ : ∃ z, X.shape.length = z := ⟨_, rfl⟩
  obtain ⟨CX, hCX⟩ : ∃ z, X.cells.length = z := ⟨_, rfl⟩
  simp only [hSX, hCX] at hv kx ⊢
  obtain ⟨B6, V6⟩ := var_new (W3 := w4) hb5 hv kx
  obtain ⟨W6, e6⟩ : ∃ W6, w5.alloc (.cells #[.slice f1 SX i1, .slice f2 CX i2] 25) = W6 := ⟨_, rfl⟩
  rw [e6] at B6 V6
  have HG6 := hide (HG4.out.trans (B6.mono HG4.out.size))
  by_cases hE : E = 0
  case neg =>
    have hqb : (E == 0) = false := beq_eq_false_iff_ne.2 hE
    have CW := pworks_any W6
    clear hv kx hb5 B6 V6 hSX hCX HG4
    go_wp2_with fail
    clear e6
    refine CW.mono ?_
    rintro e wz ⟨rfl, hbz⟩
    go_wp2
    go_ret
    exact ⟨rfl, HW.out _ _ HG6.out hbz⟩
  subst hE
  have t0 := V6.c0
  have t1 := V6.c1
  have CK := rcheck_any (n + 1) X _ _ W6 V6.ar
  rw [HCX.out rfl] at CK
  clear hv kx hb5 B6 V6 hSX hCX HG4
  go_wp2_with fail
  clear e6 t0 t1
  refine CK.mono ?_
  rintro e w7 ⟨rfl, hb7⟩
  have HG7 := hide (HG6.out.trans (hb7.mono HG6.out.size))
  have CW := pworks_any w7
  clear CK hb7 HG6
  go_wp2_with fail
  refine CW.mono ?_
  rintro e wz ⟨rfl, hbz⟩
  go_wp2
  go_ret
  exact ⟨rfl, HW.out _ _ HG7.out hbz⟩
set_option maxRecDepth 100000 in
theorem lifted (os : Os) (started : os.Started) (H : Type) (enc : TypeId × Value → H) :
    ReturnsInHanded {} Try.checked os 10 .any (Rows.pickMaySpec.pre6 enc Try.prog Try.f10 Rows.pickMayRow.domain false) (Rows.pickMaySpec.post enc Try.prog Try.f10 false true false false) := by
  refine returnsInHanded_of_change_sized (C := Try.checked) own started (by kernel_rfl) Try.func10
    (ChangeSpec.witness6 (enc := enc) (C := Try.checked) false ⟨#[], #[.int .i64 0, .agg #[.slice none 0 0, .slice none 0 0], .agg #[.slice none 0 0, .slice none 0 0]], []⟩ 8 (by kernel_rfl) (by kernel_rfl) (by kernel_rfl) (by kernel_rfl)) ?_
  intro W base args ds gs before hval0 hW _ hsz0 _
  have hsz : (DataW.weightsEach Try.prog (Try.f10.params.toList ++ Rows.pickMaySpec.plain.varTypes Try.prog) (ds ++ gs)).all (· ≤ reachBytes) = true := hsz0
  clear hsz0
  have hval : ∀ (j : Nat) t v, Try.f10.params[j]? = some t → args[j]? = some v → Value.okWide Try.prog W .any base t v := hval0
  have hW' := hW
  obtain ⟨p, q, hA0, hV, rfl, hfz, hnd⟩ := hW
  have hA : DataW.TrodAll enc Try.prog W 0 (fun _ => true) true Try.f10.params.toList args.toList ds p := hA0
  rw [Try.params10] at hA hval hsz
  obtain ⟨v0, vs0, d0, ds0, p0, q0, hargs, rfl, rfl, h0, r0⟩ := trodAll_cons hA
  obtain ⟨v1, vs1, d1, ds1, p1, q1, rfl, rfl, rfl, h1, r1⟩ := trodAll_cons r0
  obtain ⟨v2, vs2, d2, ds2, p2, q2, rfl, rfl, rfl, h2, r2⟩ := trodAll_cons r1
  obtain ⟨rfl, rfl, rfl⟩ := trodAll_nil r2
  obtain rfl : args = #[v0, v1, v2] := by cases args; simp_all
  obtain ⟨rfl, rfl⟩ := trodVars_none hV
  obtain ⟨x0, rfl, rfl, rfl, w0⟩ := open_int Try.underlying3 (hval 0 3 v0 rfl rfl) h0
  have k1 := h1
  have lt1 : ∀ x ∈ p1, x.block < W.heap.size := by obtain ⟨m, hm⟩ := k1; exact DataW.trod_lt m _ _ _ hm
  obtain ⟨n1, y1, c10, c11, hc1, w1⟩ := arr_of hsz (j := 1) rfl rfl h1
  obtain rfl := agg_two hc1
  have k2 := h2
  have lt2 : ∀ x ∈ p2, x.block < W.heap.size := by obtain ⟨m, hm⟩ := k2; exact DataW.trod_lt m _ _ _ hm
  obtain ⟨n2, y2, c20, c21, hc2, w2⟩ := arr_of hsz (j := 2) rfl rfl h2
  obtain rfl := agg_two hc2
  clear hA0 hval0
  refine (walk x0 n1 y1 c10 c11 n2 y2 c20 c21 W (bounds_i64 w0) w1.1 (arr_caps h1) w1.2 w2.1 (arr_caps h2) w2.2).mono fun e W' ⟨he, bel⟩ => ?_
  subst he
  exact ⟨_, rfl, _, _, _, [], _, [], hW', trodAll_mk1 (shut_bool Try.underlying4 _), (trodAll_cons_mk (shut_int Try.underlying3 w0) (trodAll_cons_mk (Below.trod laidOut (by kernel_rfl) (of_decide_eq_true (by kernel_rfl)) k1 bel lt1) (trodAll_cons_mk (Below.trod laidOut (by kernel_rfl) (of_decide_eq_true (by kernel_rfl)) k2 bel lt2) trodAll_mk0))), rfl, bel.frame _, fun h => by cases h⟩
theorem over : Rows.pickMayRow.holds Try.pinned (OpenSpec.ofChange Rows.pickMaySpec) :=
  OpenClaim.holds_of_wide 10 Try.f10 rfl rfl rfl rfl rfl rfl rfl ⟨rfl, rfl, rfl, rfl, rfl⟩ rfl rfl rfl rfl rfl (by kernel_rfl) Try.func10 (by kernel_rfl)
    (of_decide_eq_true (by kernel_rfl)) (by unfold Func.isWrapper; first | (rw [if_pos (by decide +kernel)]; kernel_rfl) | (rw [if_neg (by decide +kernel)]; exact ⟨rfl, rfl⟩))
    (fun os started H enc _ => lifted os started H enc)
theorem proved : Rows.PickMaySaid := over
end Go.Proofs.Ytmjncdhahdpplaa.pickMay
namespace Go.Proofs.Ytmjncdhahdpplaa
theorem pickMay_holds : Rows.PickMaySaid := pickMay.proved
#print axioms pickMay_holds
end Go.Proofs.Ytmjncdhahdpplaa
