/-
  For all arrays and functions the statement LayoutMay holds: what comes of arrays that may be may be; no condition (the given row speaks of what a machine of 64 bits can hold).
-/
import Derived.Test.YtapknkgbkcdchaaLyU
namespace Go.Proofs.Ytapknkgbkcdchaa.layoutMay
open Go.ChangeShapes Go.WideShapes Go.ChangeAt Go.RowKit
set_option linter.unusedVariables false
set_option maxHeartbeats 4000000 in
theorem walk (op : Int) (n : Nat) (x : Ar) (c0 c1 : Value) (m : Nat) (s : Ar) (d0 d1 : Value) (w : World) (hx : ArIn n 0 w x (.agg #[c0, c1])) (hcap : Caps (.agg #[c0, c1])) (hs : ArIn m 0 w s (.agg #[d0, d1])) :
    Calls Try.prog 7 #[.int .i64 op, .agg #[c0, c1], .agg #[d0, d1]] w fun e w' => e = .returned (.bool true) ∧ Below w.heap.size w w' := by
  cases n with
  | zero => exact hx.elim
  | succ n =>
  cases m with
  | zero => exact hs.elim
  | succ m =>
  obtain ⟨a1, k1, a2, k2, hv, -⟩ := hx.form
  simp only [Value.agg.injEq, Array.mk.injEq, List.cons.injEq, and_true] at hv
  obtain ⟨rfl, rfl⟩ := hv
  obtain ⟨b1, l1, b2, l2, hv, -⟩ := hs.form
  simp only [Value.agg.injEq, Array.mk.injEq, List.cons.injEq, and_true] at hv
  obtain ⟨rfl, rfl⟩ := hv
  obtain ⟨SA, hSA⟩ : ∃ SA, x.shape.length = SA := ⟨_, rfl⟩
  obtain ⟨CA, hCA⟩ : ∃ CA, x.cells.length = CA := ⟨_, rfl⟩
  obtain ⟨SB, hSB⟩ : ∃ SB, s.shape.length = SB := ⟨_, rfl⟩
  obtain ⟨CB, hCB⟩ : ∃ CB, s.cells.length = CB := ⟨_, rfl⟩
  simp only [hSA, hCA, hSB, hCB] at hx hs hcap ⊢
  have b0 := two_allocs w (.cells #[.slice a1 SA k1, .slice a2 CA k2] 25) (.cells #[.slice b1 SB l1, .slice b2 CB l2] 25)
  have z2 := size_two w (.cells #[.slice a1 SA k1, .slice a2 CA k2] 25) (.cells #[.slice b1 SB l1, .slice b2 CB l2] 25)
  have q0 : ((w.alloc (.cells #[.slice a1 SA k1, .slice a2 CA k2] 25)).alloc (.cells #[.slice b1 SB l1, .slice b2 CB l2] 25)).cell? ⟨w.heap.size, 0, none⟩ = some (.slice a1 SA k1) := cell_new1 w _ 25 (0, 0) _ 0 _ rfl
  have q1 : ((w.alloc (.cells #[.slice a1 SA k1, .slice a2 CA k2] 25)).alloc (.cells #[.slice b1 SB l1, .slice b2 CB l2] 25)).cell? ⟨w.heap.size, 1, none⟩ = some (.slice a2 CA k2) := cell_new1 w _ 25 (0, 0) _ 1 _ rfl
  have r0 : ((w.alloc (.cells #[.slice a1 SA k1, .slice a2 CA k2] 25)).alloc (.cells #[.slice b1 SB l1, .slice b2 CB l2] 25)).cell? ⟨w.heap.size + 1, 0, none⟩ = some (.slice b1 SB l1) := cell_new2 w _ 25 (0, 0) _ 0 _ rfl
  have r1 : ((w.alloc (.cells #[.slice a1 SA k1, .slice a2 CA k2] 25)).alloc (.cells #[.slice b1 SB l1, .slice b2 CB l2] 25)).cell? ⟨w.heap.size + 1, 1, none⟩ = some (.slice b2 CB l2) := cell_new2 w _ 25 (0, 0) _ 1 _ rfl
  obtain ⟨W1, e1⟩ : ∃ W1, (w.alloc (.cells #[.slice a1 SA k1, .slice a2 CA k2] 25)).alloc (.cells #[.slice b1 SB l1, .slice b2 CB l2] 25) = W1 := ⟨_, rfl⟩
  rw [e1] at b0 q0 q1 r0 r1 z2
  have HX : Hid (∀ W, Below w.heap.size w W → ArIn (n + 1) 0 W x (.agg #[.slice a1 SA k1, .slice a2 CA k2])) := fun W h => hx.next h
  have HS : Hid (∀ W, Below w.heap.size w W → ArIn (m + 1) 0 W s (.agg #[.slice b1 SB l1, .slice b2 CB l2])) := fun W h => hs.next h
  have HQ : Hid (∀ W, Below W1.heap.size W1 W → Below w.heap.size w W ∧ W.cell? ⟨w.heap.size, 0, none⟩ = some (.slice a1 SA k1) ∧ W.cell? ⟨w.heap.size, 1, none⟩ = some (.slice a2 CA k2) ∧ W.cell? ⟨w.heap.size + 1, 0, none⟩ = some (.slice b1 SB l1) ∧ W.cell? ⟨w.heap.size + 1, 1, none⟩ = some (.slice b2 CB l2)) := fun W h => ⟨b0.trans (h.mono b0.size), (h.cell (p := ⟨w.heap.size, 0, none⟩) (by show w.heap.size < _; omega)).trans q0, (h.cell (p := ⟨w.heap.size, 1, none⟩) (by show w.heap.size < _; omega)).trans q1, (h.cell (p := ⟨w.heap.size + 1, 0, none⟩) (by show w.heap.size + 1 < _; omega)).trans r0, (h.cell (p := ⟨w.heap.size + 1, 1, none⟩) (by show w.heap.size + 1 < _; omega)).trans r1⟩
  have HW : Hid (∀ W w', Below W1.heap.size W1 W → Below W.heap.size W w' → Below w.heap.size w w') := fun W w' h1 h2 => (HQ.out W h1).1.trans (h2.mono (HQ.out W h1).1.size)
  have HCAP := hide hcap
  have C0 := light_any (HX.out _ b0)
  clear hx hs hcap hSA hCA hSB hCB b0 z2
  go_enter Try.func7, Try.ntmps7
  go_wp2_with fail
  clear e1
  refine C0.mono ?_
  rintro e w1 ⟨⟨r, rfl⟩, hb1⟩
  have HG1 := hide hb1
  obtain ⟨n1, t0, t1, t2, t3⟩ := HQ.out w1 hb1
  clear C0 hb1 q0 q1 r0 r1
  cases r with
  | false =>
    have CW := works_any w1
    clear n1 t0 t1 t2 t3
    go_wp2_with fail
    refine CW.mono ?_
    rintro e wz ⟨rfl, hbz⟩
    go_wp2
    go_ret
    exact ⟨rfl, HW.out _ _ HG1.out hbz⟩
  | true =>
  have C1 := light_any (HS.out _ n1)
  clear n1
  go_wp2_with fail
  clear t0 t1 t2 t3
  refine C1.mono ?_
  rintro e w2 ⟨⟨r, rfl⟩, hb2⟩
  have HG2 := hide (HG1.out.trans (hb2.mono HG1.out.size))
  obtain ⟨n2, t0, t1, t2, t3⟩ := HQ.out w2 HG2.out
  clear C1 hb2 HG1
  cases r with
  | false =>
    have CW := works_any w2
    clear n2 t0 t1 t2 t3
    go_wp2_with fail
    refine CW.mono ?_
    rintro e wz ⟨rfl, hbz⟩
    go_wp2
    go_ret
    exact ⟨rfl, HW.out _ _ HG2.out hbz⟩
  | true =>
  have C3 := rcheck_any (n + 1) x _ _ w2 (HX.out _ n2)
  clear n2
  obtain ⟨E3, hE3⟩ : ∃ E, chkA 8 x = E := ⟨_, rfl⟩
  rw [hE3] at C3
  go_wp2_with fail
  clear t0 t1 t2 t3
  refine C3.mono ?_
  rintro e w3 ⟨rfl, hb3⟩
  have HG3 := hide (HG2.out.trans (hb3.mono HG2.out.size))
  obtain ⟨n3, t0, t1, t2, t3⟩ := HQ.out w3 HG3.out
  clear C3 hb3 HG2
  by_cases h3 : E3 = 0
  case neg =>
    have hne : (E3 == 0) = false := beq_eq_false_iff_ne.2 h3
    have CW := works_any w3
    clear n3 t0 t1 t2 t3
    go_wp2_with fail
    refine CW.mono ?_
    rintro e wz ⟨rfl, hbz⟩
    go_wp2
    go_ret
    exact ⟨rfl, HW.out _ _ HG3.out hbz⟩
  subst h3
  have HE3 := hide hE3
  clear hE3
  have C4 := rcheck_any (m + 1) s _ _ w3 (HS.out _ n3)
  clear n3
  obtain ⟨E4, hE4⟩ : ∃ E, chkA 8 s = E := ⟨_, rfl⟩
  rw [hE4] at C4
  go_wp2_with fail
  clear t0 t1 t2 t3
  refine C4.mono ?_
  rintro e w4 ⟨rfl, hb4⟩
  have HG4 := hide (HG3.out.trans (hb4.mono HG3.out.size))
  obtain ⟨n4, t0, t1, t2, t3⟩ := HQ.out w4 HG4.out
  clear C4 hb4 HG3
  by_cases h4 : E4 = 0
  case neg =>
    have hne : (E4 == 0) = false := beq_eq_false_iff_ne.2 h4
    have CW := works_any w4
    clear n4 t0 t1 t2 t3
    go_wp2_with fail
    refine CW.mono ?_
    rintro e wz ⟨rfl, hbz⟩
    go_wp2
    go_ret
    exact ⟨rfl, HW.out _ _ HG4.out hbz⟩
  subst h4
  have HE4 := hide hE4
  clear hE4
  have CM := mo_any (HX.out _ n4) op (fun h => HCAP.out)
  have HMAY := hide (mo_may (HX.out _ n4) HE3.out op)
  obtain ⟨R, hR⟩ : ∃ R, moR (n + 1) op x = R := ⟨_, rfl⟩
  rw [hR] at CM HMAY
  obtain ⟨y, E⟩ := R
  simp only at CM HMAY
  clear hR n4
  go_wp2_with fail
  clear t0 t1 t2 t3
  refine CM.mono ?_
  rintro e w5 ⟨⟨v, rfl, hv⟩, hb5⟩
  obtain ⟨y1, m1, y2, m2, rfl, -, -⟩ := hv.form
  obtain ⟨SY, hSY⟩ : ∃ SY, y.shape.length = SY := ⟨_, rfl⟩
  obtain ⟨CY, hCY⟩ : ∃ CY, y.cells.length = CY := ⟨_, rfl⟩
  simp only [hSY, hCY] at hv ⊢
  obtain ⟨W6, e6⟩ : ∃ W6, w5.alloc (.cells #[.slice y1 SY m1, .slice y2 CY m2] 25) = W6 := ⟨_, rfl⟩
  have B6 : Below w5.heap.size w5 W6 := by rw [← e6]; exact one_alloc _ _
  have z6 : W6.heap.size = w5.heap.size + 1 := by rw [← e6]; simp
  have B46 : Below w4.heap.size w4 W6 := hb5.trans (B6.mono hb5.size)
  have y0 : W6.cell? ⟨w5.heap.size, 0, none⟩ = some (.slice y1 SY m1) := by rw [← e6]; exact cell_new0 w5 _ 25 0 _ rfl
  have y1' : W6.cell? ⟨w5.heap.size, 1, none⟩ = some (.slice y2 CY m2) := by rw [← e6]; exact cell_new0 w5 _ 25 1 _ rfl
  have HY : Hid (∀ W, Below W6.heap.size W6 W → ArIn (n + 2) 0 W y (.agg #[.slice y1 SY m1, .slice y2 CY m2]) ∧ W.cell? ⟨w5.heap.size, 0, none⟩ = some (.slice y1 SY m1) ∧ W.cell? ⟨w5.heap.size, 1, none⟩ = some (.slice y2 CY m2)) := fun W h => ⟨(hv.next B6).mono (Nat.zero_le _) h, (h.cell (p := ⟨w5.heap.size, 0, none⟩) (by show w5.heap.size < _; omega)).trans y0, (h.cell (p := ⟨w5.heap.size, 1, none⟩) (by show w5.heap.size < _; omega)).trans y1'⟩
  have HG6 := hide (HG4.out.trans (B46.mono HG4.out.size))
  obtain ⟨n6, t0, t1, t2, t3⟩ := HQ.out W6 HG6.out
  have CR := reshape_any (HS.out _ n6) (HX.out _ n6) (Nat.zero_le _)
  have HRM : Hid ((reshR s x).2 = 0 → chkA 8 (reshR s x).1 = 0) := resh_may
  obtain ⟨R, hR⟩ : ∃ R, reshR s x = R := ⟨_, rfl⟩
  rw [hR] at CR HRM
  obtain ⟨z, F⟩ := R
  simp only at CR HRM
  clear hR n6 CM hv hb5 B6 B46 z6 hSY hCY HG4 y0 y1'
  go_wp2_with fail
  clear e6 t0 t1 t2 t3
  refine CR.mono ?_
  rintro e w7 ⟨⟨v, rfl, hv⟩, hb7⟩
  obtain ⟨z1, j1, z2, j2, rfl, -, -⟩ := hv.form
  obtain ⟨SZ, hSZ⟩ : ∃ SZ, z.shape.length = SZ := ⟨_, rfl⟩
  obtain ⟨CZ, hCZ⟩ : ∃ CZ, z.cells.length = CZ := ⟨_, rfl⟩
  simp only [hSZ, hCZ] at hv ⊢
  obtain ⟨W8, e8⟩ : ∃ W8, w7.alloc (.cells #[.slice z1 SZ j1, .slice z2 CZ j2] 25) = W8 := ⟨_, rfl⟩
  have B8 : Below w7.heap.size w7 W8 := by rw [← e8]; exact one_alloc _ _
  have z8 : W8.heap.size = w7.heap.size + 1 := by rw [← e8]; simp
  have HB68 : Hid (Below W6.heap.size W6 W8) := hb7.trans (B8.mono hb7.size)
  have z0 : W8.cell? ⟨w7.heap.size, 0, none⟩ = some (.slice z1 SZ j1) := by rw [← e8]; exact cell_new0 w7 _ 25 0 _ rfl
  have z1' : W8.cell? ⟨w7.heap.size, 1, none⟩ = some (.slice z2 CZ j2) := by rw [← e8]; exact cell_new0 w7 _ 25 1 _ rfl
  have HZ : Hid (∀ W, Below W8.heap.size W8 W → ArIn (n + 1) 0 W z (.agg #[.slice z1 SZ j1, .slice z2 CZ j2]) ∧ W.cell? ⟨w7.heap.size, 0, none⟩ = some (.slice z1 SZ j1) ∧ W.cell? ⟨w7.heap.size, 1, none⟩ = some (.slice z2 CZ j2)) := fun W h => ⟨(hv.next B8).mono (Nat.zero_le _) h, (h.cell (p := ⟨w7.heap.size, 0, none⟩) (by show w7.heap.size < _; omega)).trans z0, (h.cell (p := ⟨w7.heap.size, 1, none⟩) (by show w7.heap.size < _; omega)).trans z1'⟩
  have HG8 := hide (HG6.out.trans (HB68.out.mono HG6.out.size))
  clear CR hv hb7 B8 z8 hSZ hCZ HG6 z0 z1'
  have HLAST : Hid (∀ W w', Below W8.heap.size W8 W → Below W.heap.size W w' → Below w.heap.size w w') := fun W w' h1 h2 => HW.out W w' (HG8.out.trans (h1.mono HG8.out.size)) h2
  by_cases hE0 : E = 0
  · subst hE0
    obtain ⟨hy, y0, y1'⟩ := HY.out W8 HB68.out
    have CE := rcheck_any (n + 2) y _ _ W8 hy
    rw [HMAY.out rfl] at CE
    clear hy
    go_wp2_with fail
    clear e8 y0 y1'
    refine CE.mono ?_
    rintro e wa ⟨rfl, hba⟩
    clear CE
    by_cases hF : F = 0
    · subst hF
      obtain ⟨hz, z0, z1'⟩ := HZ.out wa hba
      have CF := rcheck_any (n + 1) z _ _ wa hz
      rw [HRM.out rfl] at CF
      have HBW := hide hba
      clear hz
      go_wp2_with fail
      clear z0 z1'
      refine CF.mono ?_
      rintro e wb ⟨rfl, hbb⟩
      have HBB := hide (HBW.out.trans (hbb.mono HBW.out.size))
      have CW := works_any wb
      clear CF hbb HBW
      go_wp2_with fail
      refine CW.mono ?_
      rintro e wz ⟨rfl, hbz⟩
      go_wp2
      go_ret
      exact ⟨rfl, HLAST.out _ _ HBB.out hbz⟩
    · have hne2 : (F == 0) = false := beq_eq_false_iff_ne.2 hF
      have CW := works_any wa
      have HBW := hide hba
      go_wp2_with fail
      refine CW.mono ?_
      rintro e wz ⟨rfl, hbz⟩
      go_wp2
      go_ret
      exact ⟨rfl, HLAST.out _ _ HBW.out hbz⟩
  · have hne : (E == 0) = false := beq_eq_false_iff_ne.2 hE0
    have hrefl : Below W8.heap.size W8 W8 := Below.refl _ _
    by_cases hF : F = 0
    · subst hF
      obtain ⟨hz, z0, z1'⟩ := HZ.out W8 hrefl
      have CF := rcheck_any (n + 1) z _ _ W8 hz
      rw [HRM.out rfl] at CF
      have HBW := hide hrefl
      clear hz
      go_wp2_with fail
      clear e8
      clear z0 z1'
      refine CF.mono ?_
      rintro e wb ⟨rfl, hbb⟩
      have HBB := hide (HBW.out.trans (hbb.mono HBW.out.size))
      have CW := works_any wb
      clear CF hbb HBW
      go_wp2_with fail
      refine CW.mono ?_
      rintro e wz ⟨rfl, hbz⟩
      go_wp2
      go_ret
      exact ⟨rfl, HLAST.out _ _ HBB.out hbz⟩
    · have hne2 : (F == 0) = false := beq_eq_false_iff_ne.2 hF
      have CW := works_any W8
      have HBW := hide hrefl
      go_wp2_with fail
      clear e8
      refine CW.mono ?_
      rintro e wz ⟨rfl, hbz⟩
      go_wp2
      go_ret
      exact ⟨rfl, HLAST.out _ _ HBW.out hbz⟩
set_option maxRecDepth 100000 in
theorem lifted (os : Os) (started : os.Started) (H : Type) (enc : TypeId × Value → H) :
    ReturnsInHanded {} Try.checked os 7 .any (Rows.layoutMaySpec.pre6 enc Try.prog Try.f7 Rows.layoutMayRow.domain false) (Rows.layoutMaySpec.post enc Try.prog Try.f7 false true false false) := by
  refine returnsInHanded_of_change_sized (C := Try.checked) own started (by kernel_rfl) Try.func7
    (ChangeSpec.witness6 (enc := enc) (C := Try.checked) false ⟨#[], #[.int .i64 0, .agg #[.slice none 0 0, .slice none 0 0], .agg #[.slice none 0 0, .slice none 0 0]], []⟩ 8 (by kernel_rfl) (by kernel_rfl) (by kernel_rfl) (by kernel_rfl)) ?_
  intro W base args ds gs before hval0 hW _ hsz0 _
  have hsz : (DataW.weightsEach Try.prog (Try.f7.params.toList ++ Rows.layoutMaySpec.plain.varTypes Try.prog) (ds ++ gs)).all (· ≤ reachBytes) = true := hsz0
  clear hsz0
  have hval : ∀ (j : Nat) t v, Try.f7.params[j]? = some t → args[j]? = some v → Value.okWide Try.prog W .any base t v := hval0
  have hW' := hW
  obtain ⟨p, q, hA0, hV, rfl, hfz, hnd⟩ := hW
  have hA : DataW.TrodAll enc Try.prog W 0 (fun _ => true) true Try.f7.params.toList args.toList ds p := hA0
  rw [Try.params7] at hA hval hsz
  obtain ⟨v0, vs0, d0, ds0, p0, q0, hargs, rfl, rfl, h0, r0⟩ := trodAll_cons hA
  obtain ⟨v1, vs1, d1, ds1, p1, q1, rfl, rfl, rfl, h1, r1⟩ := trodAll_cons r0
  obtain ⟨v2, vs2, d2, ds2, p2, q2, rfl, rfl, rfl, h2, r2⟩ := trodAll_cons r1
  obtain ⟨rfl, rfl, rfl⟩ := trodAll_nil r2
  obtain rfl : args = #[v0, v1, v2] := by cases args; simp_all
  obtain ⟨rfl, rfl⟩ := trodVars_none hV
  obtain ⟨x0, rfl, rfl, rfl, w0⟩ := open_int Try.underlying3 (hval 0 3 v0 rfl rfl) h0
  have k1 := h1
  have lt1 : ∀ x ∈ p1, x.block < W.heap.size := by obtain ⟨m, hm⟩ := k1; exact DataW.trod_lt m _ _ _ hm
  obtain ⟨n1, y1, c10, c11, hc1, w1⟩ := arr_of hsz (j := 1) rfl rfl h1
  obtain rfl := agg_two hc1
  have k2 := h2
  have lt2 : ∀ x ∈ p2, x.block < W.heap.size := by obtain ⟨m, hm⟩ := k2; exact DataW.trod_lt m _ _ _ hm
  obtain ⟨n2, y2, c20, c21, hc2, w2⟩ := arr_of hsz (j := 2) rfl rfl h2
  obtain rfl := agg_two hc2
  clear hA0 hval0
  refine (walk x0 n1 y1 c10 c11 n2 y2 c20 c21 W w1.1 (arr_caps h1) w2.1).mono fun e W' ⟨he, bel⟩ => ?_
  subst he
  exact ⟨_, rfl, _, _, _, [], _, [], hW', trodAll_mk1 (shut_bool Try.underlying4 _), (trodAll_cons_mk (shut_int Try.underlying3 w0) (trodAll_cons_mk (Below.trod laidOut (by kernel_rfl) (of_decide_eq_true (by kernel_rfl)) k1 bel lt1) (trodAll_cons_mk (Below.trod laidOut (by kernel_rfl) (of_decide_eq_true (by kernel_rfl)) k2 bel lt2) trodAll_mk0))), rfl, bel.frame _, fun h => by cases h⟩
theorem over : Rows.layoutMayRow.holds Try.pinned (OpenSpec.ofChange Rows.layoutMaySpec) :=
  OpenClaim.holds_of_wide 7 Try.f7 rfl rfl rfl rfl rfl rfl rfl ⟨rfl, rfl, rfl, rfl, rfl⟩ rfl rfl rfl rfl rfl (by kernel_rfl) Try.func7 (by kernel_rfl)
    (of_decide_eq_true (by kernel_rfl)) (by unfold Func.isWrapper; first | (rw [if_pos (by decide +kernel)]; kernel_rfl) | (rw [if_neg (by decide +kernel)]; exact ⟨rfl, rfl⟩))
    (fun os started H enc _ => lifted os started H enc)
theorem proved : Rows.LayoutMaySaid := over
end Go.Proofs.Ytapknkgbkcdchaa.layoutMay
namespace Go.Proofs.Ytapknkgbkcdchaa
theorem layoutMay_holds : Rows.LayoutMaySaid := layoutMay.proved
#print axioms layoutMay_holds
end Go.Proofs.Ytapknkgbkcdchaa
