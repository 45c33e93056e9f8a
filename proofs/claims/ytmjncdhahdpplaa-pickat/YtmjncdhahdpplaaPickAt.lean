/-
  For all arrays and numbers the statement PickAt holds: to look up by numbers is the same whichever side they stand; each item is found by its number; no condition (the given row speaks of what a machine of 64 bits can hold).
-/
import Derived.Test.YtmjncdhahdpplaaM8
namespace Go.Proofs.Ytmjncdhahdpplaa.pickAt
open Go.ChangeShapes Go.WideShapes Go.ChangeAt Go.RowKit
set_option linter.unusedVariables false
set_option maxRecDepth 100000
set_option maxHeartbeats 16000000 in
theorem walk (m1 : Nat) (x : Ar) (c0 c1 : Value) (m2 : Nat) (y : Ar) (d0 d1 : Value) (kk : Int) (w : World) (hx : ArIn m1 0 w x (.agg #[c0, c1])) (hcap : Caps (.agg #[c0, c1])) (hy : ArIn m2 0 w y (.agg #[d0, d1])) (hcapy : Caps (.agg #[d0, d1])) :
    Calls Try.prog 8 #[.agg #[c0, c1], .agg #[d0, d1], .int .i64 kk] w fun e w' => e = .returned (.bool true) ∧ Below w.heap.size w w' := by
  obtain ⟨n, hn⟩ : ∃ n, m1 + m2 + 1 = n + 1 := ⟨_, rfl⟩
  replace hx : ArIn (n + 1) 0 w x (.agg #[c0, c1]) := hx.deep (by omega)
  replace hy : ArIn (n + 1) 0 w y (.agg #[d0, d1]) := hy.deep (by omega)
  clear hn
  obtain ⟨a1, k1, a2, k2, hv, -⟩ := hx.form
  simp only [Value.agg.injEq, Array.mk.injEq, List.cons.injEq, and_true] at hv
  obtain ⟨rfl, rfl⟩ := hv
  obtain ⟨b1, j1, b2, j2, hv, -⟩ := hy.form
  simp only [Value.agg.injEq, Array.mk.injEq, List.cons.injEq, and_true] at hv
  obtain ⟨rfl, rfl⟩ := hv
  obtain ⟨SA, hSA⟩ : ∃ SA, x.shape.length = SA := ⟨_, rfl⟩
  obtain ⟨CA, hCA⟩ : ∃ CA, x.cells.length = CA := ⟨_, rfl⟩
  obtain ⟨SB, hSB⟩ : ∃ SB, y.shape.length = SB := ⟨_, rfl⟩
  obtain ⟨CB, hCB⟩ : ∃ CB, y.cells.length = CB := ⟨_, rfl⟩
  simp only [hSA, hCA, hSB, hCB] at hx hcap hy hcapy ⊢
  obtain ⟨b0, V0⟩ := var_new (W3 := w) (Below.refl _ _) hx hcap
  obtain ⟨b00, U1⟩ := var_new (W3 := w) b0 (hy.next b0) hcapy
  have z1 : (w.alloc (.cells #[.slice a1 SA k1, .slice a2 CA k2] 25)).heap.size = w.heap.size + 1 := by simp
  rw [z1] at U1
  have V1 := V0.next (one_alloc _ (.cells #[.slice b1 SB j1, .slice b2 CB j2] 25))
  obtain ⟨W1, e1⟩ : ∃ W1, (w.alloc (.cells #[.slice a1 SA k1, .slice a2 CA k2] 25)).alloc (.cells #[.slice b1 SB j1, .slice b2 CB j2] 25) = W1 := ⟨_, rfl⟩
  rw [e1] at b00 U1 V1
  have q0 := V1.c0
  have q1 := V1.c1
  have HV : Hid (∀ W, Below W1.heap.size W1 W → Var (n + 1) W w.heap.size x (.slice a1 SA k1) (.slice a2 CA k2)) := fun W h => V1.next h
  have HU : Hid (∀ W, Below W1.heap.size W1 W → Var (n + 1) W (w.heap.size + 1) y (.slice b1 SB j1) (.slice b2 CB j2)) := fun W h => U1.next h
  have HW : Hid (∀ W w', Below W1.heap.size W1 W → Below W.heap.size W w' → Below w.heap.size w w') := fun W w' h1 h2 => b00.trans ((h1.trans (h2.mono h1.size)).mono b00.size)
  have C0 := plight_any V1.ar
  have HSC := hide (And.intro hSA hCA)
  clear hx hcap hSA hCA b0 V1 V0 U1 b00 hy hcapy hSB hCB z1
  go_enter Try.func8, Try.ntmps8
  go_wp2_with fail
  clear e1 q0 q1
  refine C0.mono ?_
  rintro e w1 ⟨⟨r, rfl⟩, hb1⟩
  have HG1 := hide hb1
  clear C0 hb1
  cases r with
  | false =>
    have CW := pworks_any w1
    go_wp2_with fail
    refine CW.mono ?_
    rintro e wz ⟨rfl, hbz⟩
    go_wp2
    go_ret
    exact ⟨rfl, HW.out _ _ HG1.out hbz⟩
  | true =>
  have C1 := plight_any (HU.out w1 HG1.out).ar
  have t0 := (HU.out w1 HG1.out).c0
  have t1 := (HU.out w1 HG1.out).c1
  go_wp2_with fail
  clear t0 t1
  refine C1.mono ?_
  rintro e w2 ⟨⟨r, rfl⟩, hb2⟩
  have HG2 := hide (HG1.out.trans (hb2.mono HG1.out.size))
  clear C1 hb2 HG1
  cases r with
  | false =>
    have CW := pworks_any w2
    go_wp2_with fail
    refine CW.mono ?_
    rintro e wz ⟨rfl, hbz⟩
    go_wp2
    go_ret
    exact ⟨rfl, HW.out _ _ HG2.out hbz⟩
  | true =>
  obtain ⟨⟨X, E⟩, hXE⟩ : ∃ p, dyR lookR y x = p := ⟨_, rfl⟩
  obtain ⟨⟨Y, F⟩, hYF⟩ : ∃ p, dyR (fun x y => lookR y x) x y = p := ⟨_, rfl⟩
  have HXY : Hid ((chkA 8 x = 0 ∧ chkA 8 y = 0 ∧ X = Y ∧ E = F) ∨ (¬ E = 0 ∧ ¬ F = 0 ∧ ¬ (chkA 8 x = 0 ∧ chkA 8 y = 0))) := by
    unfold dyR at hXE hYF
    by_cases h1 : chkA 8 x = 0
    · by_cases h2 : chkA 8 y = 0
      · rw [if_neg (by simpa using h2), if_neg (by simpa using h1)] at hXE
        rw [if_neg (by simpa using h1), if_neg (by simpa using h2)] at hYF
        simp only at hYF
        rw [hXE] at hYF
        simp only [Prod.mk.injEq] at hYF
        exact Or.inl ⟨h1, h2, hYF.1, hYF.2⟩
      · rw [if_pos h2] at hXE
        rw [if_neg (by simpa using h1), if_pos h2] at hYF
        simp only [Prod.mk.injEq] at hXE hYF
        exact Or.inr ⟨by rw [← hXE.2]; exact h2, by rw [← hYF.2]; exact h2, fun h => h2 h.2⟩
    · rw [if_pos h1] at hYF
      simp only [Prod.mk.injEq] at hYF
      refine Or.inr ⟨?_, by rw [← hYF.2]; exact h1, fun h => h1 h.1⟩
      by_cases h2 : chkA 8 y = 0
      · rw [if_neg (by simpa using h2), if_pos h1] at hXE
        simp only [Prod.mk.injEq] at hXE
        rw [← hXE.2]; exact h1
      · rw [if_pos h2] at hXE
        simp only [Prod.mk.injEq] at hXE
        rw [← hXE.2]; exact h2
  have U2 := HU.out w2 HG2.out
  have V2 := HV.out w2 HG2.out
  have CX := dy_all (op := 52) U2.ar V2.ar lookR (fun h1 h2 => dy_52 U2.ar V2.ar h1 h2 U2.cap V2.cap)
  rw [hXE] at CX
  simp only at CX
  have HYF := hide hYF
  have t0 := V2.c0
  have t1 := V2.c1
  have s0 := U2.c0
  have s1 := U2.c1
  clear hXE hYF U2 V2
  go_wp2_with fail
  clear t0 t1 s0 s1
  refine CX.mono ?_
  clear CX
  rintro e w3 ⟨⟨v, rfl, kx, hv⟩, hb3⟩
  obtain ⟨f1, i1, f2, i2, rfl, -, -⟩ := hv.form
  obtain ⟨SX, hSX⟩ : ∃ z, X.shape.length = z := ⟨_, rfl⟩
  obtain ⟨CX, hCX⟩ : ∃ z, X.cells.length = z := ⟨_, rfl⟩
  simp only [hSX, hCX] at hv kx ⊢
  obtain ⟨B4, V4⟩ := var_new (W3 := w2) hb3 hv kx
  obtain ⟨W4, e4⟩ : ∃ W4, w3.alloc (.cells #[.slice f1 SX i1, .slice f2 CX i2] 25) = W4 := ⟨_, rfl⟩
  rw [e4] at B4 V4
  have HG4 := hide (HG2.out.trans (B4.mono HG2.out.size))
  have HV4 : Hid (∀ W, Below W4.heap.size W4 W → Var (n + 1) W w3.heap.size X (.slice f1 SX i1) (.slice f2 CX i2)) := fun W h => V4.next h
  have U2 := HU.out W4 HG4.out
  have V2 := HV.out W4 HG4.out
  have CY := dy_all (op := 53) V2.ar U2.ar (fun x y => lookR y x) (fun h1 h2 => dy_53 V2.ar U2.ar h1 h2 V2.cap U2.cap)
  rw [HYF.out] at CY
  simp only at CY
  have t0 := V2.c0
  have t1 := V2.c1
  have s0 := U2.c0
  have s1 := U2.c1
  clear U2 V2 hv kx hb3 B4 V4 hSX hCX HYF HG2
  go_wp2_with fail
  clear e4 t0 t1 s0 s1
  refine CY.mono ?_
  clear CY
  rintro e w5 ⟨⟨v, rfl, kx, hv⟩, hb5⟩
  obtain ⟨g1, h1, g2, h2, rfl, -, -⟩ := hv.form
  obtain ⟨SY, hSY⟩ : ∃ z, Y.shape.length = z := ⟨_, rfl⟩
  obtain ⟨CY, hCY⟩ : ∃ z, Y.cells.length = z := ⟨_, rfl⟩
  simp only [hSY, hCY] at hv kx ⊢
  obtain ⟨B6, V6⟩ := var_new (W3 := W4) hb5 hv kx
  obtain ⟨W6, e6⟩ : ∃ W6, w5.alloc (.cells #[.slice g1 SY h1, .slice g2 CY h2] 25) = W6 := ⟨_, rfl⟩
  rw [e6] at B6 V6
  have HG6 := hide (HG4.out.trans (B6.mono HG4.out.size))
  have HV46 := hide (HV4.out W6 B6)
  have HV6 := hide V6
  clear hv kx hb5 B6 V6 hSY hCY HV4 HG4
  go_upto_region 5 with fail
  clear e6
  go_cut [61] from 39 to 61 (fun s wx => s = .bool false ∧ Below W6.heap.size W6 wx)
  case first =>
    rcases HXY.out with ⟨hc1, hc2, rfl, rfl⟩ | ⟨hE, hF, hbad⟩
    · have hEE : (E == E) = true := beq_self_eq_true _
      by_cases hE0 : E = 0
      · subst hE0
        have u0 := HV46.out.c0
        have u1 := HV46.out.c1
        have v0 := HV6.out.c0
        have v1 := HV6.out.c1
        have CS := rsame_any HV46.out.ar HV6.out.ar
        rw [cmpA_self] at CS
        clear HXY HV46 HV6
        go_wp2_with fail
        clear u0 u1 v0 v1
        refine CS.mono ?_
        rintro e wE ⟨rfl, hbE⟩
        simp only [decide_true]
        go_wp2
        go_meet
        exact ⟨rfl, hbE⟩
      · have hEb : (E == 0) = false := beq_eq_false_iff_ne.2 hE0
        clear HXY HV46 HV6
        go_wp2
        go_meet
        exact ⟨rfl, Below.refl _ _⟩
    · have hEb : (E == 0) = false := beq_eq_false_iff_ne.2 hE
      by_cases hEF : E = F
      · subst hEF
        have hEE : (E == E) = true := beq_self_eq_true _
        clear HXY HV46 HV6
        go_wp2
        go_meet
        exact ⟨rfl, Below.refl _ _⟩
      · have hEE : (E == F) = false := beq_eq_false_iff_ne.2 hEF
        have V2 := HV.out W6 HG6.out
        have t0 := V2.c0
        have t1 := V2.c1
        have CK := rcheck_any (n + 1) x _ _ W6 V2.ar
        clear V2 HV46 HV6
        go_wp2_with fail
        clear t0 t1
        refine CK.mono ?_
        rintro e wE ⟨rfl, hbE⟩
        obtain ⟨Q, hQ⟩ : ∃ Q, chkA 8 x = Q := ⟨_, rfl⟩
        rw [hQ] at hbad ⊢
        by_cases hQ0 : Q = 0
        · subst hQ0
          have HGE := hide (HG6.out.trans (hbE.mono HG6.out.size))
          have U2 := HU.out wE HGE.out
          have t0 := U2.c0
          have t1 := U2.c1
          have CK2 := rcheck_any (n + 1) y _ _ wE U2.ar
          obtain ⟨Q2, hQ2⟩ : ∃ Q, chkA 8 y = Q := ⟨_, rfl⟩
          rw [hQ2] at hbad CK2
          have hq : ¬ Q2 = 0 := fun h => hbad ⟨rfl, h⟩
          have hqb : (Q2 == 0) = false := beq_eq_false_iff_ne.2 hq
          have HBE := hide hbE
          clear U2 CK hbE hQ hQ2 hbad
          go_wp2_with fail
          clear t0 t1
          refine CK2.mono ?_
          rintro e wF ⟨rfl, hbF⟩
          go_wp2
          go_meet
          exact ⟨rfl, HBE.out.trans (hbF.mono HBE.out.size)⟩
        · have hqb : (Q == 0) = false := beq_eq_false_iff_ne.2 hQ0
          have HBE := hide hbE
          clear CK hbE hQ hbad
          go_wp2
          go_meet
          exact ⟨rfl, HBE.out⟩
  case rest =>
  obtain ⟨rfl, hbc⟩ := hcut
  generalize wc = w7 at *
  have HG7 := hide (HG6.out.trans (hbc.mono HG6.out.size))
  have V2 := HV.out w7 HG7.out
  have t0 := V2.c0
  have t1 := V2.c1
  have CK := rcheck_any (n + 1) x _ _ w7 V2.ar
  clear V2 HV46 HV6 HXY hbc HG6 HU
  go_wp2_with fail
  clear t0 t1
  refine CK.mono ?_
  rintro e w8 ⟨rfl, hb8⟩
  have HG8 := hide (HG7.out.trans (hb8.mono HG7.out.size))
  obtain ⟨Q, hQ⟩ : ∃ Q, chkA 8 x = Q := ⟨_, rfl⟩
  rw [hQ]
  clear CK hb8 HG7
  by_cases hQ0 : Q = 0
  case neg =>
    have hqb : (Q == 0) = false := beq_eq_false_iff_ne.2 hQ0
    have CW := pworks_any w8
    clear hQ
    go_wp2_with fail
    refine CW.mono ?_
    rintro e wz ⟨rfl, hbz⟩
    go_wp2
    go_ret
    exact ⟨rfl, HW.out _ _ HG8.out hbz⟩
  subst hQ0
  have HCH := hide hQ
  have V2 := HV.out w8 HG8.out
  have t0 := V2.c0
  have t1 := V2.c1
  by_cases hS0 : SA = 0
  · have hSb : ((SA : Int) == 0) = true := by simp [hS0]
    have CW := pworks_any w8
    clear hQ V2 hS0
    go_wp2_with fail
    refine CW.mono ?_
    rintro e wz ⟨rfl, hbz⟩
    go_wp2
    go_ret
    exact ⟨rfl, HW.out _ _ HG8.out hbz⟩
  have hSb : ((SA : Int) == 0) = false := by simp; omega
  have hS1 : 0 < SA := by omega
  have hlen : 0 < x.shape.length := by rw [HSC.out.1]; omega
  have hDb := (chk_axes hQ).1 (gI x.shape 0) (getD_mem hlen)
  obtain ⟨D, hD⟩ : ∃ D : Nat, gI x.shape 0 = (D : Int) := ⟨(gI x.shape 0).toNat, by omega⟩
  rw [hD] at hDb
  obtain ⟨d1, d2, d3, d4, hd, RX, -⟩ := V2.ar.form
  simp only [Value.agg.injEq, Array.mk.injEq, List.cons.injEq, Value.slice.injEq, and_true] at hd
  obtain ⟨⟨rfl, -, -⟩, -⟩ := hd
  obtain ⟨pb, po, rfl, hpb, hp0⟩ := row_at RX (j := 0) hlen
  have eg : x.shape[0]?.getD 0 = (D : Int) := hD
  rw [eg, Nat.add_zero] at hp0
  by_cases hD0 : D = 0
  · subst hD0
    have CW := pworks_any w8
    clear hQ V2 hS0 RX hpb eg hD hDb hlen
    go_wp2_with fail
    refine CW.mono ?_
    rintro e wz ⟨rfl, hbz⟩
    go_wp2
    go_ret
    exact ⟨rfl, HW.out _ _ HG8.out hbz⟩
  have hDn : ((D : Int) == 0) = false := by simp; omega
  obtain ⟨u, hu⟩ : ∃ u : Nat, IntKind.u64.wrap kk = (u : Int) := ⟨(IntKind.u64.wrap kk).toNat, by rw [IntKind.wrap_u64]; omega⟩
  have hwD : IntKind.u64.wrap (D : Int) = (D : Int) := by rw [IntKind.wrap_u64]; omega
  have htm : (u : Int).tmod (D : Int) = ((u % D : Nat) : Int) := by rw [Int.tmod_eq_emod_of_nonneg (by omega)]; omega
  have hqD : u % D < D := Nat.mod_lt _ (by omega)
  have hne0 : ¬ (D : Int) = 0 := by omega
  generalize u % D = q at *
  have hwq : IntKind.i64.wrap (q : Int) = (q : Int) := by rw [IntKind.wrap_i64]; omega
  have hwq' : IntKind.u64.wrap (q : Int) = (q : Int) := by rw [IntKind.wrap_u64]; omega
  have HD := hide (And.intro hD hqD)
  have HL := hide (at_look hQ hlen hD hqD)
  have HDR := hide (at_drop hlen hD hqD)
  have HTK := hide (at_take hQ hlen hD hqD)
  have HCD : Hid (chkA 8 (alongA x 0 (fromL q (D - q))) = 0) := by
    have h := drp_chk (x := atomA (q : Int)) hQ hlen
    have e := HDR.out
    rw [lstA_id hlen] at e
    rw [e] at h
    exact h.2 rfl
  have hD16 : D ≤ 16384 := by omega
  clear hQ V2 RX hpb eg hD hDb
  go_upto_region 10 with fail
  clear t0 t1 hp0
  obtain ⟨Z, hZ⟩ : ∃ Z, Ar.mk x.shape.tail (alongA x 0 [(q : Int)]).cells = Z := ⟨_, rfl⟩
  obtain ⟨D1, hD1⟩ : ∃ Z, alongA x 0 (fromL q (D - q)) = Z := ⟨_, rfl⟩
  obtain ⟨T1, hT1⟩ : ∃ Z, Ar.mk (x.shape.set 0 1) (alongA x 0 [(q : Int)]).cells = Z := ⟨_, rfl⟩
  have HZT : Hid (Z = .mk T1.shape.tail T1.cells) := by
    rw [← hZ, ← hT1]
    show Ar.mk x.shape.tail _ = Ar.mk (x.shape.set 0 1).tail _
    cases x.shape <;> rfl
  rw [hZ] at HL
  rw [hD1] at HDR HTK HCD
  rw [hT1] at HTK
  have lD1 : D1.shape.length = SA := by rw [← hD1, ← HSC.out.1]; show (List.set _ _ _).length = _; rw [List.length_set]
  have lT1 : T1.shape.length = SA := by rw [← hT1, ← HSC.out.1]; show (List.set _ _ _).length = _; rw [List.length_set]
  obtain ⟨CZ, lZ⟩ : ∃ CZ, T1.cells.length = CZ := ⟨_, rfl⟩
  have lZ2 : Z.cells.length = CZ := by rw [HZT.out]; exact lZ
  have lZ1 : Z.shape.length = SA - 1 := by rw [HZT.out]; show T1.shape.tail.length = _; rw [List.length_tail, lT1]
  obtain ⟨CD1, lC1⟩ : ∃ CZ, D1.cells.length = CZ := ⟨_, rfl⟩
  have HLEN := hide (And.intro lD1 (And.intro lC1 (And.intro lT1 (And.intro lZ (And.intro lZ1 lZ2)))))
  have HV8 : Hid (∀ W, Below w8.heap.size w8 W → Var (n + 1) W w.heap.size x (.slice (some ⟨pb, po, none⟩) SA k1) (.slice a2 CA k2)) := fun W h => HV.out W (HG8.out.trans (h.mono HG8.out.size))
  have CQ : Hid (∀ W, Below w8.heap.size w8 W → _) := fun W h => atom_at n (q : Int) w8 W h
  have CD : Hid (∀ W, Below w8.heap.size w8 W → ∀ y1 n1 y2 n2, Caps (.agg #[.slice y1 0 n1, .slice y2 1 n2]) → ArIn (n + 1) 0 W (atomA (q : Int)) (.agg #[.slice y1 0 n1, .slice y2 1 n2]) → _) := fun W h y1 n1 y2 n2 kc hy => dy_at h (dy_52 hy (HV8.out W h).ar (chk_atom _) HCH.out kc (HV8.out W h).cap) HL.out lZ1 lZ2
  clear hZ hD1 hT1 lD1 lT1 lZ lZ1 lZ2 lC1
  have KS : Hid (∀ W, Below w8.heap.size w8 W → (Below w8.heap.size w8 W ∧ W.cell? ⟨w.heap.size, 0, none⟩ = some (.slice (some ⟨pb, po, none⟩) SA k1) ∧ W.cell? ⟨w.heap.size, 1, none⟩ = some (.slice a2 CA k2))) := fun W h => ⟨h, (HV8.out W h).c0, (HV8.out W h).c1⟩
  go_cut [12, 13] from 88 to 94 (fun sx sy wx => ∃ B z1 l1 z2 l2, sx = .pointer (some ⟨B, 0, none⟩) ∧ sy = .int .i64 0 ∧ Below w8.heap.size w8 wx ∧ Var (n + 1) wx B Z (.slice z1 (SA - 1) l1) (.slice z2 CZ l2))
  case first =>
    have HD0 : Hid (Below w8.heap.size w8 w8.drew) := (Below.refl _ _).drew
    have HD1 : Hid (Below w8.heap.size w8 (w8.alloc (.cells #[.slice none 0 0, .slice none 0 0] 25)).drew) := (one_alloc _ _).drew
    have HD2 : Hid (Below w8.heap.size w8 (w8.drew.alloc (.cells #[.slice none 0 0, .slice none 0 0] 25))) := (Below.refl _ _).drew.alloc (Nat.le_refl _) _
    have HAL : Hid (∀ W o, Below w8.heap.size w8 W → Below w8.heap.size w8 (W.alloc o)) := fun W o h => h.alloc h.size o
    have HSET : Hid (∀ W b u v, Below w8.heap.size w8 W → w8.heap.size ≤ b → Below w8.heap.size w8 ((W.setCell ⟨b, 0, none⟩ u).setCell ⟨b, 1, none⟩ v)) := fun W b u v h hb => (h.setCell (p := ⟨b, 0, none⟩) hb u).setCell (p := ⟨b, 1, none⟩) hb v
    have HLE : Hid (w8.heap.size ≤ w8.heap.size) := Nat.le_refl _
    go_region_held3 (fun W => Below w8.heap.size w8 W ∧ W.cell? ⟨w.heap.size, 0, none⟩ = some (.slice (some ⟨pb, po, none⟩) SA k1) ∧ W.cell? ⟨w.heap.size, 1, none⟩ = some (.slice a2 CA k2))
      (first | with_reducible exact KS.out _ HD0.out | with_reducible exact KS.out _ HD1.out | with_reducible exact KS.out _ HD2.out | with_reducible exact KS.out _ (by with_reducible assumption) | with_reducible exact KS.out _ (HAL.out _ _ (by with_reducible assumption)) | with_reducible exact KS.out _ (HSET.out _ _ _ _ (by with_reducible assumption) (by with_reducible assumption)) | with_reducible exact KS.out _ (HSET.out _ _ _ _ (by with_reducible assumption) HLE.out))
      (first
        | (go_at_call 22; first
            | ((with_reducible refine (CQ.out _ HD0.out).mono ?_); rintro e w4 ⟨⟨y1, n1, y2, n2, rfl, kc, hy⟩, g4, hb4⟩; have s4 := g4.size; clear hb4)
            | ((with_reducible refine (CQ.out _ HD1.out).mono ?_); rintro e w4 ⟨⟨y1, n1, y2, n2, rfl, kc, hy⟩, g4, hb4⟩; have t4 := (Zb.new w8).drew.next hb4; clear hb4)
            | ((with_reducible refine (CQ.out _ HD2.out).mono ?_); rintro e w4 ⟨⟨y1, n1, y2, n2, rfl, kc, hy⟩, g4, hb4⟩; have t4 := (Zb.new w8.drew).next hb4; clear hb4))
        | (go_at_call 19; first
            | ((with_reducible refine (CD.out w4 g4 y1 n1 y2 n2 kc hy).mono ?_); rintro e w5 ⟨⟨z1, l1, z2, l2, rfl, hc, hz⟩, g5, hb5⟩; first | (obtain ⟨k0, k1, k2, k3, -⟩ := t4.next hb5) | skip)
            | ((with_reducible refine (CD.out (w4.alloc (.cells #[.slice none 0 0, .slice none 0 0] 25)) (g4.alloc g4.size _) y1 n1 y2 n2 kc (hy.next (one_alloc _ _))).mono ?_); rintro e w5 ⟨⟨z1, l1, z2, l2, rfl, hc, hz⟩, g5, hb5⟩; obtain ⟨k0, k1, k2, k3, -⟩ := (Zb.new w4).next hb5)))
    all_goals
      go_wp2
      go_meet
    all_goals
      case rel =>
        first
          | exact ⟨_, _, _, _, _, rfl, rfl, var_new g5 hz hc⟩
          | exact ⟨_, _, _, _, _, rfl, rfl, var_old (Zb.new w4) g4.size g5 hb5 hz hc⟩
          | exact ⟨_, _, _, _, _, rfl, rfl, var_old t4 (Nat.le_refl _) g5 hb5 hz hc⟩
  case rest =>
  obtain ⟨B1, s1, l1, s2, l2, rfl, rfl, g1', Vz⟩ := hcut
  generalize wc = wA at *
  have HGA := hide (HG8.out.trans (g1'.mono HG8.out.size))
  have HVZ : Hid (∀ W, Below wA.heap.size wA W → Var (n + 1) W B1 Z (.slice s1 (SA - 1) l1) (.slice s2 CZ l2)) := fun W h => Vz.next h
  have HVA : Hid (∀ W, Below wA.heap.size wA W → Var (n + 1) W w.heap.size x (.slice (some ⟨pb, po, none⟩) SA k1) (.slice a2 CA k2)) := fun W h => HV.out W (HGA.out.trans (h.mono HGA.out.size))
  clear CQ CD KS g1' Vz HV8
  have CQ : Hid (∀ W, Below wA.heap.size wA W → _) := fun W h => atom_at n (q : Int) wA W h
  have CD : Hid (∀ W, Below wA.heap.size wA W → ∀ y1 n1 y2 n2, Caps (.agg #[.slice y1 0 n1, .slice y2 1 n2]) → ArIn (n + 1) 0 W (atomA (q : Int)) (.agg #[.slice y1 0 n1, .slice y2 1 n2]) → _) := fun W h y1 n1 y2 n2 kc hy => dy_at h (dy_43 hy (HVA.out W h).ar (chk_atom _) HCH.out kc (HVA.out W h).cap (by rw [numR_atom]; exact ⟨by show (-9223372036854775808 : Int) ≤ (q : Int); omega, by show (q : Int) ≤ 9223372036854775807; omega⟩)) HDR.out HLEN.out.1 HLEN.out.2.1
  have KS : Hid (∀ W, Below wA.heap.size wA W → (Below wA.heap.size wA W ∧ W.cell? ⟨w.heap.size, 0, none⟩ = some (.slice (some ⟨pb, po, none⟩) SA k1) ∧ W.cell? ⟨w.heap.size, 1, none⟩ = some (.slice a2 CA k2))) := fun W h => ⟨h, (HVA.out W h).c0, (HVA.out W h).c1⟩
  go_wp2
  go_cut [14, 15] from 95 to 101 (fun sx sy wx => ∃ B z1 l1 z2 l2, sx = .pointer (some ⟨B, 0, none⟩) ∧ sy = .int .i64 0 ∧ Below wA.heap.size wA wx ∧ Var (n + 1) wx B D1 (.slice z1 SA l1) (.slice z2 CD1 l2))
  case first =>
    have HD0 : Hid (Below wA.heap.size wA wA.drew) := (Below.refl _ _).drew
    have HD1 : Hid (Below wA.heap.size wA (wA.alloc (.cells #[.slice none 0 0, .slice none 0 0] 25)).drew) := (one_alloc _ _).drew
    have HD2 : Hid (Below wA.heap.size wA (wA.drew.alloc (.cells #[.slice none 0 0, .slice none 0 0] 25))) := (Below.refl _ _).drew.alloc (Nat.le_refl _) _
    have HAL : Hid (∀ W o, Below wA.heap.size wA W → Below wA.heap.size wA (W.alloc o)) := fun W o h => h.alloc h.size o
    have HSET : Hid (∀ W b u v, Below wA.heap.size wA W → wA.heap.size ≤ b → Below wA.heap.size wA ((W.setCell ⟨b, 0, none⟩ u).setCell ⟨b, 1, none⟩ v)) := fun W b u v h hb => (h.setCell (p := ⟨b, 0, none⟩) hb u).setCell (p := ⟨b, 1, none⟩) hb v
    have HLE : Hid (wA.heap.size ≤ wA.heap.size) := Nat.le_refl _
    go_region_held3 (fun W => Below wA.heap.size wA W ∧ W.cell? ⟨w.heap.size, 0, none⟩ = some (.slice (some ⟨pb, po, none⟩) SA k1) ∧ W.cell? ⟨w.heap.size, 1, none⟩ = some (.slice a2 CA k2))
      (first | with_reducible exact KS.out _ HD0.out | with_reducible exact KS.out _ HD1.out | with_reducible exact KS.out _ HD2.out | with_reducible exact KS.out _ (by with_reducible assumption) | with_reducible exact KS.out _ (HAL.out _ _ (by with_reducible assumption)) | with_reducible exact KS.out _ (HSET.out _ _ _ _ (by with_reducible assumption) (by with_reducible assumption)) | with_reducible exact KS.out _ (HSET.out _ _ _ _ (by with_reducible assumption) HLE.out))
      (first
        | (go_at_call 22; first
            | ((with_reducible refine (CQ.out _ HD0.out).mono ?_); rintro e w4 ⟨⟨y1, n1, y2, n2, rfl, kc, hy⟩, g4, hb4⟩; have s4 := g4.size; clear hb4)
            | ((with_reducible refine (CQ.out _ HD1.out).mono ?_); rintro e w4 ⟨⟨y1, n1, y2, n2, rfl, kc, hy⟩, g4, hb4⟩; have t4 := (Zb.new wA).drew.next hb4; clear hb4)
            | ((with_reducible refine (CQ.out _ HD2.out).mono ?_); rintro e w4 ⟨⟨y1, n1, y2, n2, rfl, kc, hy⟩, g4, hb4⟩; have t4 := (Zb.new wA.drew).next hb4; clear hb4))
        | (go_at_call 19; first
            | ((with_reducible refine (CD.out w4 g4 y1 n1 y2 n2 kc hy).mono ?_); rintro e w5 ⟨⟨z1, l1, z2, l2, rfl, hc, hz⟩, g5, hb5⟩; first | (obtain ⟨k0, k1, k2, k3, -⟩ := t4.next hb5) | skip)
            | ((with_reducible refine (CD.out (w4.alloc (.cells #[.slice none 0 0, .slice none 0 0] 25)) (g4.alloc g4.size _) y1 n1 y2 n2 kc (hy.next (one_alloc _ _))).mono ?_); rintro e w5 ⟨⟨z1, l1, z2, l2, rfl, hc, hz⟩, g5, hb5⟩; obtain ⟨k0, k1, k2, k3, -⟩ := (Zb.new w4).next hb5)))
    all_goals
      go_wp2
      go_meet
    all_goals
      case rel =>
        first
          | exact ⟨_, _, _, _, _, rfl, rfl, var_new g5 hz hc⟩
          | exact ⟨_, _, _, _, _, rfl, rfl, var_old (Zb.new w4) g4.size g5 hb5 hz hc⟩
          | exact ⟨_, _, _, _, _, rfl, rfl, var_old t4 (Nat.le_refl _) g5 hb5 hz hc⟩
  case rest =>
  obtain ⟨B2, r1, o1, r2, o2, rfl, rfl, g2', Vd⟩ := hcut
  generalize wc = wB at *
  have HGB := hide (HGA.out.trans (g2'.mono HGA.out.size))
  have HVD : Hid (∀ W, Below wB.heap.size wB W → Var (n + 1) W B2 D1 (.slice r1 SA o1) (.slice r2 CD1 o2)) := fun W h => Vd.next h
  have HVZB : Hid (∀ W, Below wB.heap.size wB W → Var (n + 1) W B1 Z (.slice s1 (SA - 1) l1) (.slice s2 CZ l2)) := fun W h => HVZ.out W (g2'.trans (h.mono g2'.size))
  clear CQ CD KS Vd HVA
  have CQ : Hid (∀ W, Below wB.heap.size wB W → _) := fun W h => atom_at n 1 wB W h
  have CD : Hid (∀ W, Below wB.heap.size wB W → ∀ y1 n1 y2 n2, Caps (.agg #[.slice y1 0 n1, .slice y2 1 n2]) → ArIn (n + 1) 0 W (atomA 1) (.agg #[.slice y1 0 n1, .slice y2 1 n2]) → _) := fun W h y1 n1 y2 n2 kc hy => dy_at h (dy_42 hy (HVD.out W h).ar (chk_atom _) HCD.out kc (HVD.out W h).cap) HTK.out HLEN.out.2.2.1 HLEN.out.2.2.2.1
  clear g2' HVZ HGA
  have KS : Hid (∀ W, Below wB.heap.size wB W → (Below wB.heap.size wB W ∧ W.cell? ⟨B2, 0, none⟩ = some (.slice r1 SA o1) ∧ W.cell? ⟨B2, 1, none⟩ = some (.slice r2 CD1 o2))) := fun W h => ⟨h, (HVD.out W h).c0, (HVD.out W h).c1⟩
  go_wp2
  go_cut [16, 17] from 102 to 107 (fun sx sy wx => ∃ B z1 l1 z2 l2, sx = .pointer (some ⟨B, 0, none⟩) ∧ sy = .int .i64 0 ∧ Below wB.heap.size wB wx ∧ Var (n + 1) wx B T1 (.slice z1 SA l1) (.slice z2 CZ l2))
  case first =>
    have HD0 : Hid (Below wB.heap.size wB wB.drew) := (Below.refl _ _).drew
    have HD1 : Hid (Below wB.heap.size wB (wB.alloc (.cells #[.slice none 0 0, .slice none 0 0] 25)).drew) := (one_alloc _ _).drew
    have HD2 : Hid (Below wB.heap.size wB (wB.drew.alloc (.cells #[.slice none 0 0, .slice none 0 0] 25))) := (Below.refl _ _).drew.alloc (Nat.le_refl _) _
    have HAL : Hid (∀ W o, Below wB.heap.size wB W → Below wB.heap.size wB (W.alloc o)) := fun W o h => h.alloc h.size o
    have HSET : Hid (∀ W b u v, Below wB.heap.size wB W → wB.heap.size ≤ b → Below wB.heap.size wB ((W.setCell ⟨b, 0, none⟩ u).setCell ⟨b, 1, none⟩ v)) := fun W b u v h hb => (h.setCell (p := ⟨b, 0, none⟩) hb u).setCell (p := ⟨b, 1, none⟩) hb v
    have HLE : Hid (wB.heap.size ≤ wB.heap.size) := Nat.le_refl _
    go_region_held3 (fun W => Below wB.heap.size wB W ∧ W.cell? ⟨B2, 0, none⟩ = some (.slice r1 SA o1) ∧ W.cell? ⟨B2, 1, none⟩ = some (.slice r2 CD1 o2))
      (first | with_reducible exact KS.out _ HD0.out | with_reducible exact KS.out _ HD1.out | with_reducible exact KS.out _ HD2.out | with_reducible exact KS.out _ (by with_reducible assumption) | with_reducible exact KS.out _ (HAL.out _ _ (by with_reducible assumption)) | with_reducible exact KS.out _ (HSET.out _ _ _ _ (by with_reducible assumption) (by with_reducible assumption)) | with_reducible exact KS.out _ (HSET.out _ _ _ _ (by with_reducible assumption) HLE.out))
      (first
        | (go_at_call 22; first
            | ((with_reducible refine (CQ.out _ HD0.out).mono ?_); rintro e w4 ⟨⟨y1, n1, y2, n2, rfl, kc, hy⟩, g4, hb4⟩; have s4 := g4.size; clear hb4)
            | ((with_reducible refine (CQ.out _ HD1.out).mono ?_); rintro e w4 ⟨⟨y1, n1, y2, n2, rfl, kc, hy⟩, g4, hb4⟩; have t4 := (Zb.new wB).drew.next hb4; clear hb4)
            | ((with_reducible refine (CQ.out _ HD2.out).mono ?_); rintro e w4 ⟨⟨y1, n1, y2, n2, rfl, kc, hy⟩, g4, hb4⟩; have t4 := (Zb.new wB.drew).next hb4; clear hb4))
        | (go_at_call 19; first
            | ((with_reducible refine (CD.out w4 g4 y1 n1 y2 n2 kc hy).mono ?_); rintro e w5 ⟨⟨z1, l1, z2, l2, rfl, hc, hz⟩, g5, hb5⟩; first | (obtain ⟨k0, k1, k2, k3, -⟩ := t4.next hb5) | skip)
            | ((with_reducible refine (CD.out (w4.alloc (.cells #[.slice none 0 0, .slice none 0 0] 25)) (g4.alloc g4.size _) y1 n1 y2 n2 kc (hy.next (one_alloc _ _))).mono ?_); rintro e w5 ⟨⟨z1, l1, z2, l2, rfl, hc, hz⟩, g5, hb5⟩; obtain ⟨k0, k1, k2, k3, -⟩ := (Zb.new w4).next hb5)))
    all_goals
      go_wp2
      go_meet
    all_goals
      case rel =>
        first
          | exact ⟨_, _, _, _, _, rfl, rfl, var_new g5 hz hc⟩
          | exact ⟨_, _, _, _, _, rfl, rfl, var_old (Zb.new w4) g4.size g5 hb5 hz hc⟩
          | exact ⟨_, _, _, _, _, rfl, rfl, var_old t4 (Nat.le_refl _) g5 hb5 hz hc⟩
  case rest =>
  obtain ⟨B3, v1, p1, v2, p2, rfl, rfl, g3', Vt⟩ := hcut
  generalize wc = wC at *
  have HGC := hide (HGB.out.trans (g3'.mono HGB.out.size))
  have HVT : Hid (∀ W, Below wC.heap.size wC W → Var (n + 1) W B3 T1 (.slice v1 SA p1) (.slice v2 CZ p2)) := fun W h => Vt.next h
  have HVZC : Hid (∀ W, Below wC.heap.size wC W → Var (n + 1) W B1 Z (.slice s1 (SA - 1) l1) (.slice s2 CZ l2)) := fun W h => HVZB.out W (g3'.trans (h.mono g3'.size))
  have hc1 : SA ≤ p1 := (caps_form Vt.cap).1
  have hp1 : ∀ W, (Instr.sliceAt 22 (.slice v1 SA p1) (some (.int .i64 1)) none none).run Try.prog W = .ok (.slice (subA v1 1 p1 1) (SA - 1) (p1 - 1)) W := fun W => part_l (P := Try.prog) Try.underlying22 size3 v1 SA p1 1 1 rfl (by omega) W
  obtain ⟨bt, hbt⟩ : ∃ bt, subA v1 1 p1 1 = bt := ⟨_, rfl⟩
  simp only [hbt] at hp1
  have CR : Hid (∀ W, Below wC.heap.size wC W → Calls Try.prog 15 #[.agg #[.slice bt (SA - 1) (p1 - 1), .slice v2 CZ p2], .agg #[.slice s1 (SA - 1) l1, .slice s2 CZ l2]] W fun e w' => e = .returned (.bool true) ∧ Below wC.heap.size wC w') := by
    intro W h
    have VT := HVT.out W h
    obtain ⟨e1, e2, e3, e4, he, RT, hcT⟩ := VT.ar.form
    rw [HLEN.out.2.2.1, HLEN.out.2.2.2.1] at he
    simp only [Value.agg.injEq, Array.mk.injEq, List.cons.injEq, Value.slice.injEq, and_true, true_and] at he
    obtain ⟨⟨rfl, rfl⟩, rfl, rfl⟩ := he
    have RP : Row 0 W bt T1.shape.tail := by
      have ht : ((T1.shape.drop 1).take (SA - 1)) = T1.shape.tail := by rw [List.take_of_length_le (by rw [List.length_drop, HLEN.out.2.2.1]; omega), List.drop_one]
      have := RT.part 1 p1 (SA - 1) (by rw [HLEN.out.2.2.1]; omega) (by rw [HLEN.out.2.2.1]; exact hc1)
      rw [ht, hbt] at this
      exact this
    have hA : ArIn (n + 1) 0 W Z (.agg #[.slice bt (SA - 1) (p1 - 1), .slice v2 CZ p2]) := by
      rw [HZT.out]
      refine arIn_mk (x := .mk T1.shape.tail T1.cells) RP ?_ hcT (by show T1.shape.tail.length = _; rw [List.length_tail, HLEN.out.2.2.1]) HLEN.out.2.2.2.1
      obtain ⟨_, _, _, _, -, -, h', -⟩ := VT.ar
      exact h'
    have := rsame_any hA (HVZC.out W h).ar
    rw [cmpA_self] at this
    refine this.mono ?_
    rintro e w' ⟨rfl, hb⟩
    exact ⟨rfl, h.trans (hb.mono h.size)⟩
  have CW : Hid (∀ W, Below wC.heap.size wC W → Calls Try.prog 18 #[] W fun e w' => e = .returned (.bool true) ∧ Below wC.heap.size wC w') := fun W h => (pworks_any W).mono fun e w' he => ⟨he.1, h.trans (he.2.mono h.size)⟩
  have KS : Hid (∀ W, Below wC.heap.size wC W → (Below wC.heap.size wC W ∧ W.cell? ⟨B3, 0, none⟩ = some (.slice v1 SA p1) ∧ W.cell? ⟨B3, 1, none⟩ = some (.slice v2 CZ p2) ∧ W.cell? ⟨B1, 0, none⟩ = some (.slice s1 (SA - 1) l1) ∧ W.cell? ⟨B1, 1, none⟩ = some (.slice s2 CZ l2))) := fun W h => ⟨h, (HVT.out W h).c0, (HVT.out W h).c1, (HVZC.out W h).c0, (HVZC.out W h).c1⟩
  have HD0 : Hid (Below wC.heap.size wC wC.drew) := (Below.refl _ _).drew
  clear CQ CD g3' Vt HVD HVZB hbt hc1
  go_wp2
  go_region_held3 (fun W => Below wC.heap.size wC W ∧ W.cell? ⟨B3, 0, none⟩ = some (.slice v1 SA p1) ∧ W.cell? ⟨B3, 1, none⟩ = some (.slice v2 CZ p2) ∧ W.cell? ⟨B1, 0, none⟩ = some (.slice s1 (SA - 1) l1) ∧ W.cell? ⟨B1, 1, none⟩ = some (.slice s2 CZ l2))
    (first | with_reducible exact KS.out _ HD0.out | with_reducible exact KS.out _ (by with_reducible assumption))
    (first
      | (go_at_call 15; (with_reducible refine (CR.out _ HD0.out).mono ?_); rintro e wy ⟨rfl, gy⟩)
      | (go_at_call 18; (with_reducible refine (CW.out _ gy).mono ?_); rintro e wz ⟨rfl, gz⟩))
  go_wp2
  go_ret
  exact ⟨rfl, HW.out _ _ HGC.out gz⟩
set_option maxRecDepth 100000 in
theorem lifted (os : Os) (started : os.Started) (H : Type) (enc : TypeId × Value → H) :
    ReturnsInHanded {} Try.checked os 8 .any (Rows.pickAtSpec.pre6 enc Try.prog Try.f8 Rows.pickAtRow.domain false) (Rows.pickAtSpec.post enc Try.prog Try.f8 false true false false) := by
  refine returnsInHanded_of_change_sized (C := Try.checked) own started (by kernel_rfl) Try.func8
    (ChangeSpec.witness6 (enc := enc) (C := Try.checked) false ⟨#[], #[.agg #[.slice none 0 0, .slice none 0 0], .agg #[.slice none 0 0, .slice none 0 0], .int .i64 0], []⟩ 8 (by kernel_rfl) (by kernel_rfl) (by kernel_rfl) (by kernel_rfl)) ?_
  intro W base args ds gs before hval0 hW _ hsz0 _
  have hsz : (DataW.weightsEach Try.prog (Try.f8.params.toList ++ Rows.pickAtSpec.plain.varTypes Try.prog) (ds ++ gs)).all (· ≤ reachBytes) = true := hsz0
  clear hsz0
  have hval : ∀ (j : Nat) t v, Try.f8.params[j]? = some t → args[j]? = some v → Value.okWide Try.prog W .any base t v := hval0
  have hW' := hW
  obtain ⟨p, q, hA0, hV, rfl, hfz, hnd⟩ := hW
  have hA : DataW.TrodAll enc Try.prog W 0 (fun _ => true) true Try.f8.params.toList args.toList ds p := hA0
  rw [Try.params8] at hA hval hsz
  obtain ⟨v0, vs0, d0, ds0, p0, q0, hargs, rfl, rfl, h0, r0⟩ := trodAll_cons hA
  obtain ⟨v1, vs1, d1, ds1, p1, q1, rfl, rfl, rfl, h1, r1⟩ := trodAll_cons r0
  obtain ⟨v2, vs2, d2, ds2, p2, q2, rfl, rfl, rfl, h2, r2⟩ := trodAll_cons r1
  obtain ⟨rfl, rfl, rfl⟩ := trodAll_nil r2
  obtain rfl : args = #[v0, v1, v2] := by cases args; simp_all
  obtain ⟨rfl, rfl⟩ := trodVars_none hV
  have k0 := h0
  have lt0 : ∀ x ∈ p0, x.block < W.heap.size := by obtain ⟨m, hm⟩ := k0; exact DataW.trod_lt m _ _ _ hm
  obtain ⟨n0, y0, c00, c01, hc0, w0⟩ := arr_of hsz (j := 0) rfl rfl h0
  obtain rfl := agg_two hc0
  have k1 := h1
  have lt1 : ∀ x ∈ p1, x.block < W.heap.size := by obtain ⟨m, hm⟩ := k1; exact DataW.trod_lt m _ _ _ hm
  obtain ⟨n1, y1, c10, c11, hc1, w1⟩ := arr_of hsz (j := 1) rfl rfl h1
  obtain rfl := agg_two hc1
  obtain ⟨x2, rfl, rfl, rfl, w2⟩ := open_int Try.underlying3 (hval 2 3 v2 rfl rfl) h2
  clear hA0 hval0
  refine (walk n0 y0 c00 c01 n1 y1 c10 c11 x2 W w0.1 (arr_caps h0) w1.1 (arr_caps h1)).mono fun e W' ⟨he, bel⟩ => ?_
  subst he
  exact ⟨_, rfl, _, _, _, [], _, [], hW', trodAll_mk1 (shut_bool Try.underlying4 _), (trodAll_cons_mk (Below.trod laidOut (by kernel_rfl) (of_decide_eq_true (by kernel_rfl)) k0 bel lt0) (trodAll_cons_mk (Below.trod laidOut (by kernel_rfl) (of_decide_eq_true (by kernel_rfl)) k1 bel lt1) (trodAll_cons_mk (shut_int Try.underlying3 w2) trodAll_mk0))), rfl, bel.frame _, fun h => by cases h⟩
theorem over : Rows.pickAtRow.holds Try.pinned (OpenSpec.ofChange Rows.pickAtSpec) :=
  OpenClaim.holds_of_wide 8 Try.f8 rfl rfl rfl rfl rfl rfl rfl ⟨rfl, rfl, rfl, rfl, rfl⟩ rfl rfl rfl rfl rfl (by kernel_rfl) Try.func8 (by kernel_rfl)
    (of_decide_eq_true (by kernel_rfl)) (by unfold Func.isWrapper; first | (rw [if_pos (by decide +kernel)]; kernel_rfl) | (rw [if_neg (by decide +kernel)]; exact ⟨rfl, rfl⟩))
    (fun os started H enc _ => lifted os started H enc)
theorem proved : Rows.PickAtSaid := over
end Go.Proofs.Ytmjncdhahdpplaa.pickAt
namespace Go.Proofs.Ytmjncdhahdpplaa
theorem pickAt_holds : Rows.PickAtSaid := pickAt.proved
#print axioms pickAt_holds
end Go.Proofs.Ytmjncdhahdpplaa
