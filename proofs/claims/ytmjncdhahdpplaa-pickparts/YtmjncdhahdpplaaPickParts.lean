/-
  For all arrays and numbers the statement PickParts holds: what is taken of an array, and what is left without it, joined, are the array, if no more are taken than there are; no condition (the given row speaks of what a machine of 64 bits can hold).
-/
import Derived.Test.YtmjncdhahdpplaaM9
import Derived.Test.YtmjncdhahdpplaaM8
namespace Go.Proofs.Ytmjncdhahdpplaa.pickParts
open Go.ChangeShapes Go.WideShapes Go.ChangeAt Go.RowKit
set_option linter.unusedVariables false
set_option maxRecDepth 100000
set_option maxHeartbeats 16000000 in
theorem walk (kk : Int) (n : Nat) (x : Ar) (c0 c1 : Value) (w : World) (hx : ArIn n 0 w x (.agg #[c0, c1])) (hcap : Caps (.agg #[c0, c1])) :
    Calls Try.prog 6 #[.int .i64 kk, .agg #[c0, c1]] w fun e w' => e = .returned (.bool true) ∧ Below w.heap.size w w' := by
  cases n with
  | zero => exact hx.elim
  | succ n =>
  obtain ⟨a1, k1, a2, k2, hv, -⟩ := hx.form
  simp only [Value.agg.injEq, Array.mk.injEq, List.cons.injEq, and_true] at hv
  obtain ⟨rfl, rfl⟩ := hv
  obtain ⟨SA, hSA⟩ : ∃ SA, x.shape.length = SA := ⟨_, rfl⟩
  obtain ⟨CA, hCA⟩ : ∃ CA, x.cells.length = CA := ⟨_, rfl⟩
  simp only [hSA, hCA] at hx hcap ⊢
  obtain ⟨W1, e1⟩ : ∃ W1, w.alloc (.cells #[.slice a1 SA k1, .slice a2 CA k2] 25) = W1 := ⟨_, rfl⟩
  obtain ⟨b0, V1⟩ := var_new (W3 := w) (Below.refl _ _) hx hcap
  rw [e1] at b0 V1
  have q0 := V1.c0
  have q1 := V1.c1
  have HV : Hid (∀ W, Below W1.heap.size W1 W → Var (n + 1) W w.heap.size x (.slice a1 SA k1) (.slice a2 CA k2)) := fun W h => V1.next h
  have HW : Hid (∀ W w', Below W1.heap.size W1 W → Below W.heap.size W w' → Below w.heap.size w w') := fun W w' h1 h2 => b0.trans ((h1.trans (h2.mono h1.size)).mono b0.size)
  have C0 := plight_any V1.ar
  have HSC := hide (And.intro hSA hCA)
  have HX0 := hide hx
  have HB0 := hide b0
  have HCAP := hide hcap
  have HFZ : Hid (∀ W, Below W1.heap.size W1 W → ∀ i, W.frozen? ⟨w.heap.size, i, none⟩ = false) := fun W h i => (h.frozen (p := ⟨w.heap.size, i, none⟩) V1.lt).trans (by rw [← e1]; exact frozen_new w _ 25 i)
  have HLT := hide V1.lt
  clear hx hcap hSA hCA b0 V1
  go_enter Try.func6, Try.ntmps6
  go_wp2_with fail
  clear e1 q0 q1
  refine C0.mono ?_
  rintro e w1 ⟨⟨r, rfl⟩, hb1⟩
  have HG1 := hide hb1
  have t0 := (HV.out w1 hb1).c0
  have t1 := (HV.out w1 hb1).c1
  clear C0 hb1
  cases r with
  | false =>
    have CW := pworks_any w1
    clear t0 t1
    go_wp2_with fail
    refine CW.mono ?_
    rintro e wz ⟨rfl, hbz⟩
    go_wp2
    go_ret
    exact ⟨rfl, HW.out _ _ HG1.out hbz⟩
  | true =>
  have C1 := rcheck_any (n + 1) x _ _ w1 (HV.out w1 HG1.out).ar
  go_wp2_with fail
  clear t0 t1
  refine C1.mono ?_
  rintro e w2 ⟨rfl, hb2⟩
  have HG2 := hide (HG1.out.trans (hb2.mono HG1.out.size))
  obtain ⟨E, hE⟩ : ∃ E, chkA 8 x = E := ⟨_, rfl⟩
  rw [hE]
  by_cases h0 : E = 0
  case neg =>
    have hne : (E == 0) = false := beq_eq_false_iff_ne.2 h0
    have CW := pworks_any w2
    clear hb2 C1 hE HG1
    go_wp2_with fail
    refine CW.mono ?_
    rintro e w3 ⟨rfl, hb3⟩
    go_wp2
    go_ret
    exact ⟨rfl, HW.out _ _ HG2.out hb3⟩
  subst h0
  have HCH := hide hE
  have t0 := (HV.out w2 HG2.out).c0
  have t1 := (HV.out w2 HG2.out).c1
  clear hb2 C1 hE HG1
  have CL := rlisted_any HX0.out (HB0.out.trans (HG2.out.mono HB0.out.size)) HCAP.out
  go_wp2_with fail
  clear t0 t1
  refine CL.mono ?_
  clear CL
  rintro e w3 ⟨⟨v, rfl, hcv, hv⟩, hb3⟩
  have hbw2 : Below w.heap.size w w2 := HB0.out.trans (HG2.out.mono HB0.out.size)
  have hbw : Below w.heap.size w w3 := hbw2.trans (hb3.mono hbw2.size)
  have g3 := HG2.out.trans (hb3.mono HG2.out.size)
  have hlt2 : w.heap.size < w2.heap.size := Nat.lt_of_lt_of_le HLT.out HG2.out.size
  obtain ⟨A, hA⟩ : ∃ A, lstA x = A := ⟨_, rfl⟩
  have HAF : Hid (chkA 8 A = 0 ∧ 0 < A.shape.length ∧ lstA A = A) := by
    have h := lst_facts HCH.out
    rw [hA] at h
    exact ⟨h.1, h.2.2, lstA_id h.2.2⟩
  rw [hA] at hv
  obtain ⟨s1, j1, s2, j2, rfl, -, -⟩ := (hv w3 hbw (Keeps.refl _ _)).form
  obtain ⟨SL, hSL⟩ : ∃ z, A.shape.length = z := ⟨_, rfl⟩
  obtain ⟨CL, hCL⟩ : ∃ z, A.cells.length = z := ⟨_, rfl⟩
  have HSL := hide (And.intro hSL hCL)
  simp only [hSL, hCL] at hv hcv ⊢
  have t0 := (HV.out w3 g3).c0
  have t1 := (HV.out w3 g3).c1
  have f0 := HFZ.out w3 g3 0
  have f1 := HFZ.out w3 g3 1
  obtain ⟨W4, e4⟩ : ∃ W4, (w3.setCell ⟨w.heap.size, 0, none⟩ (.slice s1 SL j1)).setCell ⟨w.heap.size, 1, none⟩ (.slice s2 CL j2) = W4 := ⟨_, rfl⟩
  have st := set_two t0 t1 (.slice s1 SL j1) (.slice s2 CL j2)
  have B4 : Below w.heap.size w W4 := by rw [← e4]; exact (hbw.setCell (p := ⟨w.heap.size, 0, none⟩) (Nat.le_refl _) _).setCell (p := ⟨w.heap.size, 1, none⟩) (Nat.le_refl _) _
  have V4 : Var (n + 1) W4 w.heap.size A (.slice s1 SL j1) (.slice s2 CL j2) := by
    refine ⟨by rw [← e4]; simp; exact Nat.lt_of_lt_of_le hlt2 hb3.size, ?_, by rw [← e4]; exact st.2, hv W4 B4 ?_, hcv⟩
    · rw [← e4, World.cell?_setCell_other _ _ _ _ (by simp)]; exact st.1
    · rw [← e4]; exact ((Keeps.refl _ _).setCell (p := ⟨w.heap.size, 0, none⟩) hlt2 _).setCell (p := ⟨w.heap.size, 1, none⟩) hlt2 _
  have HBW := hide B4
  have HV4 : Hid (∀ W, Below W4.heap.size W4 W → Var (n + 1) W w.heap.size A (.slice s1 SL j1) (.slice s2 CL j2)) := fun W h => V4.next h
  clear hv hcv hb3 hbw2 hbw g3 st B4 hSL hCL hA V4 HX0 HB0 HCAP HFZ HLT HG2 HV HW HSC HCH hlt2
  have hS1 : 0 < SL := by have := HAF.out.2.1; rw [HSL.out.1] at this; exact this
  have V4 := HV4.out W4 (Below.refl _ _)
  have hDb := (chk_axes HAF.out.1).1 (gI A.shape 0) (getD_mem HAF.out.2.1)
  obtain ⟨D, hD⟩ : ∃ D : Nat, gI A.shape 0 = (D : Int) := ⟨(gI A.shape 0).toNat, by omega⟩
  rw [hD] at hDb
  obtain ⟨d1, d2, d3, d4, hd, RX, -⟩ := V4.ar.form
  simp only [Value.agg.injEq, Array.mk.injEq, List.cons.injEq, Value.slice.injEq, and_true] at hd
  obtain ⟨⟨rfl, -, -⟩, -⟩ := hd
  obtain ⟨pb, po, rfl, hpb, hp0⟩ := row_at RX (j := 0) HAF.out.2.1
  have eg : A.shape[0]?.getD 0 = (D : Int) := hD
  rw [eg, Nat.add_zero] at hp0
  have r0 := V4.c0
  have r1 := V4.c1
  obtain ⟨u, hu⟩ : ∃ u : Nat, IntKind.u64.wrap kk = (u : Int) := ⟨(IntKind.u64.wrap kk).toNat, by rw [IntKind.wrap_u64]; omega⟩
  have hwD : IntKind.u64.wrap ((D : Int) + 1) = (D : Int) + 1 := by rw [IntKind.wrap_u64]; omega
  have htm : (u : Int).tmod ((D : Int) + 1) = ((u % (D + 1) : Nat) : Int) := by rw [Int.tmod_eq_emod_of_nonneg (by omega), show (D : Int) + 1 = ((D + 1 : Nat) : Int) by omega]; rfl
  have hqD : u % (D + 1) < D + 1 := Nat.mod_lt _ (by omega)
  have hne0 : ¬ (D : Int) + 1 = 0 := by omega
  have hD16 : D ≤ 16384 := by omega
  generalize u % (D + 1) = q at *
  have hwq : IntKind.i64.wrap (q : Int) = (q : Int) := by rw [IntKind.wrap_i64]; omega
  have hwq' : IntKind.u64.wrap (q : Int) = (q : Int) := by rw [IntKind.wrap_u64]; omega
  have hq16 : q ≤ 16384 := by omega
  have hqd : q ≤ D := by omega
  obtain ⟨T, hT⟩ : ∃ T, takR (atomA (q : Int)) A = (T, 0) := ⟨_, parts_take HAF.out.1 HAF.out.2.1 hD hqd⟩
  obtain ⟨U, hU⟩ : ∃ U, drpR (atomA (q : Int)) A = (U, 0) := ⟨_, parts_drop HAF.out.1 HAF.out.2.1 hD hqd⟩
  have HTU : Hid (takR (atomA (q : Int)) (lstA A) = (T, 0) ∧ drpR (atomA (q : Int)) (lstA A) = (U, 0) ∧ joiR false T U = (A, 0) ∧ chkA 8 T = 0 ∧ chkA 8 U = 0) := by
    refine ⟨by rw [HAF.out.2.2]; exact hT, by rw [HAF.out.2.2]; exact hU, parts_join HAF.out.1 HAF.out.2.1 hD hqd hT hU, ?_, ?_⟩
    · have := (tak_chk (x := atomA (q : Int)) HAF.out.1 HAF.out.2.1).2; rw [hT] at this; exact this rfl
    · have := (drp_chk (x := atomA (q : Int)) HAF.out.1 HAF.out.2.1).2; rw [hU] at this; exact this rfl
  obtain ⟨ST, hST⟩ : ∃ z, T.shape.length = z := ⟨_, rfl⟩
  obtain ⟨CT, hCT⟩ : ∃ z, T.cells.length = z := ⟨_, rfl⟩
  obtain ⟨SU, hSU⟩ : ∃ z, U.shape.length = z := ⟨_, rfl⟩
  obtain ⟨CU, hCU⟩ : ∃ z, U.cells.length = z := ⟨_, rfl⟩
  have HLEN := hide (And.intro hST (And.intro hCT (And.intro hSU hCU)))
  have CQ : Hid (∀ W, Below W4.heap.size W4 W → _) := fun W h => atom_at n (q : Int) W4 W h
  have CD : Hid (∀ W, Below W4.heap.size W4 W → ∀ y1 n1 y2 n2, Caps (.agg #[.slice y1 0 n1, .slice y2 1 n2]) → ArIn (n + 1) 0 W (atomA (q : Int)) (.agg #[.slice y1 0 n1, .slice y2 1 n2]) → _) := fun W h y1 n1 y2 n2 kc hy => dy_at h (dy_42 hy (HV4.out W h).ar (chk_atom _) HAF.out.1 kc (HV4.out W h).cap) HTU.out.1 HLEN.out.1 HLEN.out.2.1
  clear hT hU hST hCT hSU hCU V4 RX hpb eg hD hDb
  have KS : Hid (∀ W, Below W4.heap.size W4 W → (Below W4.heap.size W4 W ∧ W.cell? ⟨w.heap.size, 0, none⟩ = some (.slice (some ⟨pb, po, none⟩) SL j1) ∧ W.cell? ⟨w.heap.size, 1, none⟩ = some (.slice s2 CL j2))) := fun W h => ⟨h, (HV4.out W h).c0, (HV4.out W h).c1⟩
  go_upto_region 5 with fail
  clear e4 t0 t1 f0 f1 hp0 r0 r1
  go_cut [6, 7] from 33 to 39 (fun sx sy wx => ∃ B z1 l1 z2 l2, sx = .pointer (some ⟨B, 0, none⟩) ∧ sy = .int .i64 0 ∧ Below W4.heap.size W4 wx ∧ Var (n + 1) wx B T (.slice z1 ST l1) (.slice z2 CT l2))
  case first =>
    have HD0 : Hid (Below W4.heap.size W4 W4.drew) := (Below.refl _ _).drew
    have HD1 : Hid (Below W4.heap.size W4 (W4.alloc (.cells #[.slice none 0 0, .slice none 0 0] 25)).drew) := (one_alloc _ _).drew
    have HD2 : Hid (Below W4.heap.size W4 (W4.drew.alloc (.cells #[.slice none 0 0, .slice none 0 0] 25))) := (Below.refl _ _).drew.alloc (Nat.le_refl _) _
    have HAL : Hid (∀ W o, Below W4.heap.size W4 W → Below W4.heap.size W4 (W.alloc o)) := fun W o h => h.alloc h.size o
    have HSET : Hid (∀ W b u v, Below W4.heap.size W4 W → W4.heap.size ≤ b → Below W4.heap.size W4 ((W.setCell ⟨b, 0, none⟩ u).setCell ⟨b, 1, none⟩ v)) := fun W b u v h hb => (h.setCell (p := ⟨b, 0, none⟩) hb u).setCell (p := ⟨b, 1, none⟩) hb v
    have HLE : Hid (W4.heap.size ≤ W4.heap.size) := Nat.le_refl _
    go_region_held3 (fun W => Below W4.heap.size W4 W ∧ W.cell? ⟨w.heap.size, 0, none⟩ = some (.slice (some ⟨pb, po, none⟩) SL j1) ∧ W.cell? ⟨w.heap.size, 1, none⟩ = some (.slice s2 CL j2))
      (first | with_reducible exact KS.out _ HD0.out | with_reducible exact KS.out _ HD1.out | with_reducible exact KS.out _ HD2.out | with_reducible exact KS.out _ (by with_reducible assumption) | with_reducible exact KS.out _ (HAL.out _ _ (by with_reducible assumption)) | with_reducible exact KS.out _ (HSET.out _ _ _ _ (by with_reducible assumption) (by with_reducible assumption)) | with_reducible exact KS.out _ (HSET.out _ _ _ _ (by with_reducible assumption) HLE.out))
      (first
        | (go_at_call 22; first
            | ((with_reducible refine (CQ.out _ HD0.out).mono ?_); rintro e w4 ⟨⟨y1, n1, y2, n2, rfl, kc, hy⟩, g4, hb4⟩; have s4 := g4.size; clear hb4)
            | ((with_reducible refine (CQ.out _ HD1.out).mono ?_); rintro e w4 ⟨⟨y1, n1, y2, n2, rfl, kc, hy⟩, g4, hb4⟩; have t4 := (Zb.new W4).drew.next hb4; clear hb4)
            | ((with_reducible refine (CQ.out _ HD2.out).mono ?_); rintro e w4 ⟨⟨y1, n1, y2, n2, rfl, kc, hy⟩, g4, hb4⟩; have t4 := (Zb.new W4.drew).next hb4; clear hb4))
        | (go_at_call 19; first
            | ((with_reducible refine (CD.out w4 g4 y1 n1 y2 n2 kc hy).mono ?_); rintro e w5 ⟨⟨z1, l1, z2, l2, rfl, hc, hz⟩, g5, hb5⟩; first | (obtain ⟨k0, k1, k2, k3, -⟩ := t4.next hb5) | skip)
            | ((with_reducible refine (CD.out (w4.alloc (.cells #[.slice none 0 0, .slice none 0 0] 25)) (g4.alloc g4.size _) y1 n1 y2 n2 kc (hy.next (one_alloc _ _))).mono ?_); rintro e w5 ⟨⟨z1, l1, z2, l2, rfl, hc, hz⟩, g5, hb5⟩; obtain ⟨k0, k1, k2, k3, -⟩ := (Zb.new w4).next hb5)))
    all_goals
      go_wp2
      go_meet
    all_goals
      case rel =>
        first
          | exact ⟨_, _, _, _, _, rfl, rfl, var_new g5 hz hc⟩
          | exact ⟨_, _, _, _, _, rfl, rfl, var_old (Zb.new w4) g4.size g5 hb5 hz hc⟩
          | exact ⟨_, _, _, _, _, rfl, rfl, var_old t4 (Nat.le_refl _) g5 hb5 hz hc⟩
  case rest =>
  obtain ⟨B1, f1, i1, f2, i2, rfl, rfl, g1, Vx⟩ := hcut
  generalize wc = wA at *
  have HGA := hide g1
  have HVX : Hid (∀ W, Below wA.heap.size wA W → Var (n + 1) W B1 T (.slice f1 ST i1) (.slice f2 CT i2)) := fun W h => Vx.next h
  have HVA : Hid (∀ W, Below wA.heap.size wA W → Var (n + 1) W w.heap.size A (.slice (some ⟨pb, po, none⟩) SL j1) (.slice s2 CL j2)) := fun W h => HV4.out W (HGA.out.trans (h.mono HGA.out.size))
  clear CQ CD KS g1 Vx
  have CQ : Hid (∀ W, Below wA.heap.size wA W → _) := fun W h => atom_at n (q : Int) wA W h
  have CD : Hid (∀ W, Below wA.heap.size wA W → ∀ y1 n1 y2 n2, Caps (.agg #[.slice y1 0 n1, .slice y2 1 n2]) → ArIn (n + 1) 0 W (atomA (q : Int)) (.agg #[.slice y1 0 n1, .slice y2 1 n2]) → _) := fun W h y1 n1 y2 n2 kc hy => dy_at h (dy_43 hy (HVA.out W h).ar (chk_atom _) HAF.out.1 kc (HVA.out W h).cap (by rw [numR_atom]; exact ⟨by show (-9223372036854775808 : Int) ≤ (q : Int); omega, by show (q : Int) ≤ 9223372036854775807; omega⟩)) HTU.out.2.1 HLEN.out.2.2.1 HLEN.out.2.2.2
  have KS : Hid (∀ W, Below wA.heap.size wA W → (Below wA.heap.size wA W ∧ W.cell? ⟨w.heap.size, 0, none⟩ = some (.slice (some ⟨pb, po, none⟩) SL j1) ∧ W.cell? ⟨w.heap.size, 1, none⟩ = some (.slice s2 CL j2))) := fun W h => ⟨h, (HVA.out W h).c0, (HVA.out W h).c1⟩
  go_wp2
  go_cut [8, 9] from 40 to 46 (fun sx sy wx => ∃ B z1 l1 z2 l2, sx = .pointer (some ⟨B, 0, none⟩) ∧ sy = .int .i64 0 ∧ Below wA.heap.size wA wx ∧ Var (n + 1) wx B U (.slice z1 SU l1) (.slice z2 CU l2))
  case first =>
    have HD0 : Hid (Below wA.heap.size wA wA.drew) := (Below.refl _ _).drew
    have HD1 : Hid (Below wA.heap.size wA (wA.alloc (.cells #[.slice none 0 0, .slice none 0 0] 25)).drew) := (one_alloc _ _).drew
    have HD2 : Hid (Below wA.heap.size wA (wA.drew.alloc (.cells #[.slice none 0 0, .slice none 0 0] 25))) := (Below.refl _ _).drew.alloc (Nat.le_refl _) _
    have HAL : Hid (∀ W o, Below wA.heap.size wA W → Below wA.heap.size wA (W.alloc o)) := fun W o h => h.alloc h.size o
    have HSET : Hid (∀ W b u v, Below wA.heap.size wA W → wA.heap.size ≤ b → Below wA.heap.size wA ((W.setCell ⟨b, 0, none⟩ u).setCell ⟨b, 1, none⟩ v)) := fun W b u v h hb => (h.setCell (p := ⟨b, 0, none⟩) hb u).setCell (p := ⟨b, 1, none⟩) hb v
    have HLE : Hid (wA.heap.size ≤ wA.heap.size) := Nat.le_refl _
    go_region_held3 (fun W => Below wA.heap.size wA W ∧ W.cell? ⟨w.heap.size, 0, none⟩ = some (.slice (some ⟨pb, po, none⟩) SL j1) ∧ W.cell? ⟨w.heap.size, 1, none⟩ = some (.slice s2 CL j2))
      (first | with_reducible exact KS.out _ HD0.out | with_reducible exact KS.out _ HD1.out | with_reducible exact KS.out _ HD2.out | with_reducible exact KS.out _ (by with_reducible assumption) | with_reducible exact KS.out _ (HAL.out _ _ (by with_reducible assumption)) | with_reducible exact KS.out _ (HSET.out _ _ _ _ (by with_reducible assumption) (by with_reducible assumption)) | with_reducible exact KS.out _ (HSET.out _ _ _ _ (by with_reducible assumption) HLE.out))
      (first
        | (go_at_call 22; first
            | ((with_reducible refine (CQ.out _ HD0.out).mono ?_); rintro e w4 ⟨⟨y1, n1, y2, n2, rfl, kc, hy⟩, g4, hb4⟩; have s4 := g4.size; clear hb4)
            | ((with_reducible refine (CQ.out _ HD1.out).mono ?_); rintro e w4 ⟨⟨y1, n1, y2, n2, rfl, kc, hy⟩, g4, hb4⟩; have t4 := (Zb.new wA).drew.next hb4; clear hb4)
            | ((with_reducible refine (CQ.out _ HD2.out).mono ?_); rintro e w4 ⟨⟨y1, n1, y2, n2, rfl, kc, hy⟩, g4, hb4⟩; have t4 := (Zb.new wA.drew).next hb4; clear hb4))
        | (go_at_call 19; first
            | ((with_reducible refine (CD.out w4 g4 y1 n1 y2 n2 kc hy).mono ?_); rintro e w5 ⟨⟨z1, l1, z2, l2, rfl, hc, hz⟩, g5, hb5⟩; first | (obtain ⟨k0, k1, k2, k3, -⟩ := t4.next hb5) | skip)
            | ((with_reducible refine (CD.out (w4.alloc (.cells #[.slice none 0 0, .slice none 0 0] 25)) (g4.alloc g4.size _) y1 n1 y2 n2 kc (hy.next (one_alloc _ _))).mono ?_); rintro e w5 ⟨⟨z1, l1, z2, l2, rfl, hc, hz⟩, g5, hb5⟩; obtain ⟨k0, k1, k2, k3, -⟩ := (Zb.new w4).next hb5)))
    all_goals
      go_wp2
      go_meet
    all_goals
      case rel =>
        first
          | exact ⟨_, _, _, _, _, rfl, rfl, var_new g5 hz hc⟩
          | exact ⟨_, _, _, _, _, rfl, rfl, var_old (Zb.new w4) g4.size g5 hb5 hz hc⟩
          | exact ⟨_, _, _, _, _, rfl, rfl, var_old t4 (Nat.le_refl _) g5 hb5 hz hc⟩
  case rest =>
  obtain ⟨B2, g1, h1, g2, h2, rfl, rfl, g1', Vy⟩ := hcut
  generalize wc = wB at *
  have HGB := hide (HGA.out.trans (g1'.mono HGA.out.size))
  have Vx := HVX.out wB g1'
  have u0 := Vx.c0
  have u1 := Vx.c1
  have u2 := Vy.c0
  have u3 := Vy.c1
  have CJ := dy_at (W3 := wB) (Below.refl _ _) (dy_46 Vx.ar Vy.ar HTU.out.2.2.2.1 HTU.out.2.2.2.2 Vx.cap Vy.cap) HTU.out.2.2.1 HSL.out.1 HSL.out.2
  clear CQ CD KS g1' Vy Vx HVX HVA
  go_wp2_with fail
  clear u0 u1 u2 u3
  refine CJ.mono ?_
  clear CJ
  rintro e wC ⟨⟨z1, l1, z2, l2, rfl, hcz, hz⟩, gC, -⟩
  obtain ⟨BD, VD⟩ := var_new (W3 := wB) gC hz hcz
  obtain ⟨WD, eD⟩ : ∃ WD, wC.alloc (.cells #[.slice z1 SL l1, .slice z2 CL l2] 25) = WD := ⟨_, rfl⟩
  rw [eD] at BD VD
  have HGD := hide (HGB.out.trans (BD.mono HGB.out.size))
  have VA := HV4.out WD HGD.out
  have u0 := VA.c0
  have u1 := VA.c1
  have u2 := VD.c0
  have u3 := VD.c1
  have CS := rsame_any VA.ar VD.ar
  rw [cmpA_self] at CS
  clear hz hcz gC BD VD VA
  go_wp2_with fail
  clear eD u0 u1 u2 u3
  refine CS.mono ?_
  rintro e wE ⟨rfl, hbE⟩
  simp only [decide_true]
  have HFIN : Hid (∀ wz, Below wE.heap.size wE wz → Below w.heap.size w wz) := fun wz h => HBW.out.trans ((HGD.out.trans ((hbE.trans (h.mono hbE.size)).mono HGD.out.size)).mono HBW.out.size)
  have CW := pworks_any wE
  clear CS hbE
  go_wp2_with fail
  refine CW.mono ?_
  rintro e wz ⟨rfl, hbz⟩
  go_wp2
  go_ret
  exact ⟨rfl, HFIN.out _ hbz⟩
set_option maxRecDepth 100000 in
theorem lifted (os : Os) (started : os.Started) (H : Type) (enc : TypeId × Value → H) :
    ReturnsInHanded {} Try.checked os 6 .any (Rows.pickPartsSpec.pre6 enc Try.prog Try.f6 Rows.pickPartsRow.domain false) (Rows.pickPartsSpec.post enc Try.prog Try.f6 false true false false) := by
  refine returnsInHanded_of_change_sized (C := Try.checked) own started (by kernel_rfl) Try.func6
    (ChangeSpec.witness6 (enc := enc) (C := Try.checked) false ⟨#[], #[.int .i64 0, .agg #[.slice none 0 0, .slice none 0 0]], []⟩ 8 (by kernel_rfl) (by kernel_rfl) (by kernel_rfl) (by kernel_rfl)) ?_
  intro W base args ds gs before hval0 hW _ hsz0 _
  have hsz : (DataW.weightsEach Try.prog (Try.f6.params.toList ++ Rows.pickPartsSpec.plain.varTypes Try.prog) (ds ++ gs)).all (· ≤ reachBytes) = true := hsz0
  clear hsz0
  have hval : ∀ (j : Nat) t v, Try.f6.params[j]? = some t → args[j]? = some v → Value.okWide Try.prog W .any base t v := hval0
  have hW' := hW
  obtain ⟨p, q, hA0, hV, rfl, hfz, hnd⟩ := hW
  have hA : DataW.TrodAll enc Try.prog W 0 (fun _ => true) true Try.f6.params.toList args.toList ds p := hA0
  rw [Try.params6] at hA hval hsz
  obtain ⟨v0, vs0, d0, ds0, p0, q0, hargs, rfl, rfl, h0, r0⟩ := trodAll_cons hA
  obtain ⟨v1, vs1, d1, ds1, p1, q1, rfl, rfl, rfl, h1, r1⟩ := trodAll_cons r0
  obtain ⟨rfl, rfl, rfl⟩ := trodAll_nil r1
  obtain rfl : args = #[v0, v1] := by cases args; simp_all
  obtain ⟨rfl, rfl⟩ := trodVars_none hV
  obtain ⟨x0, rfl, rfl, rfl, w0⟩ := open_int Try.underlying3 (hval 0 3 v0 rfl rfl) h0
  have k1 := h1
  have lt1 : ∀ x ∈ p1, x.block < W.heap.size := by obtain ⟨m, hm⟩ := k1; exact DataW.trod_lt m _ _ _ hm
  obtain ⟨n1, y1, c10, c11, hc1, w1⟩ := arr_of hsz (j := 1) rfl rfl h1
  obtain rfl := agg_two hc1
  clear hA0 hval0
  refine (walk x0 n1 y1 c10 c11 W w1.1 (arr_caps h1)).mono fun e W' ⟨he, bel⟩ => ?_
  subst he
  exact ⟨_, rfl, _, _, _, [], _, [], hW', trodAll_mk1 (shut_bool Try.underlying4 _), (trodAll_cons_mk (shut_int Try.underlying3 w0) (trodAll_cons_mk (Below.trod laidOut (by kernel_rfl) (of_decide_eq_true (by kernel_rfl)) k1 bel lt1) trodAll_mk0)), rfl, bel.frame _, fun h => by cases h⟩
theorem over : Rows.pickPartsRow.holds Try.pinned (OpenSpec.ofChange Rows.pickPartsSpec) :=
  OpenClaim.holds_of_wide 6 Try.f6 rfl rfl rfl rfl rfl rfl rfl ⟨rfl, rfl, rfl, rfl, rfl⟩ rfl rfl rfl rfl rfl (by kernel_rfl) Try.func6 (by kernel_rfl)
    (of_decide_eq_true (by kernel_rfl)) (by unfold Func.isWrapper; first | (rw [if_pos (by decide +kernel)]; kernel_rfl) | (rw [if_neg (by decide +kernel)]; exact ⟨rfl, rfl⟩))
    (fun os started H enc _ => lifted os started H enc)
theorem proved : Rows.PickPartsSaid := over
end Go.Proofs.Ytmjncdhahdpplaa.pickParts
namespace Go.Proofs.Ytmjncdhahdpplaa
theorem pickParts_holds : Rows.PickPartsSaid := pickParts.proved
#print axioms pickParts_holds
end Go.Proofs.Ytmjncdhahdpplaa
