/-
  For all arrays the statement PickKeeps holds: repeated by ones an array is itself, by noughts it has no item left; no condition (the given row speaks of what a machine of 64 bits can hold).
-/
import Derived.Test.YtmjncdhahdpplaaM8
namespace Go.Proofs.Ytmjncdhahdpplaa.pickKeeps
open Go.ChangeShapes Go.WideShapes Go.ChangeAt Go.RowKit
set_option linter.unusedVariables false
set_option maxRecDepth 100000
set_option maxHeartbeats 16000000 in
theorem walk (n : Nat) (x : Ar) (c0 c1 : Value) (w : World) (hx : ArIn n 0 w x (.agg #[c0, c1])) (hcap : Caps (.agg #[c0, c1])) :
    Calls Try.prog 9 #[.agg #[c0, c1]] w fun e w' => e = .returned (.bool true) ∧ Below w.heap.size w w' := by
  cases n with
  | zero => exact hx.elim
  | succ n =>
  obtain ⟨a1, k1, a2, k2, hv, -⟩ := hx.form
  simp only [Value.agg.injEq, Array.mk.injEq, List.cons.injEq, and_true] at hv
  obtain ⟨rfl, rfl⟩ := hv
  obtain ⟨SA, hSA⟩ : ∃ SA, x.shape.length = SA := ⟨_, rfl⟩
  obtain ⟨CA, hCA⟩ : ∃ CA, x.cells.length = CA := ⟨_, rfl⟩
  simp only [hSA, hCA] at hx hcap ⊢
  obtain ⟨W1, e1⟩ : ∃ W1, w.alloc (.cells #[.slice a1 SA k1, .slice a2 CA k2] 25) = W1 := ⟨_, rfl⟩
  obtain ⟨b0, V1⟩ := var_new (W3 := w) (Below.refl _ _) hx hcap
  rw [e1] at b0 V1
  have q0 := V1.c0
  have q1 := V1.c1
  have HV : Hid (∀ W, Below W1.heap.size W1 W → Var (n + 1) W w.heap.size x (.slice a1 SA k1) (.slice a2 CA k2)) := fun W h => V1.next h
  have HW : Hid (∀ W w', Below W1.heap.size W1 W → Below W.heap.size W w' → Below w.heap.size w w') := fun W w' h1 h2 => b0.trans ((h1.trans (h2.mono h1.size)).mono b0.size)
  have C0 := plight_any V1.ar
  have HSC := hide (And.intro hSA hCA)
  have HX0 := hide hx
  have HB0 := hide b0
  have HCAP := hide hcap
  have HFZ : Hid (∀ W, Below W1.heap.size W1 W → ∀ i, W.frozen? ⟨w.heap.size, i, none⟩ = false) := fun W h i => (h.frozen (p := ⟨w.heap.size, i, none⟩) V1.lt).trans (by rw [← e1]; exact frozen_new w _ 25 i)
  have HLT := hide V1.lt
  clear hx hcap hSA hCA b0 V1
  go_enter Try.func9, Try.ntmps9
  go_wp2_with fail
  clear e1 q0 q1
  refine C0.mono ?_
  rintro e w1 ⟨⟨r, rfl⟩, hb1⟩
  have HG1 := hide hb1
  have t0 := (HV.out w1 hb1).c0
  have t1 := (HV.out w1 hb1).c1
  clear C0 hb1
  cases r with
  | false =>
    have CW := pworks_any w1
    clear t0 t1
    go_wp2_with fail
    refine CW.mono ?_
    rintro e wz ⟨rfl, hbz⟩
    go_wp2
    go_ret
    exact ⟨rfl, HW.out _ _ HG1.out hbz⟩
  | true =>
  have C1 := rcheck_any (n + 1) x _ _ w1 (HV.out w1 HG1.out).ar
  go_wp2_with fail
  clear t0 t1
  refine C1.mono ?_
  rintro e w2 ⟨rfl, hb2⟩
  have HG2 := hide (HG1.out.trans (hb2.mono HG1.out.size))
  obtain ⟨E, hE⟩ : ∃ E, chkA 8 x = E := ⟨_, rfl⟩
  rw [hE]
  by_cases h0 : E = 0
  case neg =>
    have hne : (E == 0) = false := beq_eq_false_iff_ne.2 h0
    have CW := pworks_any w2
    clear hb2 C1 hE HG1
    go_wp2_with fail
    refine CW.mono ?_
    rintro e w3 ⟨rfl, hb3⟩
    go_wp2
    go_ret
    exact ⟨rfl, HW.out _ _ HG2.out hb3⟩
  subst h0
  have HCH := hide hE
  have t0 := (HV.out w2 HG2.out).c0
  have t1 := (HV.out w2 HG2.out).c1
  clear hb2 C1 hE HG1
  have CL := rlisted_any HX0.out (HB0.out.trans (HG2.out.mono HB0.out.size)) HCAP.out
  go_wp2_with fail
  clear t0 t1
  refine CL.mono ?_
  clear CL
  rintro e w3 ⟨⟨v, rfl, hcv, hv⟩, hb3⟩
  have hbw2 : Below w.heap.size w w2 := HB0.out.trans (HG2.out.mono HB0.out.size)
  have hbw : Below w.heap.size w w3 := hbw2.trans (hb3.mono hbw2.size)
  have g3 := HG2.out.trans (hb3.mono HG2.out.size)
  have hlt2 : w.heap.size < w2.heap.size := Nat.lt_of_lt_of_le HLT.out HG2.out.size
  obtain ⟨A, hA⟩ : ∃ A, lstA x = A := ⟨_, rfl⟩
  have HAF : Hid (chkA 8 A = 0 ∧ 0 < A.shape.length ∧ lstA A = A) := by
    have h := lst_facts HCH.out
    rw [hA] at h
    exact ⟨h.1, h.2.2, lstA_id h.2.2⟩
  rw [hA] at hv
  obtain ⟨s1, j1, s2, j2, rfl, -, -⟩ := (hv w3 hbw (Keeps.refl _ _)).form
  obtain ⟨SL, hSL⟩ : ∃ z, A.shape.length = z := ⟨_, rfl⟩
  obtain ⟨CL, hCL⟩ : ∃ z, A.cells.length = z := ⟨_, rfl⟩
  have HSL := hide (And.intro hSL hCL)
  simp only [hSL, hCL] at hv hcv ⊢
  have t0 := (HV.out w3 g3).c0
  have t1 := (HV.out w3 g3).c1
  have f0 := HFZ.out w3 g3 0
  have f1 := HFZ.out w3 g3 1
  obtain ⟨W4, e4⟩ : ∃ W4, (w3.setCell ⟨w.heap.size, 0, none⟩ (.slice s1 SL j1)).setCell ⟨w.heap.size, 1, none⟩ (.slice s2 CL j2) = W4 := ⟨_, rfl⟩
  have st := set_two t0 t1 (.slice s1 SL j1) (.slice s2 CL j2)
  have B4 : Below w.heap.size w W4 := by rw [← e4]; exact (hbw.setCell (p := ⟨w.heap.size, 0, none⟩) (Nat.le_refl _) _).setCell (p := ⟨w.heap.size, 1, none⟩) (Nat.le_refl _) _
  have V4 : Var (n + 1) W4 w.heap.size A (.slice s1 SL j1) (.slice s2 CL j2) := by
    refine ⟨by rw [← e4]; simp; exact Nat.lt_of_lt_of_le hlt2 hb3.size, ?_, by rw [← e4]; exact st.2, hv W4 B4 ?_, hcv⟩
    · rw [← e4, World.cell?_setCell_other _ _ _ _ (by simp)]; exact st.1
    · rw [← e4]; exact ((Keeps.refl _ _).setCell (p := ⟨w.heap.size, 0, none⟩) hlt2 _).setCell (p := ⟨w.heap.size, 1, none⟩) hlt2 _
  have HBW := hide B4
  have HV4 : Hid (∀ W, Below W4.heap.size W4 W → Var (n + 1) W w.heap.size A (.slice s1 SL j1) (.slice s2 CL j2)) := fun W h => V4.next h
  clear hv hcv hb3 hbw2 hbw g3 st B4 hSL hCL hA V4 HX0 HB0 HCAP HFZ HLT HG2 HV HW HSC HCH hlt2
  have HR1 : Hid (repR (atomA 1) (lstA A) 0 = (A, 0)) := by unfold Hid; rw [HAF.out.2.2]; exact rep_one HAF.out.1 HAF.out.2.1
  have HR2 : Hid (repR (atomA 1) (lstA A) ((lstA A).shape.length - 1) = (A, 0)) := by
    unfold Hid; rw [HAF.out.2.2]
    have := HAF.out.2.1
    exact rep_one HAF.out.1 (by omega)
  have HR3 : Hid (repR (atomA 0) (lstA A) 0 = (alongA A 0 [], 0)) := by unfold Hid; rw [HAF.out.2.2]; exact rep_none HAF.out.1 HAF.out.2.1
  obtain ⟨Z, hZ⟩ : ∃ Z, alongA A 0 [] = Z := ⟨_, rfl⟩
  rw [hZ] at HR3
  have HZ : Hid (Z.shape.length = SL ∧ gI Z.shape 0 = 0) := by
    have e : Z.shape = A.shape.set 0 0 := by rw [← hZ]; rfl
    rw [e]
    exact ⟨by rw [List.length_set, HSL.out.1], by rw [gI_set _ _ _ _ HAF.out.2.1, if_pos rfl]⟩
  obtain ⟨CZ, hCZ⟩ : ∃ z, Z.cells.length = z := ⟨_, rfl⟩
  have HCZ := hide hCZ
  clear hZ hCZ
  have CQ : Hid (∀ W, Below W4.heap.size W4 W → _) := fun W h => atom_at n 1 W4 W h
  have CD : Hid (∀ W, Below W4.heap.size W4 W → ∀ y1 n1 y2 n2, Caps (.agg #[.slice y1 0 n1, .slice y2 1 n2]) → ArIn (n + 1) 0 W (atomA 1) (.agg #[.slice y1 0 n1, .slice y2 1 n2]) → _) := fun W h y1 n1 y2 n2 kc hy => dy_at h (dy_50 hy (HV4.out W h).ar (chk_atom _) HAF.out.1 kc (HV4.out W h).cap) HR1.out HSL.out.1 HSL.out.2
  have KS : Hid (∀ W, Below W4.heap.size W4 W → (Below W4.heap.size W4 W ∧ W.cell? ⟨w.heap.size, 0, none⟩ = some (.slice s1 SL j1) ∧ W.cell? ⟨w.heap.size, 1, none⟩ = some (.slice s2 CL j2))) := fun W h => ⟨h, (HV4.out W h).c0, (HV4.out W h).c1⟩
  go_wp2
  clear e4 t0 t1 f0 f1
  go_cut [3, 4] from 20 to 25 (fun sx sy wx => ∃ B z1 l1 z2 l2, sx = .pointer (some ⟨B, 0, none⟩) ∧ sy = .int .i64 0 ∧ Below W4.heap.size W4 wx ∧ Var (n + 1) wx B A (.slice z1 SL l1) (.slice z2 CL l2))
  case first =>
    have HD0 : Hid (Below W4.heap.size W4 W4.drew) := (Below.refl _ _).drew
    have HD1 : Hid (Below W4.heap.size W4 (W4.alloc (.cells #[.slice none 0 0, .slice none 0 0] 25)).drew) := (one_alloc _ _).drew
    have HD2 : Hid (Below W4.heap.size W4 (W4.drew.alloc (.cells #[.slice none 0 0, .slice none 0 0] 25))) := (Below.refl _ _).drew.alloc (Nat.le_refl _) _
    have HAL : Hid (∀ W o, Below W4.heap.size W4 W → Below W4.heap.size W4 (W.alloc o)) := fun W o h => h.alloc h.size o
    have HSET : Hid (∀ W b u v, Below W4.heap.size W4 W → W4.heap.size ≤ b → Below W4.heap.size W4 ((W.setCell ⟨b, 0, none⟩ u).setCell ⟨b, 1, none⟩ v)) := fun W b u v h hb => (h.setCell (p := ⟨b, 0, none⟩) hb u).setCell (p := ⟨b, 1, none⟩) hb v
    have HLE : Hid (W4.heap.size ≤ W4.heap.size) := Nat.le_refl _
    go_region_held3 (fun W => Below W4.heap.size W4 W ∧ W.cell? ⟨w.heap.size, 0, none⟩ = some (.slice s1 SL j1) ∧ W.cell? ⟨w.heap.size, 1, none⟩ = some (.slice s2 CL j2))
      (first | with_reducible exact KS.out _ HD0.out | with_reducible exact KS.out _ HD1.out | with_reducible exact KS.out _ HD2.out | with_reducible exact KS.out _ (by with_reducible assumption) | with_reducible exact KS.out _ (HAL.out _ _ (by with_reducible assumption)) | with_reducible exact KS.out _ (HSET.out _ _ _ _ (by with_reducible assumption) (by with_reducible assumption)) | with_reducible exact KS.out _ (HSET.out _ _ _ _ (by with_reducible assumption) HLE.out))
      (first
        | (go_at_call 22; first
            | ((with_reducible refine (CQ.out _ HD0.out).mono ?_); rintro e w4 ⟨⟨y1, n1, y2, n2, rfl, kc, hy⟩, g4, hb4⟩; have s4 := g4.size; clear hb4)
            | ((with_reducible refine (CQ.out _ HD1.out).mono ?_); rintro e w4 ⟨⟨y1, n1, y2, n2, rfl, kc, hy⟩, g4, hb4⟩; have t4 := (Zb.new W4).drew.next hb4; clear hb4)
            | ((with_reducible refine (CQ.out _ HD2.out).mono ?_); rintro e w4 ⟨⟨y1, n1, y2, n2, rfl, kc, hy⟩, g4, hb4⟩; have t4 := (Zb.new W4.drew).next hb4; clear hb4))
        | (go_at_call 19; first
            | ((with_reducible refine (CD.out w4 g4 y1 n1 y2 n2 kc hy).mono ?_); rintro e w5 ⟨⟨z1, l1, z2, l2, rfl, hc, hz⟩, g5, hb5⟩; first | (obtain ⟨k0, k1, k2, k3, -⟩ := t4.next hb5) | skip)
            | ((with_reducible refine (CD.out (w4.alloc (.cells #[.slice none 0 0, .slice none 0 0] 25)) (g4.alloc g4.size _) y1 n1 y2 n2 kc (hy.next (one_alloc _ _))).mono ?_); rintro e w5 ⟨⟨z1, l1, z2, l2, rfl, hc, hz⟩, g5, hb5⟩; obtain ⟨k0, k1, k2, k3, -⟩ := (Zb.new w4).next hb5)))
    all_goals
      go_wp2
      go_meet
    all_goals
      case rel =>
        first
          | exact ⟨_, _, _, _, _, rfl, rfl, var_new g5 hz hc⟩
          | exact ⟨_, _, _, _, _, rfl, rfl, var_old (Zb.new w4) g4.size g5 hb5 hz hc⟩
          | exact ⟨_, _, _, _, _, rfl, rfl, var_old t4 (Nat.le_refl _) g5 hb5 hz hc⟩
  case rest =>
  obtain ⟨B1, f1, i1, f2, i2, rfl, rfl, g1, Vx⟩ := hcut
  generalize wc = wA at *
  have HGA := hide g1
  have HVX : Hid (∀ W, Below wA.heap.size wA W → Var (n + 1) W B1 A (.slice f1 SL i1) (.slice f2 CL i2)) := fun W h => Vx.next h
  have HVA : Hid (∀ W, Below wA.heap.size wA W → Var (n + 1) W w.heap.size A (.slice s1 SL j1) (.slice s2 CL j2)) := fun W h => HV4.out W (HGA.out.trans (h.mono HGA.out.size))
  clear CQ CD KS g1 Vx
  have CQ : Hid (∀ W, Below wA.heap.size wA W → _) := fun W h => atom_at n 1 wA W h
  have CD : Hid (∀ W, Below wA.heap.size wA W → ∀ y1 n1 y2 n2, Caps (.agg #[.slice y1 0 n1, .slice y2 1 n2]) → ArIn (n + 1) 0 W (atomA 1) (.agg #[.slice y1 0 n1, .slice y2 1 n2]) → _) := fun W h y1 n1 y2 n2 kc hy => dy_at h (dy_51 hy (HVA.out W h).ar (chk_atom _) HAF.out.1 kc (HVA.out W h).cap) HR2.out HSL.out.1 HSL.out.2
  have KS : Hid (∀ W, Below wA.heap.size wA W → (Below wA.heap.size wA W ∧ W.cell? ⟨w.heap.size, 0, none⟩ = some (.slice s1 SL j1) ∧ W.cell? ⟨w.heap.size, 1, none⟩ = some (.slice s2 CL j2))) := fun W h => ⟨h, (HVA.out W h).c0, (HVA.out W h).c1⟩
  go_wp2
  go_cut [5, 6] from 26 to 31 (fun sx sy wx => ∃ B z1 l1 z2 l2, sx = .pointer (some ⟨B, 0, none⟩) ∧ sy = .int .i64 0 ∧ Below wA.heap.size wA wx ∧ Var (n + 1) wx B A (.slice z1 SL l1) (.slice z2 CL l2))
  case first =>
    have HD0 : Hid (Below wA.heap.size wA wA.drew) := (Below.refl _ _).drew
    have HD1 : Hid (Below wA.heap.size wA (wA.alloc (.cells #[.slice none 0 0, .slice none 0 0] 25)).drew) := (one_alloc _ _).drew
    have HD2 : Hid (Below wA.heap.size wA (wA.drew.alloc (.cells #[.slice none 0 0, .slice none 0 0] 25))) := (Below.refl _ _).drew.alloc (Nat.le_refl _) _
    have HAL : Hid (∀ W o, Below wA.heap.size wA W → Below wA.heap.size wA (W.alloc o)) := fun W o h => h.alloc h.size o
    have HSET : Hid (∀ W b u v, Below wA.heap.size wA W → wA.heap.size ≤ b → Below wA.heap.size wA ((W.setCell ⟨b, 0, none⟩ u).setCell ⟨b, 1, none⟩ v)) := fun W b u v h hb => (h.setCell (p := ⟨b, 0, none⟩) hb u).setCell (p := ⟨b, 1, none⟩) hb v
    have HLE : Hid (wA.heap.size ≤ wA.heap.size) := Nat.le_refl _
    go_region_held3 (fun W => Below wA.heap.size wA W ∧ W.cell? ⟨w.heap.size, 0, none⟩ = some (.slice s1 SL j1) ∧ W.cell? ⟨w.heap.size, 1, none⟩ = some (.slice s2 CL j2))
      (first | with_reducible exact KS.out _ HD0.out | with_reducible exact KS.out _ HD1.out | with_reducible exact KS.out _ HD2.out | with_reducible exact KS.out _ (by with_reducible assumption) | with_reducible exact KS.out _ (HAL.out _ _ (by with_reducible assumption)) | with_reducible exact KS.out _ (HSET.out _ _ _ _ (by with_reducible assumption) (by with_reducible assumption)) | with_reducible exact KS.out _ (HSET.out _ _ _ _ (by with_reducible assumption) HLE.out))
      (first
        | (go_at_call 22; first
            | ((with_reducible refine (CQ.out _ HD0.out).mono ?_); rintro e w4 ⟨⟨y1, n1, y2, n2, rfl, kc, hy⟩, g4, hb4⟩; have s4 := g4.size; clear hb4)
            | ((with_reducible refine (CQ.out _ HD1.out).mono ?_); rintro e w4 ⟨⟨y1, n1, y2, n2, rfl, kc, hy⟩, g4, hb4⟩; have t4 := (Zb.new wA).drew.next hb4; clear hb4)
            | ((with_reducible refine (CQ.out _ HD2.out).mono ?_); rintro e w4 ⟨⟨y1, n1, y2, n2, rfl, kc, hy⟩, g4, hb4⟩; have t4 := (Zb.new wA.drew).next hb4; clear hb4))
        | (go_at_call 19; first
            | ((with_reducible refine (CD.out w4 g4 y1 n1 y2 n2 kc hy).mono ?_); rintro e w5 ⟨⟨z1, l1, z2, l2, rfl, hc, hz⟩, g5, hb5⟩; first | (obtain ⟨k0, k1, k2, k3, -⟩ := t4.next hb5) | skip)
            | ((with_reducible refine (CD.out (w4.alloc (.cells #[.slice none 0 0, .slice none 0 0] 25)) (g4.alloc g4.size _) y1 n1 y2 n2 kc (hy.next (one_alloc _ _))).mono ?_); rintro e w5 ⟨⟨z1, l1, z2, l2, rfl, hc, hz⟩, g5, hb5⟩; obtain ⟨k0, k1, k2, k3, -⟩ := (Zb.new w4).next hb5)))
    all_goals
      go_wp2
      go_meet
    all_goals
      case rel =>
        first
          | exact ⟨_, _, _, _, _, rfl, rfl, var_new g5 hz hc⟩
          | exact ⟨_, _, _, _, _, rfl, rfl, var_old (Zb.new w4) g4.size g5 hb5 hz hc⟩
          | exact ⟨_, _, _, _, _, rfl, rfl, var_old t4 (Nat.le_refl _) g5 hb5 hz hc⟩
  case rest =>
  obtain ⟨B2, g1, h1, g2, h2, rfl, rfl, g1', Vy⟩ := hcut
  generalize wc = wB at *
  have HGB := hide (HGA.out.trans (g1'.mono HGA.out.size))
  have HVY : Hid (∀ W, Below wB.heap.size wB W → Var (n + 1) W B2 A (.slice g1 SL h1) (.slice g2 CL h2)) := fun W h => Vy.next h
  have HVXB : Hid (∀ W, Below wB.heap.size wB W → Var (n + 1) W B1 A (.slice f1 SL i1) (.slice f2 CL i2)) := fun W h => HVX.out W (g1'.trans (h.mono g1'.size))
  have HVB : Hid (∀ W, Below wB.heap.size wB W → Var (n + 1) W w.heap.size A (.slice s1 SL j1) (.slice s2 CL j2)) := fun W h => HV4.out W (HGB.out.trans (h.mono HGB.out.size))
  clear CQ CD KS g1' Vy HVX HVA
  have CQ : Hid (∀ W, Below wB.heap.size wB W → _) := fun W h => atom_at n 0 wB W h
  have CD : Hid (∀ W, Below wB.heap.size wB W → ∀ y1 n1 y2 n2, Caps (.agg #[.slice y1 0 n1, .slice y2 1 n2]) → ArIn (n + 1) 0 W (atomA 0) (.agg #[.slice y1 0 n1, .slice y2 1 n2]) → _) := fun W h y1 n1 y2 n2 kc hy => dy_at h (dy_50 hy (HVB.out W h).ar (chk_atom _) HAF.out.1 kc (HVB.out W h).cap) HR3.out HZ.out.1 HCZ.out
  have KS : Hid (∀ W, Below wB.heap.size wB W → (Below wB.heap.size wB W ∧ W.cell? ⟨w.heap.size, 0, none⟩ = some (.slice s1 SL j1) ∧ W.cell? ⟨w.heap.size, 1, none⟩ = some (.slice s2 CL j2))) := fun W h => ⟨h, (HVB.out W h).c0, (HVB.out W h).c1⟩
  go_wp2
  go_cut [7, 8] from 32 to 37 (fun sx sy wx => ∃ B z1 l1 z2 l2, sx = .pointer (some ⟨B, 0, none⟩) ∧ sy = .int .i64 0 ∧ Below wB.heap.size wB wx ∧ Var (n + 1) wx B Z (.slice z1 SL l1) (.slice z2 CZ l2))
  case first =>
    have HD0 : Hid (Below wB.heap.size wB wB.drew) := (Below.refl _ _).drew
    have HD1 : Hid (Below wB.heap.size wB (wB.alloc (.cells #[.slice none 0 0, .slice none 0 0] 25)).drew) := (one_alloc _ _).drew
    have HD2 : Hid (Below wB.heap.size wB (wB.drew.alloc (.cells #[.slice none 0 0, .slice none 0 0] 25))) := (Below.refl _ _).drew.alloc (Nat.le_refl _) _
    have HAL : Hid (∀ W o, Below wB.heap.size wB W → Below wB.heap.size wB (W.alloc o)) := fun W o h => h.alloc h.size o
    have HSET : Hid (∀ W b u v, Below wB.heap.size wB W → wB.heap.size ≤ b → Below wB.heap.size wB ((W.setCell ⟨b, 0, none⟩ u).setCell ⟨b, 1, none⟩ v)) := fun W b u v h hb => (h.setCell (p := ⟨b, 0, none⟩) hb u).setCell (p := ⟨b, 1, none⟩) hb v
    have HLE : Hid (wB.heap.size ≤ wB.heap.size) := Nat.le_refl _
    go_region_held3 (fun W => Below wB.heap.size wB W ∧ W.cell? ⟨w.heap.size, 0, none⟩ = some (.slice s1 SL j1) ∧ W.cell? ⟨w.heap.size, 1, none⟩ = some (.slice s2 CL j2))
      (first | with_reducible exact KS.out _ HD0.out | with_reducible exact KS.out _ HD1.out | with_reducible exact KS.out _ HD2.out | with_reducible exact KS.out _ (by with_reducible assumption) | with_reducible exact KS.out _ (HAL.out _ _ (by with_reducible assumption)) | with_reducible exact KS.out _ (HSET.out _ _ _ _ (by with_reducible assumption) (by with_reducible assumption)) | with_reducible exact KS.out _ (HSET.out _ _ _ _ (by with_reducible assumption) HLE.out))
      (first
        | (go_at_call 22; first
            | ((with_reducible refine (CQ.out _ HD0.out).mono ?_); rintro e w4 ⟨⟨y1, n1, y2, n2, rfl, kc, hy⟩, g4, hb4⟩; have s4 := g4.size; clear hb4)
            | ((with_reducible refine (CQ.out _ HD1.out).mono ?_); rintro e w4 ⟨⟨y1, n1, y2, n2, rfl, kc, hy⟩, g4, hb4⟩; have t4 := (Zb.new wB).drew.next hb4; clear hb4)
            | ((with_reducible refine (CQ.out _ HD2.out).mono ?_); rintro e w4 ⟨⟨y1, n1, y2, n2, rfl, kc, hy⟩, g4, hb4⟩; have t4 := (Zb.new wB.drew).next hb4; clear hb4))
        | (go_at_call 19; first
            | ((with_reducible refine (CD.out w4 g4 y1 n1 y2 n2 kc hy).mono ?_); rintro e w5 ⟨⟨z1, l1, z2, l2, rfl, hc, hz⟩, g5, hb5⟩; first | (obtain ⟨k0, k1, k2, k3, -⟩ := t4.next hb5) | skip)
            | ((with_reducible refine (CD.out (w4.alloc (.cells #[.slice none 0 0, .slice none 0 0] 25)) (g4.alloc g4.size _) y1 n1 y2 n2 kc (hy.next (one_alloc _ _))).mono ?_); rintro e w5 ⟨⟨z1, l1, z2, l2, rfl, hc, hz⟩, g5, hb5⟩; obtain ⟨k0, k1, k2, k3, -⟩ := (Zb.new w4).next hb5)))
    all_goals
      go_wp2
      go_meet
    all_goals
      case rel =>
        first
          | exact ⟨_, _, _, _, _, rfl, rfl, var_new g5 hz hc⟩
          | exact ⟨_, _, _, _, _, rfl, rfl, var_old (Zb.new w4) g4.size g5 hb5 hz hc⟩
          | exact ⟨_, _, _, _, _, rfl, rfl, var_old t4 (Nat.le_refl _) g5 hb5 hz hc⟩
  case rest =>
  obtain ⟨B3, o1, p1, o2, p2, rfl, rfl, g1', Vz⟩ := hcut
  generalize wc = wC at *
  have HGC := hide (HGB.out.trans (g1'.mono HGB.out.size))
  have HVC : Hid (∀ W, Below wC.heap.size wC W → Var (n + 1) W w.heap.size A (.slice s1 SL j1) (.slice s2 CL j2) ∧ Var (n + 1) W B1 A (.slice f1 SL i1) (.slice f2 CL i2) ∧ Var (n + 1) W B2 A (.slice g1 SL h1) (.slice g2 CL h2) ∧ Var (n + 1) W B3 Z (.slice o1 SL p1) (.slice o2 CZ p2)) := fun W h => ⟨HV4.out W (HGC.out.trans (h.mono HGC.out.size)), HVXB.out W (g1'.trans (h.mono g1'.size)), HVY.out W (g1'.trans (h.mono g1'.size)), Vz.next h⟩
  obtain ⟨va, vx, vy, vz⟩ := HVC.out wC (Below.refl _ _)
  have u0 := va.c0
  have u1 := va.c1
  have u2 := vx.c0
  have u3 := vx.c1
  have CS := rsame_any va.ar vx.ar
  rw [cmpA_self] at CS
  clear CQ CD KS g1' Vz va vx vy vz HVXB HVY HVB HGB HGA
  go_wp2_with fail
  clear u0 u1 u2 u3
  refine CS.mono ?_
  rintro e wD ⟨rfl, hbD⟩
  simp only [decide_true]
  obtain ⟨va, vx, vy, vz⟩ := HVC.out wD hbD
  have HGD := hide hbD
  have u0 := va.c0
  have u1 := va.c1
  have u2 := vy.c0
  have u3 := vy.c1
  have CS2 := rsame_any va.ar vy.ar
  rw [cmpA_self] at CS2
  clear CS hbD va vx vy vz
  go_wp2_with fail
  clear u0 u1 u2 u3
  refine CS2.mono ?_
  rintro e wE ⟨rfl, hbE⟩
  simp only [decide_true]
  have HGE := hide (HGD.out.trans (hbE.mono HGD.out.size))
  obtain ⟨va, vx, vy, vz⟩ := HVC.out wE HGE.out
  have u0 := va.c0
  have u2 := vz.c0
  obtain ⟨d1, d2, d3, d4, hd, RZ, -⟩ := vz.ar.form
  simp only [Value.agg.injEq, Array.mk.injEq, List.cons.injEq, Value.slice.injEq, and_true] at hd
  obtain ⟨⟨rfl, -, -⟩, -⟩ := hd
  have hSL0 : 0 < SL := by have := HAF.out.2.1; rw [HSL.out.1] at this; exact this
  obtain ⟨pb, po, rfl, hpb, hp0⟩ := row_at RZ (j := 0) (by rw [HZ.out.1]; exact hSL0)
  have eg : Z.shape[0]?.getD 0 = 0 := HZ.out.2
  rw [eg, Nat.add_zero] at hp0
  have HFIN : Hid (∀ wz, Below wE.heap.size wE wz → Below w.heap.size w wz) := fun wz h => HBW.out.trans ((HGC.out.trans ((HGE.out.trans (h.mono HGE.out.size)).mono HGC.out.size)).mono HBW.out.size)
  have CW := pworks_any wE
  clear CS2 hbE va vx vy vz RZ hpb eg
  go_wp2_with fail
  refine CW.mono ?_
  rintro e wz ⟨rfl, hbz⟩
  go_wp2
  go_ret
  exact ⟨rfl, HFIN.out _ hbz⟩
set_option maxRecDepth 100000 in
theorem lifted (os : Os) (started : os.Started) (H : Type) (enc : TypeId × Value → H) :
    ReturnsInHanded {} Try.checked os 9 .any (Rows.pickKeepsSpec.pre6 enc Try.prog Try.f9 Rows.pickKeepsRow.domain false) (Rows.pickKeepsSpec.post enc Try.prog Try.f9 false true false false) := by
  refine returnsInHanded_of_change_sized (C := Try.checked) own started (by kernel_rfl) Try.func9
    (ChangeSpec.witness6 (enc := enc) (C := Try.checked) false ⟨#[], #[.agg #[.slice none 0 0, .slice none 0 0]], []⟩ 8 (by kernel_rfl) (by kernel_rfl) (by kernel_rfl) (by kernel_rfl)) ?_
  intro W base args ds gs before hval0 hW _ hsz0 _
  have hsz : (DataW.weightsEach Try.prog (Try.f9.params.toList ++ Rows.pickKeepsSpec.plain.varTypes Try.prog) (ds ++ gs)).all (· ≤ reachBytes) = true := hsz0
  clear hsz0
  have hval : ∀ (j : Nat) t v, Try.f9.params[j]? = some t → args[j]? = some v → Value.okWide Try.prog W .any base t v := hval0
  have hW' := hW
  obtain ⟨p, q, hA0, hV, rfl, hfz, hnd⟩ := hW
  have hA : DataW.TrodAll enc Try.prog W 0 (fun _ => true) true Try.f9.params.toList args.toList ds p := hA0
  rw [Try.params9] at hA hval hsz
  obtain ⟨v0, vs0, d0, ds0, p0, q0, hargs, rfl, rfl, h0, r0⟩ := trodAll_cons hA
  obtain ⟨rfl, rfl, rfl⟩ := trodAll_nil r0
  obtain rfl : args = #[v0] := by cases args; simp_all
  obtain ⟨rfl, rfl⟩ := trodVars_none hV
  have k0 := h0
  have lt0 : ∀ x ∈ p0, x.block < W.heap.size := by obtain ⟨m, hm⟩ := k0; exact DataW.trod_lt m _ _ _ hm
  obtain ⟨n0, y0, c00, c01, hc0, w0⟩ := arr_of hsz (j := 0) rfl rfl h0
  obtain rfl := agg_two hc0
  clear hA0 hval0
  refine (walk n0 y0 c00 c01 W w0.1 (arr_caps h0)).mono fun e W' ⟨he, bel⟩ => ?_
  subst he
  exact ⟨_, rfl, _, _, _, [], _, [], hW', trodAll_mk1 (shut_bool Try.underlying4 _), (trodAll_cons_mk (Below.trod laidOut (by kernel_rfl) (of_decide_eq_true (by kernel_rfl)) k0 bel lt0) trodAll_mk0), rfl, bel.frame _, fun h => by cases h⟩
theorem over : Rows.pickKeepsRow.holds Try.pinned (OpenSpec.ofChange Rows.pickKeepsSpec) :=
  OpenClaim.holds_of_wide 9 Try.f9 rfl rfl rfl rfl rfl rfl rfl ⟨rfl, rfl, rfl, rfl, rfl⟩ rfl rfl rfl rfl rfl (by kernel_rfl) Try.func9 (by kernel_rfl)
    (of_decide_eq_true (by kernel_rfl)) (by unfold Func.isWrapper; first | (rw [if_pos (by decide +kernel)]; kernel_rfl) | (rw [if_neg (by decide +kernel)]; exact ⟨rfl, rfl⟩))
    (fun os started H enc _ => lifted os started H enc)
theorem proved : Rows.PickKeepsSaid := over
end Go.Proofs.Ytmjncdhahdpplaa.pickKeeps
namespace Go.Proofs.Ytmjncdhahdpplaa
theorem pickKeeps_holds : Rows.PickKeepsSaid := pickKeeps.proved
#print axioms pickKeeps_holds
end Go.Proofs.Ytmjncdhahdpplaa
