/-
  For all arrays and numbers the statement PickRotates holds: rotated by two numbers, one behind the other, an array is as rotated by both together; by as many as there are it is itself; no condition (the given row speaks of what a machine of 64 bits can hold).
-/
import Derived.Test.YtmjncdhahdpplaaM8
namespace Go.Proofs.Ytmjncdhahdpplaa.pickRotates
open Go.ChangeShapes Go.WideShapes Go.ChangeAt Go.RowKit
set_option linter.unusedVariables false
set_option maxRecDepth 100000
set_option maxHeartbeats 8000000 in
theorem walk (n : Nat) (x : Ar) (c0 c1 : Value) (m k : Int) (last : Bool) (w : World) (hx : ArIn n 0 w x (.agg #[c0, c1])) (hcap : Caps (.agg #[c0, c1])) (hm : -2147483648 ≤ m ∧ m ≤ 2147483647) (hk : -2147483648 ≤ k ∧ k ≤ 2147483647) :
    Calls Try.prog 7 #[.agg #[c0, c1], .int .i32 m, .int .i32 k, .bool last] w fun e w' => e = .returned (.bool true) ∧ Below w.heap.size w w' := by
  have wm : IntKind.i64.wrap m = m := by rw [IntKind.wrap_i64]; omega
  have wk : IntKind.i64.wrap k = k := by rw [IntKind.wrap_i64]; omega
  have ws : IntKind.i64.wrap (m + k) = m + k := by rw [IntKind.wrap_i64]; omega
  cases n with
  | zero => exact hx.elim
  | succ n =>
  obtain ⟨a1, k1, a2, k2, hv, -⟩ := hx.form
  simp only [Value.agg.injEq, Array.mk.injEq, List.cons.injEq, and_true] at hv
  obtain ⟨rfl, rfl⟩ := hv
  obtain ⟨SA, hSA⟩ : ∃ SA, x.shape.length = SA := ⟨_, rfl⟩
  obtain ⟨CA, hCA⟩ : ∃ CA, x.cells.length = CA := ⟨_, rfl⟩
  simp only [hSA, hCA] at hx hcap ⊢
  obtain ⟨W1, e1⟩ : ∃ W1, w.alloc (.cells #[.slice a1 SA k1, .slice a2 CA k2] 25) = W1 := ⟨_, rfl⟩
  obtain ⟨b0, V1⟩ := var_new (W3 := w) (Below.refl _ _) hx hcap
  rw [e1] at b0 V1
  have q0 := V1.c0
  have q1 := V1.c1
  have HV : Hid (∀ W, Below W1.heap.size W1 W → Var (n + 1) W w.heap.size x (.slice a1 SA k1) (.slice a2 CA k2)) := fun W h => V1.next h
  have HW : Hid (∀ W w', Below W1.heap.size W1 W → Below W.heap.size W w' → Below w.heap.size w w') := fun W w' h1 h2 => b0.trans ((h1.trans (h2.mono h1.size)).mono b0.size)
  have C0 := plight_any V1.ar
  have HSC := hide (And.intro hSA hCA)
  clear hx hcap hSA hCA b0 V1
  go_enter Try.func7, Try.ntmps7
  go_wp2_with fail
  clear e1 q0 q1
  refine C0.mono ?_
  rintro e w1 ⟨⟨r, rfl⟩, hb1⟩
  have HG1 := hide hb1
  have t0 := (HV.out w1 hb1).c0
  have t1 := (HV.out w1 hb1).c1
  clear C0 hb1
  cases r with
  | false =>
    have CW := pworks_any w1
    clear t0 t1
    go_wp2_with fail
    refine CW.mono ?_
    rintro e wz ⟨rfl, hbz⟩
    go_wp2
    go_ret
    exact ⟨rfl, HW.out _ _ HG1.out hbz⟩
  | true =>
  have C1 := rcheck_any (n + 1) x _ _ w1 (HV.out w1 HG1.out).ar
  go_wp2_with fail
  clear t0 t1
  refine C1.mono ?_
  rintro e w2 ⟨rfl, hb2⟩
  have HG2 := hide (HG1.out.trans (hb2.mono HG1.out.size))
  obtain ⟨E, hE⟩ : ∃ E, chkA 8 x = E := ⟨_, rfl⟩
  rw [hE]
  by_cases h0 : E = 0
  case neg =>
    have hne : (E == 0) = false := beq_eq_false_iff_ne.2 h0
    have CW := pworks_any w2
    clear hb2 C1 hE HG1
    go_wp2_with fail
    refine CW.mono ?_
    rintro e w3 ⟨rfl, hb3⟩
    go_wp2
    go_ret
    exact ⟨rfl, HW.out _ _ HG2.out hb3⟩
  subst h0
  have HCH := hide hE
  have t0 := (HV.out w2 HG2.out).c0
  have t1 := (HV.out w2 HG2.out).c1
  clear hb2 C1 hE HG1
  have HAX : Hid (0 < x.shape.length → axL last x < x.shape.length) := fun h => axL_lt last h
  obtain ⟨X1, hX1⟩ : ∃ X1, rotR (atomA m) x (axL last x) = (X1, 0) := ⟨(rotR (atomA m) x (axL last x)).1, by rw [← (rot_shape HCH.out m HAX.out).1]⟩
  have HS1 : Hid (X1.shape = x.shape ∧ X1.cells.length = x.cells.length ∧ chkA 8 X1 = 0 ∧ axL last X1 = axL last x) := by
    have h := rot_shape HCH.out m HAX.out
    have hc := (rot_chk (x := atomA m) HCH.out (axL last x) HAX.out).2 h.1
    rw [hX1] at h hc
    exact ⟨h.2.1, h.2.2, hc, by unfold axL; rw [h.2.1]⟩
  obtain ⟨X2, hX2⟩ : ∃ X2, rotR (atomA (m + k)) x (axL last x) = (X2, 0) := ⟨(rotR (atomA (m + k)) x (axL last x)).1, by rw [← (rot_shape HCH.out (m + k) HAX.out).1]⟩
  have HS2 : Hid (X2.shape = x.shape ∧ X2.cells.length = x.cells.length) := by
    have h := rot_shape HCH.out (m + k) HAX.out
    rw [hX2] at h
    exact ⟨h.2.1, h.2.2⟩
  have hX3 : rotR (atomA k) X1 (axL last X1) = (X2, 0) := by
    have h := rot_twice HCH.out m k HAX.out
    rw [hX1, hX2] at h
    rw [HS1.out.2.2.2]; exact h
  have HX1 := hide hX1
  have HX2 := hide hX2
  have HX3 := hide hX3
  clear hX1 hX2 hX3
  go_upto_if 28 with fail
  go_cut [9] from 28 to 28 (fun s wx => s = .int .i64 (opL last) ∧ wx = w2)
  case first =>
    cases last with
    | false =>
      go_wp2
      go_meet
      exact ⟨rfl, rfl⟩
    | true =>
      go_wp2
      go_meet
      exact ⟨rfl, rfl⟩
  case rest =>
  obtain ⟨rfl, rfl⟩ := hcut
  obtain ⟨op, hop⟩ : ∃ op, opL last = op := ⟨_, rfl⟩
  have HDY : Hid (∀ {lo lo' : Nat} {x y : Ar} {va vb : Value} {w : World} (hx : ArIn (n + 1) lo w x va) (hy : ArIn (n + 1) lo' w y vb) (hcx : chkA 8 x = 0) (hcy : chkA 8 y = 0) (kx : Caps va) (ky : Caps vb), Calls Try.prog 19 #[.int .i64 op, va, vb] w fun e w' => GivesD (n + 1) (rotR x y (axL last y)).1 (rotR x y (axL last y)).2 w e w') := by
    rw [← hop]
    exact fun hx hy hcx hcy kx ky => dy_rot last hx hy hcx hcy kx ky
  rw [hop]
  clear hop t0 t1
  have HV2 : Hid (∀ W, Below wc.heap.size wc W → Var (n + 1) W w.heap.size x (.slice a1 SA k1) (.slice a2 CA k2)) := fun W h => HV.out W (HG2.out.trans (h.mono HG2.out.size))
  generalize wc = wA at *
  have CQ : Hid (∀ W, Below wA.heap.size wA W → _) := fun W h => atom_at n m wA W h
  have CD : Hid (∀ W, Below wA.heap.size wA W → ∀ y1 n1 y2 n2, Caps (.agg #[.slice y1 0 n1, .slice y2 1 n2]) → ArIn (n + 1) 0 W (atomA m) (.agg #[.slice y1 0 n1, .slice y2 1 n2]) → _) := fun W h y1 n1 y2 n2 kc hy => dy_at h (HDY.out hy (HV2.out W h).ar (chk_atom _) HCH.out kc (HV2.out W h).cap) HX1.out ((congrArg List.length HS1.out.1).trans HSC.out.1) (HS1.out.2.1.trans HSC.out.2)
  have KS : Hid (∀ W, Below wA.heap.size wA W → (Below wA.heap.size wA W ∧ W.cell? ⟨w.heap.size, 0, none⟩ = some (.slice a1 SA k1) ∧ W.cell? ⟨w.heap.size, 1, none⟩ = some (.slice a2 CA k2))) := fun W h => ⟨h, (HV2.out W h).c0, (HV2.out W h).c1⟩
  go_wp2
  go_cut [10, 11] from 29 to 37 (fun sx sy wx => ∃ B z1 l1 z2 l2, sx = .pointer (some ⟨B, 0, none⟩) ∧ sy = .int .i64 0 ∧ Below wA.heap.size wA wx ∧ Var (n + 1) wx B X1 (.slice z1 SA l1) (.slice z2 CA l2))
  case first =>
    have HD0 : Hid (Below wA.heap.size wA wA.drew) := (Below.refl _ _).drew
    have HD1 : Hid (Below wA.heap.size wA (wA.alloc (.cells #[.slice none 0 0, .slice none 0 0] 25)).drew) := (one_alloc _ _).drew
    have HD2 : Hid (Below wA.heap.size wA (wA.drew.alloc (.cells #[.slice none 0 0, .slice none 0 0] 25))) := (Below.refl _ _).drew.alloc (Nat.le_refl _) _
    have HAL : Hid (∀ W o, Below wA.heap.size wA W → Below wA.heap.size wA (W.alloc o)) := fun W o h => h.alloc h.size o
    have HSET : Hid (∀ W b u v, Below wA.heap.size wA W → wA.heap.size ≤ b → Below wA.heap.size wA ((W.setCell ⟨b, 0, none⟩ u).setCell ⟨b, 1, none⟩ v)) := fun W b u v h hb => (h.setCell (p := ⟨b, 0, none⟩) hb u).setCell (p := ⟨b, 1, none⟩) hb v
    have HLE : Hid (wA.heap.size ≤ wA.heap.size) := Nat.le_refl _
    go_region_held3 (fun W => Below wA.heap.size wA W ∧ W.cell? ⟨w.heap.size, 0, none⟩ = some (.slice a1 SA k1) ∧ W.cell? ⟨w.heap.size, 1, none⟩ = some (.slice a2 CA k2))
      (first | with_reducible exact KS.out _ HD0.out | with_reducible exact KS.out _ HD1.out | with_reducible exact KS.out _ HD2.out | with_reducible exact KS.out _ (by with_reducible assumption) | with_reducible exact KS.out _ (HAL.out _ _ (by with_reducible assumption)) | with_reducible exact KS.out _ (HSET.out _ _ _ _ (by with_reducible assumption) (by with_reducible assumption)) | with_reducible exact KS.out _ (HSET.out _ _ _ _ (by with_reducible assumption) HLE.out))
      (first
        | (go_at_call 22; first
            | ((with_reducible refine (CQ.out _ HD0.out).mono ?_); rintro e w4 ⟨⟨y1, n1, y2, n2, rfl, kc, hy⟩, g4, hb4⟩; have s4 := g4.size; clear hb4)
            | ((with_reducible refine (CQ.out _ HD1.out).mono ?_); rintro e w4 ⟨⟨y1, n1, y2, n2, rfl, kc, hy⟩, g4, hb4⟩; have t4 := (Zb.new wA).drew.next hb4; clear hb4)
            | ((with_reducible refine (CQ.out _ HD2.out).mono ?_); rintro e w4 ⟨⟨y1, n1, y2, n2, rfl, kc, hy⟩, g4, hb4⟩; have t4 := (Zb.new wA.drew).next hb4; clear hb4))
        | (go_at_call 19; first
            | ((with_reducible refine (CD.out w4 g4 y1 n1 y2 n2 kc hy).mono ?_); rintro e w5 ⟨⟨z1, l1, z2, l2, rfl, hc, hz⟩, g5, hb5⟩; first | (obtain ⟨k0, k1, k2, k3, -⟩ := t4.next hb5) | skip)
            | ((with_reducible refine (CD.out (w4.alloc (.cells #[.slice none 0 0, .slice none 0 0] 25)) (g4.alloc g4.size _) y1 n1 y2 n2 kc (hy.next (one_alloc _ _))).mono ?_); rintro e w5 ⟨⟨z1, l1, z2, l2, rfl, hc, hz⟩, g5, hb5⟩; obtain ⟨k0, k1, k2, k3, -⟩ := (Zb.new w4).next hb5)))
    all_goals
      go_wp2
      go_meet
    all_goals
      case rel =>
        first
          | exact ⟨_, _, _, _, _, rfl, rfl, var_new g5 hz hc⟩
          | exact ⟨_, _, _, _, _, rfl, rfl, var_old (Zb.new w4) g4.size g5 hb5 hz hc⟩
          | exact ⟨_, _, _, _, _, rfl, rfl, var_old t4 (Nat.le_refl _) g5 hb5 hz hc⟩
  case rest =>
  obtain ⟨B1, s1, l1, s2, l2, rfl, rfl, g1, V1⟩ := hcut
  generalize wc = wB at *
  have HGB := hide (HG2.out.trans (g1.mono HG2.out.size))
  have HVX1 : Hid (∀ W, Below wB.heap.size wB W → Var (n + 1) W B1 X1 (.slice s1 SA l1) (.slice s2 CA l2)) := fun W h => V1.next h
  clear CQ CD KS g1 V1 HV2
  have CQ : Hid (∀ W, Below wB.heap.size wB W → _) := fun W h => atom_at n k wB W h
  have CD : Hid (∀ W, Below wB.heap.size wB W → ∀ y1 n1 y2 n2, Caps (.agg #[.slice y1 0 n1, .slice y2 1 n2]) → ArIn (n + 1) 0 W (atomA k) (.agg #[.slice y1 0 n1, .slice y2 1 n2]) → _) := fun W h y1 n1 y2 n2 kc hy => dy_at h (HDY.out hy (HVX1.out W h).ar (chk_atom _) HS1.out.2.2.1 kc (HVX1.out W h).cap) HX3.out ((congrArg List.length HS2.out.1).trans HSC.out.1) (HS2.out.2.trans HSC.out.2)
  have KS : Hid (∀ W, Below wB.heap.size wB W → (Below wB.heap.size wB W ∧ W.cell? ⟨B1, 0, none⟩ = some (.slice s1 SA l1) ∧ W.cell? ⟨B1, 1, none⟩ = some (.slice s2 CA l2))) := fun W h => ⟨h, (HVX1.out W h).c0, (HVX1.out W h).c1⟩
  go_wp2
  go_cut [12, 13] from 38 to 46 (fun sx sy wx => ∃ B z1 l1 z2 l2, sx = .pointer (some ⟨B, 0, none⟩) ∧ sy = .int .i64 0 ∧ Below wB.heap.size wB wx ∧ Var (n + 1) wx B X2 (.slice z1 SA l1) (.slice z2 CA l2))
  case first =>
    have HD0 : Hid (Below wB.heap.size wB wB.drew) := (Below.refl _ _).drew
    have HD1 : Hid (Below wB.heap.size wB (wB.alloc (.cells #[.slice none 0 0, .slice none 0 0] 25)).drew) := (one_alloc _ _).drew
    have HD2 : Hid (Below wB.heap.size wB (wB.drew.alloc (.cells #[.slice none 0 0, .slice none 0 0] 25))) := (Below.refl _ _).drew.alloc (Nat.le_refl _) _
    have HAL : Hid (∀ W o, Below wB.heap.size wB W → Below wB.heap.size wB (W.alloc o)) := fun W o h => h.alloc h.size o
    have HSET : Hid (∀ W b u v, Below wB.heap.size wB W → wB.heap.size ≤ b → Below wB.heap.size wB ((W.setCell ⟨b, 0, none⟩ u).setCell ⟨b, 1, none⟩ v)) := fun W b u v h hb => (h.setCell (p := ⟨b, 0, none⟩) hb u).setCell (p := ⟨b, 1, none⟩) hb v
    have HLE : Hid (wB.heap.size ≤ wB.heap.size) := Nat.le_refl _
    go_region_held3 (fun W => Below wB.heap.size wB W ∧ W.cell? ⟨B1, 0, none⟩ = some (.slice s1 SA l1) ∧ W.cell? ⟨B1, 1, none⟩ = some (.slice s2 CA l2))
      (first | with_reducible exact KS.out _ HD0.out | with_reducible exact KS.out _ HD1.out | with_reducible exact KS.out _ HD2.out | with_reducible exact KS.out _ (by with_reducible assumption) | with_reducible exact KS.out _ (HAL.out _ _ (by with_reducible assumption)) | with_reducible exact KS.out _ (HSET.out _ _ _ _ (by with_reducible assumption) (by with_reducible assumption)) | with_reducible exact KS.out _ (HSET.out _ _ _ _ (by with_reducible assumption) HLE.out))
      (first
        | (go_at_call 22; first
            | ((with_reducible refine (CQ.out _ HD0.out).mono ?_); rintro e w4 ⟨⟨y1, n1, y2, n2, rfl, kc, hy⟩, g4, hb4⟩; have s4 := g4.size; clear hb4)
            | ((with_reducible refine (CQ.out _ HD1.out).mono ?_); rintro e w4 ⟨⟨y1, n1, y2, n2, rfl, kc, hy⟩, g4, hb4⟩; have t4 := (Zb.new wB).drew.next hb4; clear hb4)
            | ((with_reducible refine (CQ.out _ HD2.out).mono ?_); rintro e w4 ⟨⟨y1, n1, y2, n2, rfl, kc, hy⟩, g4, hb4⟩; have t4 := (Zb.new wB.drew).next hb4; clear hb4))
        | (go_at_call 19; first
            | ((with_reducible refine (CD.out w4 g4 y1 n1 y2 n2 kc hy).mono ?_); rintro e w5 ⟨⟨z1, l1, z2, l2, rfl, hc, hz⟩, g5, hb5⟩; first | (obtain ⟨k0, k1, k2, k3, -⟩ := t4.next hb5) | skip)
            | ((with_reducible refine (CD.out (w4.alloc (.cells #[.slice none 0 0, .slice none 0 0] 25)) (g4.alloc g4.size _) y1 n1 y2 n2 kc (hy.next (one_alloc _ _))).mono ?_); rintro e w5 ⟨⟨z1, l1, z2, l2, rfl, hc, hz⟩, g5, hb5⟩; obtain ⟨k0, k1, k2, k3, -⟩ := (Zb.new w4).next hb5)))
    all_goals
      go_wp2
      go_meet
    all_goals
      case rel =>
        first
          | exact ⟨_, _, _, _, _, rfl, rfl, var_new g5 hz hc⟩
          | exact ⟨_, _, _, _, _, rfl, rfl, var_old (Zb.new w4) g4.size g5 hb5 hz hc⟩
          | exact ⟨_, _, _, _, _, rfl, rfl, var_old t4 (Nat.le_refl _) g5 hb5 hz hc⟩
  case rest =>
  obtain ⟨B2, f1, j1, f2, j2, rfl, rfl, g2, V2⟩ := hcut
  generalize wc = wC at *
  have HGC := hide (HGB.out.trans (g2.mono HGB.out.size))
  have HVX2 : Hid (∀ W, Below wC.heap.size wC W → Var (n + 1) W B2 X2 (.slice f1 SA j1) (.slice f2 CA j2)) := fun W h => V2.next h
  have HVC : Hid (∀ W, Below wC.heap.size wC W → Var (n + 1) W w.heap.size x (.slice a1 SA k1) (.slice a2 CA k2)) := fun W h => HV.out W (HGC.out.trans (h.mono HGC.out.size))
  clear CQ CD KS g2 V2 HVX1 HGB
  have CQ : Hid (∀ W, Below wC.heap.size wC W → _) := fun W h => atom_at n (m + k) wC W h
  have CD : Hid (∀ W, Below wC.heap.size wC W → ∀ y1 n1 y2 n2, Caps (.agg #[.slice y1 0 n1, .slice y2 1 n2]) → ArIn (n + 1) 0 W (atomA (m + k)) (.agg #[.slice y1 0 n1, .slice y2 1 n2]) → _) := fun W h y1 n1 y2 n2 kc hy => dy_at h (HDY.out hy (HVC.out W h).ar (chk_atom _) HCH.out kc (HVC.out W h).cap) HX2.out ((congrArg List.length HS2.out.1).trans HSC.out.1) (HS2.out.2.trans HSC.out.2)
  have KS : Hid (∀ W, Below wC.heap.size wC W → (Below wC.heap.size wC W ∧ W.cell? ⟨w.heap.size, 0, none⟩ = some (.slice a1 SA k1) ∧ W.cell? ⟨w.heap.size, 1, none⟩ = some (.slice a2 CA k2))) := fun W h => ⟨h, (HVC.out W h).c0, (HVC.out W h).c1⟩
  go_wp2
  go_cut [14, 15] from 47 to 58 (fun sx sy wx => ∃ B z1 l1 z2 l2, sx = .pointer (some ⟨B, 0, none⟩) ∧ sy = .int .i64 0 ∧ Below wC.heap.size wC wx ∧ Var (n + 1) wx B X2 (.slice z1 SA l1) (.slice z2 CA l2))
  case first =>
    have HD0 : Hid (Below wC.heap.size wC wC.drew) := (Below.refl _ _).drew
    have HD1 : Hid (Below wC.heap.size wC (wC.alloc (.cells #[.slice none 0 0, .slice none 0 0] 25)).drew) := (one_alloc _ _).drew
    have HD2 : Hid (Below wC.heap.size wC (wC.drew.alloc (.cells #[.slice none 0 0, .slice none 0 0] 25))) := (Below.refl _ _).drew.alloc (Nat.le_refl _) _
    have HAL : Hid (∀ W o, Below wC.heap.size wC W → Below wC.heap.size wC (W.alloc o)) := fun W o h => h.alloc h.size o
    have HSET : Hid (∀ W b u v, Below wC.heap.size wC W → wC.heap.size ≤ b → Below wC.heap.size wC ((W.setCell ⟨b, 0, none⟩ u).setCell ⟨b, 1, none⟩ v)) := fun W b u v h hb => (h.setCell (p := ⟨b, 0, none⟩) hb u).setCell (p := ⟨b, 1, none⟩) hb v
    have HLE : Hid (wC.heap.size ≤ wC.heap.size) := Nat.le_refl _
    go_region_held3 (fun W => Below wC.heap.size wC W ∧ W.cell? ⟨w.heap.size, 0, none⟩ = some (.slice a1 SA k1) ∧ W.cell? ⟨w.heap.size, 1, none⟩ = some (.slice a2 CA k2))
      (first | with_reducible exact KS.out _ HD0.out | with_reducible exact KS.out _ HD1.out | with_reducible exact KS.out _ HD2.out | with_reducible exact KS.out _ (by with_reducible assumption) | with_reducible exact KS.out _ (HAL.out _ _ (by with_reducible assumption)) | with_reducible exact KS.out _ (HSET.out _ _ _ _ (by with_reducible assumption) (by with_reducible assumption)) | with_reducible exact KS.out _ (HSET.out _ _ _ _ (by with_reducible assumption) HLE.out))
      (first
        | (go_at_call 22; first
            | ((with_reducible refine (CQ.out _ HD0.out).mono ?_); rintro e w4 ⟨⟨y1, n1, y2, n2, rfl, kc, hy⟩, g4, hb4⟩; have s4 := g4.size; clear hb4)
            | ((with_reducible refine (CQ.out _ HD1.out).mono ?_); rintro e w4 ⟨⟨y1, n1, y2, n2, rfl, kc, hy⟩, g4, hb4⟩; have t4 := (Zb.new wC).drew.next hb4; clear hb4)
            | ((with_reducible refine (CQ.out _ HD2.out).mono ?_); rintro e w4 ⟨⟨y1, n1, y2, n2, rfl, kc, hy⟩, g4, hb4⟩; have t4 := (Zb.new wC.drew).next hb4; clear hb4))
        | (go_at_call 19; first
            | ((with_reducible refine (CD.out w4 g4 y1 n1 y2 n2 kc hy).mono ?_); rintro e w5 ⟨⟨z1, l1, z2, l2, rfl, hc, hz⟩, g5, hb5⟩; first | (obtain ⟨k0, k1, k2, k3, -⟩ := t4.next hb5) | skip)
            | ((with_reducible refine (CD.out (w4.alloc (.cells #[.slice none 0 0, .slice none 0 0] 25)) (g4.alloc g4.size _) y1 n1 y2 n2 kc (hy.next (one_alloc _ _))).mono ?_); rintro e w5 ⟨⟨z1, l1, z2, l2, rfl, hc, hz⟩, g5, hb5⟩; obtain ⟨k0, k1, k2, k3, -⟩ := (Zb.new w4).next hb5)))
    all_goals
      go_wp2
      go_meet
    all_goals
      case rel =>
        first
          | exact ⟨_, _, _, _, _, rfl, rfl, var_new g5 hz hc⟩
          | exact ⟨_, _, _, _, _, rfl, rfl, var_old (Zb.new w4) g4.size g5 hb5 hz hc⟩
          | exact ⟨_, _, _, _, _, rfl, rfl, var_old t4 (Nat.le_refl _) g5 hb5 hz hc⟩
  case rest =>
  obtain ⟨B3, h1, i1, h2, i2, rfl, rfl, g3, V3⟩ := hcut
  generalize wc = wD at *
  have HGD := hide (HGC.out.trans (g3.mono HGC.out.size))
  have V2 := HVX2.out wD g3
  have HV23 : Hid (∀ W, Below wD.heap.size wD W → Var (n + 1) W B2 X2 (.slice f1 SA j1) (.slice f2 CA j2) ∧ Var (n + 1) W B3 X2 (.slice h1 SA i1) (.slice h2 CA i2)) := fun W h => ⟨V2.next h, V3.next h⟩
  have u0 := V2.c0
  have u1 := V2.c1
  have v0 := V3.c0
  have v1 := V3.c1
  have CS := rsame_any V2.ar V3.ar
  rw [cmpA_self] at CS
  clear CQ CD KS g3 V3 V2 HVX2 HGC HVC
  go_wp2_with fail
  clear u0 u1 v0 v1
  refine CS.mono ?_
  rintro e wE ⟨rfl, hbE⟩
  simp only [decide_true]
  have HGE := hide (HGD.out.trans (hbE.mono HGD.out.size))
  have VB := HV.out wE HGE.out
  have t0 := VB.c0
  have t1 := VB.c1
  have HVE := hide (HV23.out wE hbE)
  clear CS hbE HV23
  by_cases hS0 : SA = 0
  · have hSb : ((SA : Int) == 0) = true := by simp [hS0]
    have u0 := HVE.out.1.c0
    have u1 := HVE.out.1.c1
    have v0 := HVE.out.2.c0
    have v1 := HVE.out.2.c1
    have CS := rsame_any HVE.out.1.ar HVE.out.2.ar
    rw [cmpA_self] at CS
    clear VB hS0
    go_wp2_with fail
    clear t0 t1 u0 u1 v0 v1
    refine CS.mono ?_
    rintro e wF ⟨rfl, hbF⟩
    simp only [decide_true]
    have HGF := hide (HGE.out.trans (hbF.mono HGE.out.size))
    have CW := pworks_any wF
    clear CS hbF
    go_wp2_with fail
    refine CW.mono ?_
    rintro e wz ⟨rfl, hbz⟩
    go_wp2
    go_ret
    exact ⟨rfl, HW.out _ _ HGF.out hbz⟩
  have hSb : ((SA : Int) == 0) = false := by simp; omega
  obtain ⟨d1, d2, d3, d4, hd, RX, -⟩ := VB.ar.form
  simp only [Value.agg.injEq, Array.mk.injEq, List.cons.injEq, Value.slice.injEq, and_true] at hd
  obtain ⟨⟨rfl, -, -⟩, -⟩ := hd
  have hlen : 0 < x.shape.length := by rw [HSC.out.1]; omega
  obtain ⟨pb, po, rfl, hpb, hp0⟩ := row_at RX (j := 0) hlen
  obtain ⟨pb', po', he, -, hp1⟩ := row_at RX (j := x.shape.length - 1) (by omega)
  simp only [Option.some.injEq, Addr.mk.injEq, and_true] at he
  obtain ⟨rfl, rfl⟩ := he
  rw [HSC.out.1] at hp1
  have l8 := (chk_len HCH.out).1
  rw [HSC.out.1] at l8
  have hsub : (SA : Int) - 1 = ((SA - 1 : Nat) : Int) := by omega
  rw [Nat.add_zero] at hp0
  obtain ⟨K0, hK0⟩ : ∃ z, x.shape[0]?.getD 0 = z := ⟨_, rfl⟩
  obtain ⟨K1, hK1⟩ : ∃ z, x.shape[SA - 1]?.getD 0 = z := ⟨_, rfl⟩
  rw [hK0] at hp0
  rw [hK1] at hp1
  have HKK : Hid ((if last then K1 else K0) = gI x.shape (axL last x)) := by
    unfold Hid axL
    rw [HSC.out.1]
    cases last
    · exact hK0.symm
    · exact hK1.symm
  clear RX VB hK0 hK1 HVE hpb
  go_upto_if 103 with fail
  go_cut [16] from 99 to 111 (fun s wx => s = .int .i64 (if last then K1 else K0) ∧ wx = wE)
  case first =>
    cases last with
    | false =>
      go_wp2
      go_meet
      exact ⟨rfl, rfl⟩
    | true =>
      go_wp2
      go_meet
      exact ⟨rfl, rfl⟩
  case rest =>
  obtain ⟨rfl, rfl⟩ := hcut
  rw [HKK.out]
  obtain ⟨KK, hKK⟩ : ∃ z, gI x.shape (axL last x) = z := ⟨_, rfl⟩
  rw [hKK]
  have hX5 : rotR (atomA KK) x (axL last x) = (x, 0) := by rw [← hKK]; exact rot_full HCH.out (HAX.out hlen)
  have HX5 := hide hX5
  have HVF : Hid (∀ W, Below wc.heap.size wc W → Var (n + 1) W w.heap.size x (.slice (some ⟨pb, po, none⟩) SA k1) (.slice a2 CA k2)) := fun W h => HV.out W (HGE.out.trans (h.mono HGE.out.size))
  clear hX5 hKK hp0 hp1 hlen t0 t1 HKK
  generalize wc = wF at *
  have CQ : Hid (∀ W, Below wF.heap.size wF W → _) := fun W h => atom_at n KK wF W h
  have CD : Hid (∀ W, Below wF.heap.size wF W → ∀ y1 n1 y2 n2, Caps (.agg #[.slice y1 0 n1, .slice y2 1 n2]) → ArIn (n + 1) 0 W (atomA KK) (.agg #[.slice y1 0 n1, .slice y2 1 n2]) → _) := fun W h y1 n1 y2 n2 kc hy => dy_at h (HDY.out hy (HVF.out W h).ar (chk_atom _) HCH.out kc (HVF.out W h).cap) HX5.out HSC.out.1 HSC.out.2
  have KS : Hid (∀ W, Below wF.heap.size wF W → (Below wF.heap.size wF W ∧ W.cell? ⟨w.heap.size, 0, none⟩ = some (.slice (some ⟨pb, po, none⟩) SA k1) ∧ W.cell? ⟨w.heap.size, 1, none⟩ = some (.slice a2 CA k2))) := fun W h => ⟨h, (HVF.out W h).c0, (HVF.out W h).c1⟩
  go_wp2
  go_cut [17, 18] from 112 to 119 (fun sx sy wx => ∃ B z1 l1 z2 l2, sx = .pointer (some ⟨B, 0, none⟩) ∧ sy = .int .i64 0 ∧ Below wF.heap.size wF wx ∧ Var (n + 1) wx B x (.slice z1 SA l1) (.slice z2 CA l2))
  case first =>
    have HD0 : Hid (Below wF.heap.size wF wF.drew) := (Below.refl _ _).drew
    have HD1 : Hid (Below wF.heap.size wF (wF.alloc (.cells #[.slice none 0 0, .slice none 0 0] 25)).drew) := (one_alloc _ _).drew
    have HD2 : Hid (Below wF.heap.size wF (wF.drew.alloc (.cells #[.slice none 0 0, .slice none 0 0] 25))) := (Below.refl _ _).drew.alloc (Nat.le_refl _) _
    have HAL : Hid (∀ W o, Below wF.heap.size wF W → Below wF.heap.size wF (W.alloc o)) := fun W o h => h.alloc h.size o
    have HSET : Hid (∀ W b u v, Below wF.heap.size wF W → wF.heap.size ≤ b → Below wF.heap.size wF ((W.setCell ⟨b, 0, none⟩ u).setCell ⟨b, 1, none⟩ v)) := fun W b u v h hb => (h.setCell (p := ⟨b, 0, none⟩) hb u).setCell (p := ⟨b, 1, none⟩) hb v
    have HLE : Hid (wF.heap.size ≤ wF.heap.size) := Nat.le_refl _
    go_region_held3 (fun W => Below wF.heap.size wF W ∧ W.cell? ⟨w.heap.size, 0, none⟩ = some (.slice (some ⟨pb, po, none⟩) SA k1) ∧ W.cell? ⟨w.heap.size, 1, none⟩ = some (.slice a2 CA k2))
      (first | with_reducible exact KS.out _ HD0.out | with_reducible exact KS.out _ HD1.out | with_reducible exact KS.out _ HD2.out | with_reducible exact KS.out _ (by with_reducible assumption) | with_reducible exact KS.out _ (HAL.out _ _ (by with_reducible assumption)) | with_reducible exact KS.out _ (HSET.out _ _ _ _ (by with_reducible assumption) (by with_reducible assumption)) | with_reducible exact KS.out _ (HSET.out _ _ _ _ (by with_reducible assumption) HLE.out))
      (first
        | (go_at_call 22; first
            | ((with_reducible refine (CQ.out _ HD0.out).mono ?_); rintro e w4 ⟨⟨y1, n1, y2, n2, rfl, kc, hy⟩, g4, hb4⟩; have s4 := g4.size; clear hb4)
            | ((with_reducible refine (CQ.out _ HD1.out).mono ?_); rintro e w4 ⟨⟨y1, n1, y2, n2, rfl, kc, hy⟩, g4, hb4⟩; have t4 := (Zb.new wF).drew.next hb4; clear hb4)
            | ((with_reducible refine (CQ.out _ HD2.out).mono ?_); rintro e w4 ⟨⟨y1, n1, y2, n2, rfl, kc, hy⟩, g4, hb4⟩; have t4 := (Zb.new wF.drew).next hb4; clear hb4))
        | (go_at_call 19; first
            | ((with_reducible refine (CD.out w4 g4 y1 n1 y2 n2 kc hy).mono ?_); rintro e w5 ⟨⟨z1, l1, z2, l2, rfl, hc, hz⟩, g5, hb5⟩; first | (obtain ⟨k0, k1, k2, k3, -⟩ := t4.next hb5) | skip)
            | ((with_reducible refine (CD.out (w4.alloc (.cells #[.slice none 0 0, .slice none 0 0] 25)) (g4.alloc g4.size _) y1 n1 y2 n2 kc (hy.next (one_alloc _ _))).mono ?_); rintro e w5 ⟨⟨z1, l1, z2, l2, rfl, hc, hz⟩, g5, hb5⟩; obtain ⟨k0, k1, k2, k3, -⟩ := (Zb.new w4).next hb5)))
    all_goals
      go_wp2
      go_meet
    all_goals
      case rel =>
        first
          | exact ⟨_, _, _, _, _, rfl, rfl, var_new g5 hz hc⟩
          | exact ⟨_, _, _, _, _, rfl, rfl, var_old (Zb.new w4) g4.size g5 hb5 hz hc⟩
          | exact ⟨_, _, _, _, _, rfl, rfl, var_old t4 (Nat.le_refl _) g5 hb5 hz hc⟩
  case rest =>
  obtain ⟨B4, h1, i1, h2, i2, rfl, rfl, g3, V3⟩ := hcut
  have VX := HVF.out wc g3
  have u0 := VX.c0
  have u1 := VX.c1
  have v0 := V3.c0
  have v1 := V3.c1
  have CS := rsame_any VX.ar V3.ar
  rw [cmpA_self] at CS
  have HGG := hide (HGE.out.trans (g3.mono HGE.out.size))
  clear CQ CD KS g3 V3 VX HVF
  go_wp2_with fail
  clear u0 u1 v0 v1
  refine CS.mono ?_
  rintro e wG ⟨rfl, hbG⟩
  simp only [decide_true]
  have HGH := hide (HGG.out.trans (hbG.mono HGG.out.size))
  have CW := pworks_any wG
  clear CS hbG
  go_wp2_with fail
  refine CW.mono ?_
  rintro e wz ⟨rfl, hbz⟩
  go_wp2
  go_ret
  exact ⟨rfl, HW.out _ _ HGH.out hbz⟩
set_option maxRecDepth 100000 in
theorem lifted (os : Os) (started : os.Started) (H : Type) (enc : TypeId × Value → H) :
    ReturnsInHanded {} Try.checked os 7 .any (Rows.pickRotatesSpec.pre6 enc Try.prog Try.f7 Rows.pickRotatesRow.domain false) (Rows.pickRotatesSpec.post enc Try.prog Try.f7 false true false false) := by
  refine returnsInHanded_of_change_sized (C := Try.checked) own started (by kernel_rfl) Try.func7
    (ChangeSpec.witness6 (enc := enc) (C := Try.checked) false ⟨#[], #[.agg #[.slice none 0 0, .slice none 0 0], .int .i32 0, .int .i32 0, .bool false], []⟩ 8 (by kernel_rfl) (by kernel_rfl) (by kernel_rfl) (by kernel_rfl)) ?_
  intro W base args ds gs before hval0 hW _ hsz0 _
  have hsz : (DataW.weightsEach Try.prog (Try.f7.params.toList ++ Rows.pickRotatesSpec.plain.varTypes Try.prog) (ds ++ gs)).all (· ≤ reachBytes) = true := hsz0
  clear hsz0
  have hval : ∀ (j : Nat) t v, Try.f7.params[j]? = some t → args[j]? = some v → Value.okWide Try.prog W .any base t v := hval0
  have hW' := hW
  obtain ⟨p, q, hA0, hV, rfl, hfz, hnd⟩ := hW
  have hA : DataW.TrodAll enc Try.prog W 0 (fun _ => true) true Try.f7.params.toList args.toList ds p := hA0
  rw [Try.params7] at hA hval hsz
  obtain ⟨v0, vs0, d0, ds0, p0, q0, hargs, rfl, rfl, h0, r0⟩ := trodAll_cons hA
  obtain ⟨v1, vs1, d1, ds1, p1, q1, rfl, rfl, rfl, h1, r1⟩ := trodAll_cons r0
  obtain ⟨v2, vs2, d2, ds2, p2, q2, rfl, rfl, rfl, h2, r2⟩ := trodAll_cons r1
  obtain ⟨v3, vs3, d3, ds3, p3, q3, rfl, rfl, rfl, h3, r3⟩ := trodAll_cons r2
  obtain ⟨rfl, rfl, rfl⟩ := trodAll_nil r3
  obtain rfl : args = #[v0, v1, v2, v3] := by cases args; simp_all
  obtain ⟨rfl, rfl⟩ := trodVars_none hV
  have k0 := h0
  have lt0 : ∀ x ∈ p0, x.block < W.heap.size := by obtain ⟨m, hm⟩ := k0; exact DataW.trod_lt m _ _ _ hm
  obtain ⟨n0, y0, c00, c01, hc0, w0⟩ := arr_of hsz (j := 0) rfl rfl h0
  obtain rfl := agg_two hc0
  obtain ⟨x1, rfl, rfl, rfl, w1⟩ := open_int Try.underlying21 (hval 1 21 v1 rfl rfl) h1
  obtain ⟨x2, rfl, rfl, rfl, w2⟩ := open_int Try.underlying21 (hval 2 21 v2 rfl rfl) h2
  obtain ⟨x3, rfl, rfl, rfl⟩ := open_bool Try.underlying4 (hval 3 4 v3 rfl rfl) h3
  clear hA0 hval0
  refine (walk n0 y0 c00 c01 x1 x2 x3 W w0.1 (arr_caps h0) (bounds_i32 w1) (bounds_i32 w2)).mono fun e W' ⟨he, bel⟩ => ?_
  subst he
  exact ⟨_, rfl, _, _, _, [], _, [], hW', trodAll_mk1 (shut_bool Try.underlying4 _), (trodAll_cons_mk (Below.trod laidOut (by kernel_rfl) (of_decide_eq_true (by kernel_rfl)) k0 bel lt0) (trodAll_cons_mk (shut_int Try.underlying21 w1) (trodAll_cons_mk (shut_int Try.underlying21 w2) (trodAll_cons_mk (shut_bool Try.underlying4 _) trodAll_mk0)))), rfl, bel.frame _, fun h => by cases h⟩
theorem over : Rows.pickRotatesRow.holds Try.pinned (OpenSpec.ofChange Rows.pickRotatesSpec) :=
  OpenClaim.holds_of_wide 7 Try.f7 rfl rfl rfl rfl rfl rfl rfl ⟨rfl, rfl, rfl, rfl, rfl⟩ rfl rfl rfl rfl rfl (by kernel_rfl) Try.func7 (by kernel_rfl)
    (of_decide_eq_true (by kernel_rfl)) (by unfold Func.isWrapper; first | (rw [if_pos (by decide +kernel)]; kernel_rfl) | (rw [if_neg (by decide +kernel)]; exact ⟨rfl, rfl⟩))
    (fun os started H enc _ => lifted os started H enc)
theorem proved : Rows.PickRotatesSaid := over
end Go.Proofs.Ytmjncdhahdpplaa.pickRotates
namespace Go.Proofs.Ytmjncdhahdpplaa
theorem pickRotates_holds : Rows.PickRotatesSaid := pickRotates.proved
#print axioms pickRotates_holds
end Go.Proofs.Ytmjncdhahdpplaa
