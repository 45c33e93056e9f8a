/-
  For all functions and arrays the statement PickTwo holds: any function of two arguments that takes pieces, of any two arrays, is what the chapter says; no condition (the given row speaks of what a machine of 64 bits can hold).
-/
import Derived.Test.YtmjncdhahdpplaaM8
import Derived.Test.YtmjncdhahdpplaaChecked
import GoSem.Claim
import GoSem.ClaimJoined
import GoSem.ClaimMapViews
import Derived.JoinedTies
import Derived.KernelRfl
import Derived.WalkKit
import Derived.ProofKit
import Derived.Below
import Derived.Deep.OwnRows
import Derived.Deep.QuietTactic
import Derived.BigQuiet
import Derived.Deep.RegionWith
import Derived.Laws.MakeOwn
import Derived.Deep.RegionHeld3
import Derived.Laws.IdiomCopy
import Derived.Deep.Cut
import Derived.Deep.LoopGhost
import Derived.OpenShut
import Derived.ChangeOld
import Derived.SizedLaws
import Derived.Deep.Slices
import Derived.Deep.Strs
import Derived.Laws.AppendOwn
import Derived.BigFrame
import Derived.Deep.CutRange
import Derived.Deep.RegionLaw
import Derived.Laws.OwnMore
import Derived.Lib.SliceRun
import Derived.Laws.CopyOwn
import Derived.Lib.Overlaps
import Derived.Lib.Mul64
namespace Go.Proofs.Ytmjncdhahdpplaa.pickTwo
open Go.ChangeShapes Go.WideShapes Go.ChangeAt Go.RowKit
set_option linter.unusedVariables false
set_option maxRecDepth 100000
theorem snd_num {x : Ar} (h : Snd x) : I64 (numR x).1 := by
  unfold numR
  by_cases h1 : 0 < x.shape.length
  · rw [if_pos h1]; exact ⟨by show (-9223372036854775808 : Int) ≤ 0; omega, by show (0 : Int) ≤ _; omega⟩
  rw [if_neg h1]
  by_cases h2 : ¬ (cAt x.cells 0).1 = 0
  · rw [if_pos h2]; exact ⟨by show (-9223372036854775808 : Int) ≤ 0; omega, by show (0 : Int) ≤ _; omega⟩
  rw [if_neg h2]
  by_cases h3 : 0 < x.cells.length
  · have hm : cAt x.cells 0 ∈ x.cells := by unfold cAt; rw [List.getElem?_eq_getElem h3]; exact List.getElem_mem h3
    exact (h.cell hm).2.1
  · have : x.cells = [] := List.eq_nil_of_length_eq_zero (by omega)
    rw [this]; exact ⟨by show (-9223372036854775808 : Int) ≤ 0; omega, by show (0 : Int) ≤ _; omega⟩
set_option maxHeartbeats 16000000 in
theorem walk (op : Int) (m1 : Nat) (x : Ar) (c0 c1 : Value) (m2 : Nat) (y : Ar) (d0 d1 : Value) (w : World) (hop : I64 op) (hx : ArIn m1 0 w x (.agg #[c0, c1])) (hcap : Caps (.agg #[c0, c1])) (hsx : Snd x) (hy : ArIn m2 0 w y (.agg #[d0, d1])) (hcapy : Caps (.agg #[d0, d1])) (hsy : Snd y) :
    Calls Try.prog 5 #[.int .i64 op, .agg #[c0, c1], .agg #[d0, d1]] w fun e w' => e = .returned (.bool true) ∧ Below w.heap.size w w' := by
  obtain ⟨n, hn⟩ : ∃ n, m1 + m2 + 1 = n + 1 := ⟨_, rfl⟩
  replace hx : ArIn (n + 1) 0 w x (.agg #[c0, c1]) := hx.deep (by omega)
  replace hy : ArIn (n + 1) 0 w y (.agg #[d0, d1]) := hy.deep (by omega)
  clear hn
  obtain ⟨a1, k1, a2, k2, hv, -⟩ := hx.form
  simp only [Value.agg.injEq, Array.mk.injEq, List.cons.injEq, and_true] at hv
  obtain ⟨rfl, rfl⟩ := hv
  obtain ⟨b1, j1, b2, j2, hv, -⟩ := hy.form
  simp only [Value.agg.injEq, Array.mk.injEq, List.cons.injEq, and_true] at hv
  obtain ⟨rfl, rfl⟩ := hv
  obtain ⟨SA, hSA⟩ : ∃ SA, x.shape.length = SA := ⟨_, rfl⟩
  obtain ⟨CA, hCA⟩ : ∃ CA, x.cells.length = CA := ⟨_, rfl⟩
  obtain ⟨SB, hSB⟩ : ∃ SB, y.shape.length = SB := ⟨_, rfl⟩
  obtain ⟨CB, hCB⟩ : ∃ CB, y.cells.length = CB := ⟨_, rfl⟩
  simp only [hSA, hCA, hSB, hCB] at hx hcap hy hcapy ⊢
  obtain ⟨b0, V0⟩ := var_new (W3 := w) (Below.refl _ _) hx hcap
  obtain ⟨b00, U1⟩ := var_new (W3 := w) b0 (hy.next b0) hcapy
  have z1 : (w.alloc (.cells #[.slice a1 SA k1, .slice a2 CA k2] 25)).heap.size = w.heap.size + 1 := by simp
  rw [z1] at U1
  have V1 := V0.next (one_alloc _ (.cells #[.slice b1 SB j1, .slice b2 CB j2] 25))
  obtain ⟨W1, e1⟩ : ∃ W1, (w.alloc (.cells #[.slice a1 SA k1, .slice a2 CA k2] 25)).alloc (.cells #[.slice b1 SB j1, .slice b2 CB j2] 25) = W1 := ⟨_, rfl⟩
  rw [e1] at b00 U1 V1
  have q0 := V1.c0
  have q1 := V1.c1
  have HV : Hid (∀ W, Below W1.heap.size W1 W → Var (n + 1) W w.heap.size x (.slice a1 SA k1) (.slice a2 CA k2)) := fun W h => V1.next h
  have HU : Hid (∀ W, Below W1.heap.size W1 W → Var (n + 1) W (w.heap.size + 1) y (.slice b1 SB j1) (.slice b2 CB j2)) := fun W h => U1.next h
  have HW : Hid (∀ W w', Below W1.heap.size W1 W → Below W.heap.size W w' → Below w.heap.size w w') := fun W w' h1 h2 => b00.trans ((h1.trans (h2.mono h1.size)).mono b00.size)
  have C0 := plight_any V1.ar
  have HSC := hide (And.intro hSA hCA)
  clear hx hcap hSA hCA b0 V1 V0 U1 b00 hy hcapy hSB hCB z1
  go_enter Try.func5, Try.ntmps5
  go_wp2_with fail
  clear e1 q0 q1
  refine C0.mono ?_
  rintro e w1 ⟨⟨r, rfl⟩, hb1⟩
  have HG1 := hide hb1
  clear C0 hb1
  cases r with
  | false =>
    have CW := pworks_any w1
    go_wp2_with fail
    refine CW.mono ?_
    rintro e wz ⟨rfl, hbz⟩
    go_wp2
    go_ret
    exact ⟨rfl, HW.out _ _ HG1.out hbz⟩
  | true =>
  have C1 := plight_any (HU.out w1 HG1.out).ar
  have t0 := (HU.out w1 HG1.out).c0
  have t1 := (HU.out w1 HG1.out).c1
  go_wp2_with fail
  clear t0 t1
  refine C1.mono ?_
  rintro e w2 ⟨⟨r, rfl⟩, hb2⟩
  have HG2 := hide (HG1.out.trans (hb2.mono HG1.out.size))
  clear C1 hb2 HG1
  cases r with
  | false =>
    have CW := pworks_any w2
    go_wp2_with fail
    refine CW.mono ?_
    rintro e wz ⟨rfl, hbz⟩
    go_wp2
    go_ret
    exact ⟨rfl, HW.out _ _ HG2.out hbz⟩
  | true =>
  have U2 := HU.out w2 HG2.out
  have V2 := HV.out w2 HG2.out
  have CX := dy_all (op := op) V2.ar U2.ar (pickR op) (fun h1 h2 => pick_any V2.ar U2.ar h1 h2 V2.cap U2.cap (snd_num hsx))
  have HRD : Hid (∀ W, Below W1.heap.size W1 W → Calls Try.prog 20 #[.int .i64 op, .agg #[.slice a1 SA k1, .slice a2 CA k2], .agg #[.slice b1 SB j1, .slice b2 CB j2]] W fun e w' => Gives2Z (n + 1) W (dyR (pickR op) x y).1 (dyR (pickR op) x y).2 W e w') := fun W h => rdyP_any hop (HV.out W h).ar (HU.out W h).ar (Below.refl _ _) (HV.out W h).cap (HU.out W h).cap (snd_num hsx)
  obtain ⟨⟨X, E⟩, hXE⟩ : ∃ p, dyR (pickR op) x y = p := ⟨_, rfl⟩
  rw [hXE] at CX HRD
  simp only at CX HRD
  have t0 := V2.c0
  have t1 := V2.c1
  have s0 := U2.c0
  have s1 := U2.c1
  clear hXE U2 V2
  go_wp2_with fail
  clear t0 t1 s0 s1
  refine CX.mono ?_
  clear CX
  rintro e w5 ⟨⟨v, rfl, kx, hv⟩, hb5⟩
  obtain ⟨f1, i1, f2, i2, rfl, -, -⟩ := hv.form
  obtain ⟨SX, hSX⟩ : ∃ z, X.shape.length = z := ⟨_, rfl⟩
  obtain ⟨CX, hCX⟩ : ∃ z, X.cells.length = z := ⟨_, rfl⟩
  have HSX := hide (And.intro hSX hCX)
  simp only [hSX, hCX] at hv kx ⊢
  obtain ⟨B6, V6⟩ := var_new (W3 := w2) hb5 hv kx
  obtain ⟨W6, e6⟩ : ∃ W6, w5.alloc (.cells #[.slice f1 SX i1, .slice f2 CX i2] 25) = W6 := ⟨_, rfl⟩
  rw [e6] at B6 V6
  have HG6 := hide (HG2.out.trans (B6.mono HG2.out.size))
  have CR := HRD.out W6 HG6.out
  have HV6 := hide V6
  have V2 := HV.out W6 HG6.out
  have U2 := HU.out W6 HG6.out
  have t0 := V2.c0
  have t1 := V2.c1
  have s0 := U2.c0
  have s1 := U2.c1
  clear hv kx hb5 B6 V6 hSX hCX HG2 HRD V2 U2
  go_wp2_with fail
  clear e6 t0 t1 s0 s1
  refine CR.mono ?_
  clear CR
  rintro e w7 ⟨⟨v, rfl, hv0⟩, hb7⟩
  have hv := hv0 w7 hb7 (Keeps.refl _ _)
  obtain ⟨z1, l1, z2, l2, rfl, -, -⟩ := hv.form
  simp only [HSX.out.1, HSX.out.2] at hv ⊢
  obtain ⟨W8, e8⟩ : ∃ W8, w7.alloc (.cells #[.slice z1 SX l1, .slice z2 CX l2] 25) = W8 := ⟨_, rfl⟩
  have B8 : Below w7.heap.size w7 W8 := by rw [← e8]; exact one_alloc _ _
  have B68 : Below W6.heap.size W6 W8 := hb7.trans (B8.mono hb7.size)
  have z0 : W8.cell? ⟨w7.heap.size, 0, none⟩ = some (.slice z1 SX l1) := by rw [← e8]; exact cell_new0 w7 _ 25 0 _ rfl
  have z1' : W8.cell? ⟨w7.heap.size, 1, none⟩ = some (.slice z2 CX l2) := by rw [← e8]; exact cell_new0 w7 _ 25 1 _ rfl
  have V8 := HV6.out.next B68
  have y0 := V8.c0
  have y1' := V8.c1
  have HG8 := hide (HG6.out.trans (B68.mono HG6.out.size))
  have C4 := rsame_any V8.ar (hv.next B8)
  rw [cmpA_self] at C4
  clear hv hv0 hb7 B8 B68 HG6 V8
  go_wp2_with fail
  clear e8 z0 z1' y0 y1'
  refine C4.mono ?_
  rintro e w9 ⟨rfl, hb9⟩
  have HG9 := hide (HG8.out.trans (hb9.mono HG8.out.size))
  have CW := pworks_any w9
  clear C4 hb9
  simp only [decide_true]
  go_wp2_with fail
  refine CW.mono ?_
  rintro e wa ⟨rfl, hba⟩
  go_wp2
  go_ret
  exact ⟨rfl, HW.out _ _ HG9.out hba⟩
set_option maxRecDepth 100000 in
theorem lifted (os : Os) (started : os.Started) (H : Type) (enc : TypeId × Value → H) :
    ReturnsInHanded {} Try.checked os 5 .any (Rows.pickTwoSpec.pre6 enc Try.prog Try.f5 Rows.pickTwoRow.domain false) (Rows.pickTwoSpec.post enc Try.prog Try.f5 false true false false) := by
  refine returnsInHanded_of_change_sized (C := Try.checked) own started (by kernel_rfl) Try.func5
    (ChangeSpec.witness6 (enc := enc) (C := Try.checked) false ⟨#[], #[.int .i64 0, .agg #[.slice none 0 0, .slice none 0 0], .agg #[.slice none 0 0, .slice none 0 0]], []⟩ 8 (by kernel_rfl) (by kernel_rfl) (by kernel_rfl) (by kernel_rfl)) ?_
  intro W base args ds gs before hval0 hW _ hsz0 _
  have hsz : (DataW.weightsEach Try.prog (Try.f5.params.toList ++ Rows.pickTwoSpec.plain.varTypes Try.prog) (ds ++ gs)).all (· ≤ reachBytes) = true := hsz0
  clear hsz0
  have hval : ∀ (j : Nat) t v, Try.f5.params[j]? = some t → args[j]? = some v → Value.okWide Try.prog W .any base t v := hval0
  have hW' := hW
  obtain ⟨p, q, hA0, hV, rfl, hfz, hnd⟩ := hW
  have hA : DataW.TrodAll enc Try.prog W 0 (fun _ => true) true Try.f5.params.toList args.toList ds p := hA0
  rw [Try.params5] at hA hval hsz
  obtain ⟨v0, vs0, d0, ds0, p0, q0, hargs, rfl, rfl, h0, r0⟩ := trodAll_cons hA
  obtain ⟨v1, vs1, d1, ds1, p1, q1, rfl, rfl, rfl, h1, r1⟩ := trodAll_cons r0
  obtain ⟨v2, vs2, d2, ds2, p2, q2, rfl, rfl, rfl, h2, r2⟩ := trodAll_cons r1
  obtain ⟨rfl, rfl, rfl⟩ := trodAll_nil r2
  obtain rfl : args = #[v0, v1, v2] := by cases args; simp_all
  obtain ⟨rfl, rfl⟩ := trodVars_none hV
  obtain ⟨x0, rfl, rfl, rfl, w0⟩ := open_int Try.underlying3 (hval 0 3 v0 rfl rfl) h0
  have k1 := h1
  have lt1 : ∀ x ∈ p1, x.block < W.heap.size := by obtain ⟨m, hm⟩ := k1; exact DataW.trod_lt m _ _ _ hm
  obtain ⟨n1, y1, c10, c11, hc1, w1⟩ := arr_of hsz (j := 1) rfl rfl h1
  obtain rfl := agg_two hc1
  have k2 := h2
  have lt2 : ∀ x ∈ p2, x.block < W.heap.size := by obtain ⟨m, hm⟩ := k2; exact DataW.trod_lt m _ _ _ hm
  obtain ⟨n2, y2, c20, c21, hc2, w2⟩ := arr_of hsz (j := 2) rfl rfl h2
  obtain rfl := agg_two hc2
  clear hA0 hval0
  refine (walk x0 n1 y1 c10 c11 n2 y2 c20 c21 W (bounds_i64 w0) w1.1 (arr_caps h1) w1.2 w2.1 (arr_caps h2) w2.2).mono fun e W' ⟨he, bel⟩ => ?_
  subst he
  exact ⟨_, rfl, _, _, _, [], _, [], hW', trodAll_mk1 (shut_bool Try.underlying4 _), (trodAll_cons_mk (shut_int Try.underlying3 w0) (trodAll_cons_mk (Below.trod laidOut (by kernel_rfl) (of_decide_eq_true (by kernel_rfl)) k1 bel lt1) (trodAll_cons_mk (Below.trod laidOut (by kernel_rfl) (of_decide_eq_true (by kernel_rfl)) k2 bel lt2) trodAll_mk0))), rfl, bel.frame _, fun h => by cases h⟩
theorem over : Rows.pickTwoRow.holds Try.pinned (OpenSpec.ofChange Rows.pickTwoSpec) :=
  OpenClaim.holds_of_wide 5 Try.f5 rfl rfl rfl rfl rfl rfl rfl ⟨rfl, rfl, rfl, rfl, rfl⟩ rfl rfl rfl rfl rfl (by kernel_rfl) Try.func5 (by kernel_rfl)
    (of_decide_eq_true (by kernel_rfl)) (by unfold Func.isWrapper; first | (rw [if_pos (by decide +kernel)]; kernel_rfl) | (rw [if_neg (by decide +kernel)]; exact ⟨rfl, rfl⟩))
    (fun os started H enc _ => lifted os started H enc)
theorem proved : Rows.PickTwoSaid := over
end Go.Proofs.Ytmjncdhahdpplaa.pickTwo
namespace Go.Proofs.Ytmjncdhahdpplaa
theorem pickTwo_holds : Rows.PickTwoSaid := pickTwo.proved
#print axioms pickTwo_holds
end Go.Proofs.Ytmjncdhahdpplaa
