/-
  For all programs the statement CoreChecks holds: whether a program may be, and how many nodes it has, is what the document says; no condition (the given row speaks of what a machine of 64 bits can hold).
-/
import Derived.Test.YtkgpoibnilgaeaaCoS
import Derived.Test.YtkgpoibnilgaeaaCoT
import Derived.Deep.RegionHeld3
import Derived.Deep.Cut
import Derived.Deep.CutRange
import Derived.ChangeMaps5
namespace Go.Proofs.Ytkgpoibnilgaeaa.coreChecks
open Go.ChangeShapes Go.WideShapes Go.ChangeAt Go.RowKit
set_option linter.unusedVariables false
set_option linter.unusedSimpArgs false
set_option maxRecDepth 100000
set_option maxHeartbeats 4000000 in
theorem walk (m n : Nat) (x : Nd) (v0 v1 v2 v3 v4 v5 v6 : Value) (w : World) (hx : NdIn m n 0 w x (.agg #[v0, v1, v2, v3, v4, v5, v6])) :
    Calls Try.prog 3 #[.agg #[v0, v1, v2, v3, v4, v5, v6]] w fun e w' => e = .returned (.bool true) ∧ Below w.heap.size w w' := by
  have hxx := hx
  obtain ⟨m', hm', a1, c1, a2, c2, ak, ck, hv, hA, hl, hs, hK⟩ := hx.letters
  simp only [Value.agg.injEq, Array.mk.injEq, List.cons.injEq, and_true] at hv
  obtain ⟨rfl, rfl, rfl, rfl, rfl, rfl, rfl⟩ := hv
  have X0 := hide (box7_new w x.kind x.op x.name (.slice a1 x.lit.shape.length c1) (.slice a2 x.lit.cells.length c2) (.slice ak x.kids.length ck) x.pos)
  have hw0 := X0.out.1
  have HLI := hide (fun wr (hwr : Below w.heap.size w wr) => light8 (hxx.next hwr))
  have HCP := hide (fun wr (hwr : Below w.heap.size w wr) => check10 m n x 0 _ wr (hxx.next hwr))
  have HCD := hide (fun (hsz : sizeN m x ≤ 3000) wr (hwr : Below w.heap.size w wr) => rcheck11 m n x 0 _ wr (hxx.next hwr) (by omega))
  have HSP := hide (fun (hsz : sizeN m x ≤ 3000) wr (hwr : Below w.heap.size w wr) => size12 m n x 0 _ wr (hxx.next hwr) (by omega))
  have HSD := hide (fun (hsz : sizeN m x ≤ 3000) wr (hwr : Below w.heap.size w wr) => size13 m n x 0 _ wr (hxx.next hwr) (by omega))
  clear hxx hA hK hx
  unfold GivesL at HLI
  generalize hSM : (sizeN m x ≤ 3000) = SM at *
  generalize errN m x = ER at *
  generalize sizeN m x = SZ at *
  clear hSM
  generalize x.kids.length = LK at *
  generalize x.kind = K at *
  generalize x.op = O at *
  generalize x.name = S at *
  generalize x.pos = P at *
  generalize x.lit.shape.length = L1 at *
  generalize x.lit.cells.length = L2 at *
  go_enter Try.func3, Try.ntmps3
  go_wp2_with fail
  refine (HLI.out _ hw0).mono ?_
  rintro e w1 ⟨ok, rfl, hok, hb1⟩
  have X1 := hide (X0.out.next hb1)
  have HOK := hide hok
  clear hb1 hok HLI
  cases ok
  · go_wp2_with fail
    refine (works9 _).mono ?_
    rintro e w2 ⟨rfl, hb2⟩
    go_wp2
    go_ret
    exact ⟨rfl, X1.out.1.trans (hb2.mono X1.out.1.size)⟩
  have hsm := HOK.out (by first | rfl | trivial)
  have hw1 := X1.out.1
  have HW1 := hide hw1
  have KCP : Hid (∀ W, Below w1.heap.size w1 W → Calls Try.prog 10 #[.agg #[.int .i64 K, .int .i64 O, .string S, .slice a1 L1 c1, .slice a2 L2 c2, .slice ak LK ck, .int .i64 P]] W fun e w' => e = .returned (.int .i64 ER) ∧ Below w1.heap.size w1 w') := fun W h => (HCP.out W (HW1.out.trans (h.mono HW1.out.size))).mono fun e w' ⟨he, hb⟩ => ⟨he, h.trans (hb.mono h.size)⟩
  have KCD : Hid (∀ W, Below w1.heap.size w1 W → Calls Try.prog 11 #[.agg #[.int .i64 K, .int .i64 O, .string S, .slice a1 L1 c1, .slice a2 L2 c2, .slice ak LK ck, .int .i64 P]] W fun e w' => e = .returned (.int .i64 ER) ∧ Below w1.heap.size w1 w') := fun W h => (HCD.out hsm W (HW1.out.trans (h.mono HW1.out.size))).mono fun e w' ⟨he, hb⟩ => ⟨he, h.trans (hb.mono h.size)⟩
  have KSP : Hid (∀ W, Below w1.heap.size w1 W → Calls Try.prog 12 #[.agg #[.int .i64 K, .int .i64 O, .string S, .slice a1 L1 c1, .slice a2 L2 c2, .slice ak LK ck, .int .i64 P]] W fun e w' => e = .returned (.int .i64 (SZ : Nat)) ∧ Below w1.heap.size w1 w') := fun W h => (HSP.out hsm W (HW1.out.trans (h.mono HW1.out.size))).mono fun e w' ⟨he, hb⟩ => ⟨he, h.trans (hb.mono h.size)⟩
  have KSD : Hid (∀ W, Below w1.heap.size w1 W → Calls Try.prog 13 #[.agg #[.int .i64 K, .int .i64 O, .string S, .slice a1 L1 c1, .slice a2 L2 c2, .slice ak LK ck, .int .i64 P]] W fun e w' => e = .returned (.int .i64 (SZ : Nat)) ∧ Below w1.heap.size w1 w') := fun W h => (HSD.out hsm W (HW1.out.trans (h.mono HW1.out.size))).mono fun e w' ⟨he, hb⟩ => ⟨he, h.trans (hb.mono h.size)⟩
  have KW : Hid (∀ W, Below w1.heap.size w1 W → Calls Try.prog 9 #[] W fun e w' => e = .returned (.bool true) ∧ Below w1.heap.size w1 w') := fun W h => (works9 W).mono fun e w' ⟨he, hb⟩ => ⟨he, h.trans (hb.mono h.size)⟩
  have KS : Hid (∀ W, Below w1.heap.size w1 W → Below w1.heap.size w1 W ∧ W.cell? ⟨w.heap.size, 0, none⟩ = some (.int .i64 K) ∧ W.cell? ⟨w.heap.size, 1, none⟩ = some (.int .i64 O) ∧ W.cell? ⟨w.heap.size, 2, none⟩ = some (.string S) ∧ W.cell? ⟨w.heap.size, 3, none⟩ = some (.slice a1 L1 c1) ∧ W.cell? ⟨w.heap.size, 4, none⟩ = some (.slice a2 L2 c2) ∧ W.cell? ⟨w.heap.size, 5, none⟩ = some (.slice ak LK ck) ∧ W.cell? ⟨w.heap.size, 6, none⟩ = some (.int .i64 P)) := fun W h => ⟨h, (X1.out.next h).2.2⟩
  have HD0 : Hid (Below w1.heap.size w1 w1.drew) := (Below.refl _ _).drew
  clear HCP HCD HSP HSD hsm hw1 HOK
  go_upto_region 3 with fail
  go_region_held3 (fun W => Below w1.heap.size w1 W ∧ W.cell? ⟨w.heap.size, 0, none⟩ = some (.int .i64 K) ∧ W.cell? ⟨w.heap.size, 1, none⟩ = some (.int .i64 O) ∧ W.cell? ⟨w.heap.size, 2, none⟩ = some (.string S) ∧ W.cell? ⟨w.heap.size, 3, none⟩ = some (.slice a1 L1 c1) ∧ W.cell? ⟨w.heap.size, 4, none⟩ = some (.slice a2 L2 c2) ∧ W.cell? ⟨w.heap.size, 5, none⟩ = some (.slice ak LK ck) ∧ W.cell? ⟨w.heap.size, 6, none⟩ = some (.int .i64 P)) (first | with_reducible exact KS.out _ HD0.out | with_reducible exact KS.out _ (by with_reducible assumption))
    (first | (go_at_call 10; refine (KCP.out _ (by first | exact HD0.out | with_reducible assumption)).mono ?_; rintro e w2 ⟨rfl, hb2⟩) | (go_at_call 11; refine (KCD.out _ (by with_reducible assumption)).mono ?_; rintro e w3 ⟨rfl, hb3⟩) | (go_at_call 12; refine (KSP.out _ (by with_reducible assumption)).mono ?_; rintro e w4 ⟨rfl, hb4⟩) | (go_at_call 13; refine (KSD.out _ (by with_reducible assumption)).mono ?_; rintro e w5 ⟨rfl, hb5⟩) | (go_at_call 9; refine (KW.out _ (by with_reducible assumption)).mono ?_; rintro e w6 ⟨rfl, hb6⟩))
  all_goals
    go_wp2
    go_ret
    exact ⟨rfl, HW1.out.trans (Below.mono (by assumption) HW1.out.size)⟩
set_option maxRecDepth 100000 in
theorem lifted (os : Os) (started : os.Started) (H : Type) (enc : TypeId × Value → H) :
    ReturnsInHanded {} Try.checked os 3 .any (Rows.coreChecksSpec.pre6 enc Try.prog Try.f3 Rows.coreChecksRow.domain false) (Rows.coreChecksSpec.post enc Try.prog Try.f3 false true false false) := by
  refine returnsInHanded_of_change_sized (C := Try.checked) own started (by kernel_rfl) Try.func3
    (ChangeSpec.witness6 (enc := enc) (C := Try.checked) false ⟨#[], #[.agg #[.int .i64 0, .int .i64 0, .string { data := #[] }, .slice none 0 0, .slice none 0 0, .slice none 0 0, .int .i64 0]], []⟩ 8 (by kernel_rfl) (by kernel_rfl) (by kernel_rfl) (by kernel_rfl)) ?_
  intro W base args ds gs before hval0 hW _ hsz0 _
  have hsz : (DataW.weightsEach Try.prog (Try.f3.params.toList ++ Rows.coreChecksSpec.plain.varTypes Try.prog) (ds ++ gs)).all (· ≤ reachBytes) = true := hsz0
  clear hsz0
  have hval : ∀ (j : Nat) t v, Try.f3.params[j]? = some t → args[j]? = some v → Value.okWide Try.prog W .any base t v := hval0
  have hW' := hW
  obtain ⟨p, q, hA0, hV, rfl, hfz, hnd⟩ := hW
  have hA : DataW.TrodAll enc Try.prog W 0 (fun _ => true) true Try.f3.params.toList args.toList ds p := hA0
  rw [Try.params3] at hA hval hsz
  obtain ⟨v0, vs0, d0, ds0, p0, q0, hargs, rfl, rfl, h0, r0⟩ := trodAll_cons hA
  obtain ⟨rfl, rfl, rfl⟩ := trodAll_nil r0
  obtain rfl : args = #[v0] := by cases args; simp_all
  obtain ⟨rfl, rfl⟩ := trodVars_none hV
  have k0 := h0
  have lt0 : ∀ x ∈ p0, x.block < W.heap.size := by obtain ⟨m, hm⟩ := k0; exact DataW.trod_lt m _ _ _ hm
  obtain ⟨m0, n0, y0, c00, c01, c02, c03, c04, c05, c06, hc0, w0⟩ := node_of hsz (j := 0) rfl rfl h0
  obtain rfl := agg_seven hc0
  clear hA0 hval0
  refine (walk m0 n0 y0 c00 c01 c02 c03 c04 c05 c06 W w0).mono fun e W' ⟨he, bel⟩ => ?_
  subst he
  exact ⟨_, rfl, _, _, _, [], _, [], hW', trodAll_mk1 (shut_bool Try.underlying4 _), (trodAll_cons_mk (Below.trod laidOut (by kernel_rfl) (of_decide_eq_true (by kernel_rfl)) k0 bel lt0) trodAll_mk0), rfl, bel.frame _, fun h => by cases h⟩
theorem over : Rows.coreChecksRow.holds Try.pinned (OpenSpec.ofChange Rows.coreChecksSpec) :=
  OpenClaim.holds_of_wide 3 Try.f3 rfl rfl rfl rfl rfl rfl rfl ⟨rfl, rfl, rfl, rfl, rfl⟩ rfl rfl rfl rfl rfl (by kernel_rfl) Try.func3 (by kernel_rfl)
    (of_decide_eq_true (by kernel_rfl)) (by unfold Func.isWrapper; first | (rw [if_pos (by decide +kernel)]; kernel_rfl) | (rw [if_neg (by decide +kernel)]; exact ⟨rfl, rfl⟩))
    (fun os started H enc _ => lifted os started H enc)
theorem proved : Rows.CoreChecksSaid := over
end Go.Proofs.Ytkgpoibnilgaeaa.coreChecks
namespace Go.Proofs.Ytkgpoibnilgaeaa
theorem coreChecks_holds : Rows.CoreChecksSaid := coreChecks.proved
#print axioms coreChecks_holds
end Go.Proofs.Ytkgpoibnilgaeaa
