/-
  For all arrays the statement ArrChecks holds: Check and Deep of layer 3 answer as the document's; no condition (the given row speaks of what a machine of 64 bits can hold).
-/
import Derived.Test.YtednaamfgobkoaaOwnV
namespace Go.Proofs.Ytednaamfgobkoaa.arrChecks
open Go.ChangeShapes Go.WideShapes Go.ChangeAt Go.RowKit
set_option linter.unusedVariables false
set_option maxHeartbeats 4000000 in
theorem walk (n : Nat) (x : Ar) (c0 c1 : Value) (w : World) (hx : ArIn n 0 w x (.agg #[c0, c1])) :
    Calls Try.prog 3 #[.agg #[c0, c1]] w fun e w' => e = .returned (.bool true) ∧ Below w.heap.size w w' := by
  have hx' := hx
  cases n with
  | zero => exact hx.elim
  | succ n =>
  obtain ⟨a1, k1, a2, k2, hv, -⟩ := hx'
  simp only [Value.agg.injEq, Array.mk.injEq, List.cons.injEq, and_true] at hv
  obtain ⟨rfl, rfl⟩ := hv
  have b0 := one_alloc w (.cells #[.slice a1 x.shape.length k1, .slice a2 x.cells.length k2] 25)
  have C0 := light_any (hx.next b0)
  have q0 := cell_new0 w #[.slice a1 x.shape.length k1, .slice a2 x.cells.length k2] 25 0 _ rfl
  have q1 := cell_new0 w #[.slice a1 x.shape.length k1, .slice a2 x.cells.length k2] 25 1 _ rfl
  have s0 : w.heap.size < (w.alloc (.cells #[.slice a1 x.shape.length k1, .slice a2 x.cells.length k2] 25)).heap.size := by simp
  have HX : Hid (∀ W, Below w.heap.size w W → ArIn (n + 1) 0 W x (.agg #[.slice a1 x.shape.length k1, .slice a2 x.cells.length k2])) := fun W h => hx.next h
  clear hx
  generalize hSA : x.shape.length = SA at *
  generalize hCA : x.cells.length = CA at *
  clear hSA hCA
  obtain ⟨W1, eW⟩ : ∃ W1, W1 = w.alloc (.cells #[.slice a1 SA k1, .slice a2 CA k2] 25) := ⟨_, rfl⟩
  rw [← eW] at b0 C0 q0 q1 s0
  have HB0 := hide b0
  have HQ := hide (And.intro q0 (And.intro q1 s0))
  clear b0 q0 q1 s0
  go_enter Try.func3, Try.ntmps3
  go_wp2_with fail
  rw [← eW]
  refine C0.mono ?_
  rintro e w1 ⟨⟨r, rfl, hr⟩, hb1⟩
  have HR := hide hr
  have B1 : Below w.heap.size w w1 := HB0.out.trans (hb1.mono HB0.out.size)
  have q0 := (hb1.cell (p := ⟨w.heap.size, 0, none⟩) HQ.out.2.2).trans HQ.out.1
  have q1 := (hb1.cell (p := ⟨w.heap.size, 1, none⟩) HQ.out.2.2).trans HQ.out.2.1
  have hlt : w.heap.size < w1.heap.size := Nat.lt_of_lt_of_le HQ.out.2.2 hb1.size
  clear hr C0 hb1 HB0 HQ eW
  have HB1 := hide B1
  cases r with
  | false =>
    clear B1 HX HR hlt
    go_wp2_with fail
    refine (works_any _).mono ?_
    rintro e w2 ⟨rfl, hb2⟩
    go_wp2
    go_ret
    exact ⟨rfl, HB1.out.trans (hb2.mono HB1.out.size)⟩
  | true =>
    have ht : Thin 16 x := HR.out rfl
    have KS : Hid (∀ W, Below w1.heap.size w1 W → (Below w1.heap.size w1 W ∧ W.cell? ⟨w.heap.size, 0, none⟩ = some (.slice a1 SA k1) ∧ W.cell? ⟨w.heap.size, 1, none⟩ = some (.slice a2 CA k2))) := fun W h => ⟨h, (h.cell (p := ⟨w.heap.size, 0, none⟩) hlt).trans q0, (h.cell (p := ⟨w.heap.size, 1, none⟩) hlt).trans q1⟩
    have KK : ∀ W, Below w1.heap.size w1 W → ArIn (n + 1) 0 W x (.agg #[.slice a1 SA k1, .slice a2 CA k2]) := fun W h => HX.out W (B1.trans (h.mono B1.size))
    have C1 : Hid (∀ W, (Below w1.heap.size w1 W ∧ W.cell? ⟨w.heap.size, 0, none⟩ = some (.slice a1 SA k1) ∧ W.cell? ⟨w.heap.size, 1, none⟩ = some (.slice a2 CA k2)) → Calls Try.prog 11 #[.agg #[.slice a1 SA k1, .slice a2 CA k2]] W fun e w' => e = .returned (.int .i64 (chkA 8 x)) ∧ Below w1.heap.size w1 w') := by
      rintro W ⟨h, -⟩
      exact (check_any _ x _ _ W (KK W h)).mono fun e w' ⟨he, hb⟩ => ⟨he, h.trans (hb.mono h.size)⟩
    have C2 : Hid (∀ W, (Below w1.heap.size w1 W ∧ W.cell? ⟨w.heap.size, 0, none⟩ = some (.slice a1 SA k1) ∧ W.cell? ⟨w.heap.size, 1, none⟩ = some (.slice a2 CA k2)) → Calls Try.prog 12 #[.agg #[.slice a1 SA k1, .slice a2 CA k2]] W fun e w' => e = .returned (.int .i64 (chkA 8 x)) ∧ Below w1.heap.size w1 w') := by
      rintro W ⟨h, -⟩
      exact (rcheck_any _ x _ _ W (KK W h)).mono fun e w' ⟨he, hb⟩ => ⟨he, h.trans (hb.mono h.size)⟩
    have C3 : Hid (∀ W, (Below w1.heap.size w1 W ∧ W.cell? ⟨w.heap.size, 0, none⟩ = some (.slice a1 SA k1) ∧ W.cell? ⟨w.heap.size, 1, none⟩ = some (.slice a2 CA k2)) → Calls Try.prog 13 #[.agg #[.slice a1 SA k1, .slice a2 CA k2]] W fun e w' => e = .returned (.int .i64 (deepA (n + 1) x)) ∧ Below w1.heap.size w1 w') := by
      rintro W ⟨h, -⟩
      exact (deep_any (n + 1) 16 x _ _ W (by omega) ht (KK W h)).mono fun e w' ⟨he, hb⟩ => ⟨he, h.trans (hb.mono h.size)⟩
    have C4 : Hid (∀ W, (Below w1.heap.size w1 W ∧ W.cell? ⟨w.heap.size, 0, none⟩ = some (.slice a1 SA k1) ∧ W.cell? ⟨w.heap.size, 1, none⟩ = some (.slice a2 CA k2)) → Calls Try.prog 14 #[.agg #[.slice a1 SA k1, .slice a2 CA k2]] W fun e w' => e = .returned (.int .i64 (deepA (n + 1) x)) ∧ Below w1.heap.size w1 w') := by
      rintro W ⟨h, -⟩
      exact (rdeep_any (n + 1) 16 x _ _ W (by omega) ht (KK W h)).mono fun e w' ⟨he, hb⟩ => ⟨he, h.trans (hb.mono h.size)⟩
    have C5 : Hid (∀ W, (Below w1.heap.size w1 W ∧ W.cell? ⟨w.heap.size, 0, none⟩ = some (.slice a1 SA k1) ∧ W.cell? ⟨w.heap.size, 1, none⟩ = some (.slice a2 CA k2)) → Calls Try.prog 10 #[] W fun e w' => e = .returned (.bool true) ∧ Below w1.heap.size w1 w') := by
      rintro W ⟨h, -⟩
      exact (works_any W).mono fun e w' ⟨he, hb⟩ => ⟨he, h.trans (hb.mono h.size)⟩
    have HRR : Hid (Below w1.heap.size w1 w1.drew) := (Below.refl _ _).drew
    generalize chkA 8 x = E at *
    generalize deepA (n + 1) x = D at *
    clear q0 q1 hlt KK HX HR B1 ht
    go_wp2
    go_region_held3 (fun W => Below w1.heap.size w1 W ∧ W.cell? ⟨w.heap.size, 0, none⟩ = some (.slice a1 SA k1) ∧ W.cell? ⟨w.heap.size, 1, none⟩ = some (.slice a2 CA k2))
      (first | exact KS.out _ HRR.out | exact KS.out _ (by assumption))
      (first
        | (go_at_call 11; refine (C1.out _ (by assumption)).mono ?_; rintro e w2 ⟨rfl, hb2⟩)
        | (go_at_call 12; refine (C2.out _ (by assumption)).mono ?_; rintro e w3 ⟨rfl, hb3⟩)
        | (go_at_call 13; refine (C3.out _ (by assumption)).mono ?_; rintro e w4 ⟨rfl, hb4⟩)
        | (go_at_call 14; refine (C4.out _ (by assumption)).mono ?_; rintro e w5 ⟨rfl, hb5⟩)
        | (go_at_call 10; refine (C5.out _ (by assumption)).mono ?_; rintro e w6 ⟨rfl, hb6⟩))
    go_wp2
    go_ret
    exact ⟨rfl, HB1.out.trans (hb6.mono HB1.out.size)⟩
set_option maxRecDepth 100000 in
theorem lifted (os : Os) (started : os.Started) (H : Type) (enc : TypeId × Value → H) :
    ReturnsInHanded {} Try.checked os 3 .any (Rows.arrChecksSpec.pre6 enc Try.prog Try.f3 Rows.arrChecksRow.domain false) (Rows.arrChecksSpec.post enc Try.prog Try.f3 false true false false) := by
  refine returnsInHanded_of_change_sized (C := Try.checked) own started (by kernel_rfl) Try.func3
    (ChangeSpec.witness6 (enc := enc) (C := Try.checked) false ⟨#[], #[.agg #[.slice none 0 0, .slice none 0 0]], []⟩ 8 (by kernel_rfl) (by kernel_rfl) (by kernel_rfl) (by kernel_rfl)) ?_
  intro W base args ds gs before hval0 hW _ hsz0 _
  have hsz : (DataW.weightsEach Try.prog (Try.f3.params.toList ++ Rows.arrChecksSpec.plain.varTypes Try.prog) (ds ++ gs)).all (· ≤ reachBytes) = true := hsz0
  clear hsz0
  have hval : ∀ (j : Nat) t v, Try.f3.params[j]? = some t → args[j]? = some v → Value.okWide Try.prog W .any base t v := hval0
  have hW' := hW
  obtain ⟨p, q, hA0, hV, rfl, hfz, hnd⟩ := hW
  have hA : DataW.TrodAll enc Try.prog W 0 (fun _ => true) true Try.f3.params.toList args.toList ds p := hA0
  rw [Try.params3] at hA hval hsz
  obtain ⟨v0, vs0, d0, ds0, p0, q0, hargs, rfl, rfl, h0, r0⟩ := trodAll_cons hA
  obtain ⟨rfl, rfl, rfl⟩ := trodAll_nil r0
  obtain rfl : args = #[v0] := by cases args; simp_all
  obtain ⟨rfl, rfl⟩ := trodVars_none hV
  have k0 := h0
  have lt0 : ∀ x ∈ p0, x.block < W.heap.size := by obtain ⟨m, hm⟩ := k0; exact DataW.trod_lt m _ _ _ hm
  obtain ⟨n0, y0, c00, c01, hc0, w0⟩ := arr_of hsz (j := 0) rfl rfl h0
  obtain rfl := agg_two hc0
  clear hA0 hval0
  refine (walk n0 y0 c00 c01 W w0).mono fun e W' ⟨he, bel⟩ => ?_
  subst he
  exact ⟨_, rfl, _, _, _, [], _, [], hW', trodAll_mk1 (shut_bool Try.underlying4 _), (trodAll_cons_mk (Below.trod laidOut (by kernel_rfl) (of_decide_eq_true (by kernel_rfl)) k0 bel lt0) trodAll_mk0), rfl, bel.frame _, fun h => by cases h⟩
theorem over : Rows.arrChecksRow.holds Try.pinned (OpenSpec.ofChange Rows.arrChecksSpec) :=
  OpenClaim.holds_of_wide 3 Try.f3 rfl rfl rfl rfl rfl rfl rfl ⟨rfl, rfl, rfl, rfl, rfl⟩ rfl rfl rfl rfl rfl (by kernel_rfl) Try.func3 (by kernel_rfl)
    (of_decide_eq_true (by kernel_rfl)) (by unfold Func.isWrapper; first | (rw [if_pos (by decide +kernel)]; kernel_rfl) | (rw [if_neg (by decide +kernel)]; exact ⟨rfl, rfl⟩))
    (fun os started H enc _ => lifted os started H enc)
theorem proved : Rows.ArrChecksSaid := over
end Go.Proofs.Ytednaamfgobkoaa.arrChecks
namespace Go.Proofs.Ytednaamfgobkoaa
theorem arrChecks_holds : Rows.ArrChecksSaid := arrChecks.proved
#print axioms arrChecks_holds
end Go.Proofs.Ytednaamfgobkoaa
