/-
  For all shapes, all places and all int n the statement ArrThere holds: Places of a cell lead to it, and the cell at places has these; no condition (the given row speaks of slices that a machine of 64 bits can hold).
-/
import Derived.Test.YtednaamfgobkoaaOwnR
namespace Go.Proofs.Ytednaamfgobkoaa.arrThere
open Go.ChangeShapes Go.WideShapes Go.ChangeAt Go.RowKit
set_option linter.unusedVariables false
theorem places_at (l : List Int) (n : Int) (a0 : Option Addr) (cap0 : Nat) (w : World) (R : Row 0 w a0 l) : Hid (∀ W, Below w.heap.size w W → Calls Try.prog 32 #[.slice a0 l.length cap0, .int .i64 n] W fun e w' => (∃ a, e = .returned (.tuple #[.slice a (plsL l n).length (plsL l n).length, .int .i64 (plsE l n)]) ∧ Row 0 w' a (plsL l n)) ∧ Below w.heap.size w w' ∧ Below W.heap.size W w') := by
  intro W h
  refine (places_any l n a0 cap0 W (R.next h)).mono ?_
  intro e w' hp
  obtain ⟨⟨a, he, hr⟩, hb⟩ := places_form hp
  exact ⟨⟨a, he, hr.low (Nat.zero_le _)⟩, h.trans (hb.mono h.size), hb⟩
set_option maxHeartbeats 2000000 in
theorem walk1 (l m : List Int) (a0 a1 : Option Addr) (cap0 cap1 : Nat) (n : Int) (w : World) (R : Row 0 w a0 l) (R' : Row 0 w a1 m) :
    Calls Try.prog 8 #[.slice a0 l.length cap0, .slice a1 m.length cap1, .int .i64 n] w fun e w' => e = .returned (.bool true) ∧ Below w.heap.size w w' := by
  have C1 := place_any l m a0 a1 cap0 cap1 w R R'
  have C2 := places_at l (plcV l m) a0 cap0 w R
  have C3 := places_at l n a0 cap0 w R
  have C4 : Hid (∀ W, Below w.heap.size w W → ∀ a2 c2, Row 0 W a2 (plsL l n) → Calls Try.prog 30 #[.slice a0 l.length cap0, .slice a2 (plsL l n).length c2] W fun e w' => e = .returned (.tuple #[.int .i64 (plcV l (plsL l n)), .int .i64 (plcE l (plsL l n))]) ∧ w' = W) := fun W h a2 c2 R2 => place_any l (plsL l n) a0 a2 cap0 c2 W (R.next h) R2
  have HR := hide R'
  clear R R'
  by_cases hF : plcE l m = 0
  · by_cases hG : plsE l n = 0
    · rw [(there hF).1, (there hF).2] at C2
      rw [hF] at C1
      generalize plcV l m = V at C1 C2
      clear hF
      rw [(back hG).1, (back hG).2] at C4
      rw [hG] at C3
      generalize plsL l n = L at C3 C4
      generalize hK : L.length = K at C3 C4
      clear hG hK
      go_enter Try.func8, Try.ntmps8
      go_wp2_with fail
      refine C1.mono ?_
      rintro e w1 ⟨rfl, hw⟩
      rw [hw]
      clear hw C1
      go_wp2_with fail
      refine (C2.out _ (Below.refl _ _)).mono ?_
      rintro e w1 ⟨⟨a2, rfl, R2⟩, hb1, -⟩
      have C7 := ints_any m m a2 a1 m.length cap1 w1 R2 (HR.out.next hb1) rfl
      clear C2 R2
      go_wp2_with fail
      refine C7.mono ?_
      rintro e w2 ⟨rfl, hb2⟩
      have B2 := hb1.trans (hb2.mono hb1.size)
      clear C7 hb1 hb2
      go_wp2_with fail
      refine (C3.out _ B2).mono ?_
      rintro e w3 ⟨⟨a3, rfl, R3⟩, hb3, -⟩
      have C5 := C4.out _ hb3 a3 K R3
      clear C3 C4 B2 R3
      go_wp2_with fail
      refine C5.mono ?_
      rintro e w4 ⟨rfl, hw⟩
      rw [hw]
      clear hw C5
      go_wp2_with fail
      refine (works_any _).mono ?_
      rintro e w5 ⟨rfl, hb5⟩
      go_wp2
      go_ret
      exact ⟨rfl, hb3.trans (hb5.mono hb3.size)⟩
    · clear C4
      rw [(there hF).1, (there hF).2] at C2
      rw [hF] at C1
      generalize plcV l m = V at C1 C2
      clear hF
      generalize plsE l n = G at C3 hG
      generalize (plsL l n) = L at C3
      generalize L.length = K at C3
      go_enter Try.func8, Try.ntmps8
      go_wp2_with fail
      refine C1.mono ?_
      rintro e w1 ⟨rfl, hw⟩
      rw [hw]
      clear hw C1
      go_wp2_with fail
      refine (C2.out _ (Below.refl _ _)).mono ?_
      rintro e w1 ⟨⟨a2, rfl, R2⟩, hb1, -⟩
      have C7 := ints_any m m a2 a1 m.length cap1 w1 R2 (HR.out.next hb1) rfl
      clear C2 R2
      go_wp2_with fail
      refine C7.mono ?_
      rintro e w2 ⟨rfl, hb2⟩
      have B2 := hb1.trans (hb2.mono hb1.size)
      clear C7 hb1 hb2
      go_wp2_with fail
      refine (C3.out _ B2).mono ?_
      rintro e w3 ⟨⟨a3, rfl, R3⟩, hb3, -⟩
      clear C3 B2 R3
      go_wp2_with fail
      refine (works_any _).mono ?_
      rintro e w5 ⟨rfl, hb5⟩
      go_wp2
      go_ret
      exact ⟨rfl, hb3.trans (hb5.mono hb3.size)⟩
  · by_cases hG : plsE l n = 0
    · generalize plcV l m = V at C1
      generalize plcE l m = F at C1 hF
      clear C2
      rw [(back hG).1, (back hG).2] at C4
      rw [hG] at C3
      generalize plsL l n = L at C3 C4
      generalize hK : L.length = K at C3 C4
      clear hG hK
      go_enter Try.func8, Try.ntmps8
      go_wp2_with fail
      refine C1.mono ?_
      rintro e w1 ⟨rfl, hw⟩
      rw [hw]
      clear hw C1
      have B2 := Below.refl w.heap.size w
      go_wp2_with fail
      refine (C3.out _ B2).mono ?_
      rintro e w3 ⟨⟨a3, rfl, R3⟩, hb3, -⟩
      have C5 := C4.out _ hb3 a3 K R3
      clear C3 C4 B2 R3
      go_wp2_with fail
      refine C5.mono ?_
      rintro e w4 ⟨rfl, hw⟩
      rw [hw]
      clear hw C5
      go_wp2_with fail
      refine (works_any _).mono ?_
      rintro e w5 ⟨rfl, hb5⟩
      go_wp2
      go_ret
      exact ⟨rfl, hb3.trans (hb5.mono hb3.size)⟩
    · clear C4
      generalize plcV l m = V at C1
      generalize plcE l m = F at C1 hF
      clear C2
      generalize plsE l n = G at C3 hG
      generalize (plsL l n) = L at C3
      generalize L.length = K at C3
      go_enter Try.func8, Try.ntmps8
      go_wp2_with fail
      refine C1.mono ?_
      rintro e w1 ⟨rfl, hw⟩
      rw [hw]
      clear hw C1
      have B2 := Below.refl w.heap.size w
      go_wp2_with fail
      refine (C3.out _ B2).mono ?_
      rintro e w3 ⟨⟨a3, rfl, R3⟩, hb3, -⟩
      clear C3 B2 R3
      go_wp2_with fail
      refine (works_any _).mono ?_
      rintro e w5 ⟨rfl, hb5⟩
      go_wp2
      go_ret
      exact ⟨rfl, hb3.trans (hb5.mono hb3.size)⟩
theorem walk (a0 : Option Addr) (len0 cap0 : Nat) (z0 : List Int) (a1 : Option Addr) (len1 cap1 : Nat) (z1 : List Int) (n : Int) (w : World) (h0 : z0.length = len0 ∧ Row 0 w a0 z0 ∧ len0 * 8 ≤ 140737488351232) (h1 : z1.length = len1 ∧ Row 0 w a1 z1 ∧ len1 * 8 ≤ 140737488351232) :
    Calls Try.prog 8 #[.slice a0 len0 cap0, .slice a1 len1 cap1, .int .i64 n] w fun e w' => e = .returned (.bool true) ∧ Below w.heap.size w w' := by
  obtain ⟨rfl, R, -⟩ := h0
  obtain ⟨rfl, R', -⟩ := h1
  exact walk1 z0 z1 a0 a1 cap0 cap1 n w R R'
set_option maxRecDepth 100000 in
theorem lifted (os : Os) (started : os.Started) (H : Type) (enc : TypeId × Value → H) :
    ReturnsInHanded {} Try.checked os 8 .any (Rows.arrThereSpec.pre6 enc Try.prog Try.f8 Rows.arrThereRow.domain false) (Rows.arrThereSpec.post enc Try.prog Try.f8 false true false false) := by
  refine returnsInHanded_of_change_sized (C := Try.checked) own started (by kernel_rfl) Try.func8
    (ChangeSpec.witness6 (enc := enc) (C := Try.checked) false ⟨#[], #[.slice none 0 0, .slice none 0 0, .int .i64 0], []⟩ 8 (by kernel_rfl) (by kernel_rfl) (by kernel_rfl) (by kernel_rfl)) ?_
  intro W base args ds gs before hval0 hW _ hsz0 _
  have hsz : (DataW.weightsEach Try.prog (Try.f8.params.toList ++ Rows.arrThereSpec.plain.varTypes Try.prog) (ds ++ gs)).all (· ≤ reachBytes) = true := hsz0
  clear hsz0
  have hval : ∀ (j : Nat) t v, Try.f8.params[j]? = some t → args[j]? = some v → Value.okWide Try.prog W .any base t v := hval0
  have hW' := hW
  obtain ⟨p, q, hA0, hV, rfl, hfz, hnd⟩ := hW
  have hA : DataW.TrodAll enc Try.prog W 0 (fun _ => true) true Try.f8.params.toList args.toList ds p := hA0
  rw [Try.params8] at hA hval hsz
  obtain ⟨v0, vs0, d0, ds0, p0, q0, hargs, rfl, rfl, h0, r0⟩ := trodAll_cons hA
  obtain ⟨v1, vs1, d1, ds1, p1, q1, rfl, rfl, rfl, h1, r1⟩ := trodAll_cons r0
  obtain ⟨v2, vs2, d2, ds2, p2, q2, rfl, rfl, rfl, h2, r2⟩ := trodAll_cons r1
  obtain ⟨rfl, rfl, rfl⟩ := trodAll_nil r2
  obtain rfl : args = #[v0, v1, v2] := by cases args; simp_all
  obtain ⟨rfl, rfl⟩ := trodVars_none hV
  obtain ⟨a0, len0, cap0, rfl⟩ := okWide_slice Try.underlying22 (hval 0 22 v0 rfl rfl)
  obtain ⟨a1, len1, cap1, rfl⟩ := okWide_slice Try.underlying22 (hval 1 22 v1 rfl rfl)
  have k0 := h0
  have k1 := h1
  have lt0 : ∀ x ∈ p0, x.block < W.heap.size := by obtain ⟨m, hm⟩ := k0; exact DataW.trod_lt m _ _ _ hm
  have lt1 : ∀ x ∈ p1, x.block < W.heap.size := by obtain ⟨m, hm⟩ := k1; exact DataW.trod_lt m _ _ _ hm
  obtain ⟨z0, w0⟩ := ints_row hsz (j := 0) rfl rfl h0
  obtain ⟨z1, w1⟩ := ints_row hsz (j := 1) rfl rfl h1
  obtain ⟨x2, rfl, rfl, rfl, w2⟩ := open_int Try.underlying3 (hval 2 3 v2 rfl rfl) h2
  clear hA0 hval0
  refine (walk a0 len0 cap0 z0 a1 len1 cap1 z1 x2 W w0 w1).mono fun e W' ⟨he, bel⟩ => ?_
  subst he
  exact ⟨_, rfl, _, _, _, [], _, [], hW', trodAll_mk1 (shut_bool Try.underlying4 _), (trodAll_cons_mk (Below.trod laidOut (by kernel_rfl) (of_decide_eq_true (by kernel_rfl)) k0 bel lt0) (trodAll_cons_mk (Below.trod laidOut (by kernel_rfl) (of_decide_eq_true (by kernel_rfl)) k1 bel lt1) (trodAll_cons_mk (shut_int Try.underlying3 w2) trodAll_mk0))), rfl, bel.frame _, fun h => by cases h⟩
theorem over : Rows.arrThereRow.holds Try.pinned (OpenSpec.ofChange Rows.arrThereSpec) :=
  OpenClaim.holds_of_wide 8 Try.f8 rfl rfl rfl rfl rfl rfl rfl ⟨rfl, rfl, rfl, rfl, rfl⟩ rfl rfl rfl rfl rfl (by kernel_rfl) Try.func8 (by kernel_rfl)
    (of_decide_eq_true (by kernel_rfl)) (by unfold Func.isWrapper; first | (rw [if_pos (by decide +kernel)]; kernel_rfl) | (rw [if_neg (by decide +kernel)]; exact ⟨rfl, rfl⟩))
    (fun os started H enc _ => lifted os started H enc)
theorem proved : Rows.ArrThereSaid := over
end Go.Proofs.Ytednaamfgobkoaa.arrThere
namespace Go.Proofs.Ytednaamfgobkoaa
theorem arrThere_holds : Rows.ArrThereSaid := arrThere.proved
#print axioms arrThere_holds
end Go.Proofs.Ytednaamfgobkoaa
