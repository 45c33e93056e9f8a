/-
  For all shapes, all places and all int n the statement ArrPlaces holds: Size, Place and Places of layer 3 answer as the document's; no condition (the given row speaks of slices that a machine of 64 bits can hold).
-/
import Derived.Test.YtednaamfgobkoaaOwnR
namespace Go.Proofs.Ytednaamfgobkoaa.arrPlaces
open Go.ChangeShapes Go.WideShapes Go.ChangeAt Go.RowKit
set_option linter.unusedVariables false
set_option maxHeartbeats 2000000 in
theorem walk1 (l m : List Int) (a0 a1 : Option Addr) (cap0 cap1 : Nat) (n : Int) (w : World) (R : Row 0 w a0 l) (R' : Row 0 w a1 m) :
    Calls Try.prog 7 #[.slice a0 l.length cap0, .slice a1 m.length cap1, .int .i64 n] w fun e w' => e = .returned (.bool true) ∧ Below w.heap.size w w' := by
  have C1 := size_any l a0 cap0 w R
  have C2 := rsize_any l a0 cap0 w R
  have C3 := place_any l m a0 a1 cap0 cap1 w R R'
  have C4 := rplace_any l m a0 a1 cap0 cap1 w R R'
  have C5 : Hid (∀ W, Below w.heap.size w W → Calls Try.prog 32 #[.slice a0 l.length cap0, .int .i64 n] W fun e w' => (∃ a, e = .returned (.tuple #[.slice a (plsL l n).length (plsL l n).length, .int .i64 (plsE l n)]) ∧ Row 0 w' a (plsL l n)) ∧ Below w.heap.size w w' ∧ Below W.heap.size W w') := by
    intro W h
    refine (places_any l n a0 cap0 W (R.next h)).mono ?_
    intro e w' hp
    obtain ⟨⟨a, he, hr⟩, hb⟩ := places_form hp
    exact ⟨⟨a, he, hr.low (Nat.zero_le _)⟩, h.trans (hb.mono h.size), hb⟩
  have C6 : Hid (∀ W, Below w.heap.size w W → Calls Try.prog 33 #[.slice a0 l.length cap0, .int .i64 n] W fun e w' => (∃ a, e = .returned (.tuple #[.slice a (plsL l n).length (plsL l n).length, .int .i64 (plsE l n)]) ∧ Row 0 w' a (plsL l n)) ∧ Below w.heap.size w w' ∧ Below W.heap.size W w') := by
    intro W h
    refine (rplaces_any l n a0 cap0 W (R.next h)).mono ?_
    intro e w' hp
    obtain ⟨⟨a, he, hr⟩, hb⟩ := places_form hp
    exact ⟨⟨a, he, hr.low (Nat.zero_le _)⟩, h.trans (hb.mono h.size), hb⟩
  clear R R'
  generalize sizeV l = S at *
  generalize sizeE l = E at *
  generalize plcV l m = V at *
  generalize plcE l m = F at *
  generalize plsE l n = G at *
  generalize plsL l n = L at *
  go_enter Try.func7, Try.ntmps7
  go_wp2_with fail
  refine C1.mono ?_
  rintro e w1 ⟨rfl, hw⟩
  rw [hw]
  clear hw C1
  go_wp2_with fail
  refine C2.mono ?_
  rintro e w1 ⟨rfl, hw⟩
  rw [hw]
  clear hw C2
  go_wp2_with fail
  refine C3.mono ?_
  rintro e w1 ⟨rfl, hw⟩
  rw [hw]
  clear hw C3
  go_wp2_with fail
  refine C4.mono ?_
  rintro e w1 ⟨rfl, hb1⟩
  clear C4
  go_wp2_with fail
  refine (C5.out _ hb1).mono ?_
  rintro e w2 ⟨⟨a2, rfl, R2⟩, hb2, -⟩
  clear C5 hb1
  go_wp2_with fail
  refine (C6.out _ hb2).mono ?_
  rintro e w3 ⟨⟨a3, rfl, R3⟩, hb3, hb23⟩
  have R2' := R2.next hb23
  have C7 := ints_any L L a2 a3 L.length L.length w3 R2' R3 rfl
  clear C6 hb2 hb23 R2 R2' R3
  generalize L.length = k at *
  go_wp2_with fail
  refine C7.mono ?_
  rintro e w4 ⟨rfl, hb4⟩
  clear C7
  go_wp2_with fail
  refine (works_any _).mono ?_
  rintro e w5 ⟨rfl, hb5⟩
  go_wp2
  go_ret
  have b4 := hb3.trans (hb4.mono hb3.size)
  exact ⟨rfl, b4.trans (hb5.mono b4.size)⟩
theorem walk (a0 : Option Addr) (len0 cap0 : Nat) (z0 : List Int) (a1 : Option Addr) (len1 cap1 : Nat) (z1 : List Int) (n : Int) (w : World) (h0 : z0.length = len0 ∧ Row 0 w a0 z0 ∧ len0 * 8 ≤ 140737488351232) (h1 : z1.length = len1 ∧ Row 0 w a1 z1 ∧ len1 * 8 ≤ 140737488351232) :
    Calls Try.prog 7 #[.slice a0 len0 cap0, .slice a1 len1 cap1, .int .i64 n] w fun e w' => e = .returned (.bool true) ∧ Below w.heap.size w w' := by
  obtain ⟨rfl, R, -⟩ := h0
  obtain ⟨rfl, R', -⟩ := h1
  exact walk1 z0 z1 a0 a1 cap0 cap1 n w R R'
set_option maxRecDepth 100000 in
theorem lifted (os : Os) (started : os.Started) (H : Type) (enc : TypeId × Value → H) :
    ReturnsInHanded {} Try.checked os 7 .any (Rows.arrPlacesSpec.pre6 enc Try.prog Try.f7 Rows.arrPlacesRow.domain false) (Rows.arrPlacesSpec.post enc Try.prog Try.f7 false true false false) := by
  refine returnsInHanded_of_change_sized (C := Try.checked) own started (by kernel_rfl) Try.func7
    (ChangeSpec.witness6 (enc := enc) (C := Try.checked) false ⟨#[], #[.slice none 0 0, .slice none 0 0, .int .i64 0], []⟩ 8 (by kernel_rfl) (by kernel_rfl) (by kernel_rfl) (by kernel_rfl)) ?_
  intro W base args ds gs before hval0 hW _ hsz0 _
  have hsz : (DataW.weightsEach Try.prog (Try.f7.params.toList ++ Rows.arrPlacesSpec.plain.varTypes Try.prog) (ds ++ gs)).all (· ≤ reachBytes) = true := hsz0
  clear hsz0
  have hval : ∀ (j : Nat) t v, Try.f7.params[j]? = some t → args[j]? = some v → Value.okWide Try.prog W .any base t v := hval0
  have hW' := hW
  obtain ⟨p, q, hA0, hV, rfl, hfz, hnd⟩ := hW
  have hA : DataW.TrodAll enc Try.prog W 0 (fun _ => true) true Try.f7.params.toList args.toList ds p := hA0
  rw [Try.params7] at hA hval hsz
  obtain ⟨v0, vs0, d0, ds0, p0, q0, hargs, rfl, rfl, h0, r0⟩ := trodAll_cons hA
  obtain ⟨v1, vs1, d1, ds1, p1, q1, rfl, rfl, rfl, h1, r1⟩ := trodAll_cons r0
  obtain ⟨v2, vs2, d2, ds2, p2, q2, rfl, rfl, rfl, h2, r2⟩ := trodAll_cons r1
  obtain ⟨rfl, rfl, rfl⟩ := trodAll_nil r2
  obtain rfl : args = #[v0, v1, v2] := by cases args; simp_all
  obtain ⟨rfl, rfl⟩ := trodVars_none hV
  obtain ⟨a0, len0, cap0, rfl⟩ := okWide_slice Try.underlying22 (hval 0 22 v0 rfl rfl)
  obtain ⟨a1, len1, cap1, rfl⟩ := okWide_slice Try.underlying22 (hval 1 22 v1 rfl rfl)
  have k0 := h0
  have k1 := h1
  have lt0 : ∀ x ∈ p0, x.block < W.heap.size := by obtain ⟨m, hm⟩ := k0; exact DataW.trod_lt m _ _ _ hm
  have lt1 : ∀ x ∈ p1, x.block < W.heap.size := by obtain ⟨m, hm⟩ := k1; exact DataW.trod_lt m _ _ _ hm
  obtain ⟨z0, w0⟩ := ints_row hsz (j := 0) rfl rfl h0
  obtain ⟨z1, w1⟩ := ints_row hsz (j := 1) rfl rfl h1
  obtain ⟨x2, rfl, rfl, rfl, w2⟩ := open_int Try.underlying3 (hval 2 3 v2 rfl rfl) h2
  clear hA0 hval0
  refine (walk a0 len0 cap0 z0 a1 len1 cap1 z1 x2 W w0 w1).mono fun e W' ⟨he, bel⟩ => ?_
  subst he
  exact ⟨_, rfl, _, _, _, [], _, [], hW', trodAll_mk1 (shut_bool Try.underlying4 _), (trodAll_cons_mk (Below.trod laidOut (by kernel_rfl) (of_decide_eq_true (by kernel_rfl)) k0 bel lt0) (trodAll_cons_mk (Below.trod laidOut (by kernel_rfl) (of_decide_eq_true (by kernel_rfl)) k1 bel lt1) (trodAll_cons_mk (shut_int Try.underlying3 w2) trodAll_mk0))), rfl, bel.frame _, fun h => by cases h⟩
theorem over : Rows.arrPlacesRow.holds Try.pinned (OpenSpec.ofChange Rows.arrPlacesSpec) :=
  OpenClaim.holds_of_wide 7 Try.f7 rfl rfl rfl rfl rfl rfl rfl ⟨rfl, rfl, rfl, rfl, rfl⟩ rfl rfl rfl rfl rfl (by kernel_rfl) Try.func7 (by kernel_rfl)
    (of_decide_eq_true (by kernel_rfl)) (by unfold Func.isWrapper; first | (rw [if_pos (by decide +kernel)]; kernel_rfl) | (rw [if_neg (by decide +kernel)]; exact ⟨rfl, rfl⟩))
    (fun os started H enc _ => lifted os started H enc)
theorem proved : Rows.ArrPlacesSaid := over
end Go.Proofs.Ytednaamfgobkoaa.arrPlaces
namespace Go.Proofs.Ytednaamfgobkoaa
theorem arrPlaces_holds : Rows.ArrPlacesSaid := arrPlaces.proved
#print axioms arrPlaces_holds
end Go.Proofs.Ytednaamfgobkoaa
