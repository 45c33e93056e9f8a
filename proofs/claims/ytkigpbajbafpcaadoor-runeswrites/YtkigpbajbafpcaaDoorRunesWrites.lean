/-
  For all lists of int64 and all int64 numbers the statement RunesWrites holds: signs' bytes, and whether there is a sign of a number, are what the chapter says; no condition (the given row speaks of slices that a machine of 64 bits can hold, and of the table of layer 2 as its text lays it).
-/
import Derived.Test.YtkigpbajbafpcaaDoorOwnI
import Derived.Test.YtkigpbajbafpcaaDoorOwnK
namespace Go.Proofs.YtkigpbajbafpcaaDoor.runesWrites
open Go.ChangeShapes Go.WideShapes Go.ChangeAt Go.RowKit
set_option linter.unusedVariables false
set_option maxHeartbeats 2000000 in
theorem walk1 (l : List Int) (p : Nat) (n : Int) (a : Option Addr) (cap : Nat) (w : World) (R : Row .i64 w a l) (T : Tab w) (hl : l.length * 8 ≤ 140737488355328) (hg : ∀ z ∈ l.take p, Good z) (hb : ¬ Good (l[p]?.getD 0)) (hp : p < l.length) :
    Calls Tryd.prog 3 #[.slice a l.length cap, .int .i64 n] w fun e w' => e = .returned (.bool true) ∧ Below w.heap.size w w' := by
  go_enter Tryd.func3, Tryd.ntmps3
  go_wp2_with fail
  refine (write_any l p _ _ _ R T hl (by omega) hg (fun _ => hb)).mono ?_
  rintro e w1 ⟨_, h1, hb1⟩
  have e1 := h1 hp
  subst e1
  have T1 := T.below hb1 T.1
  have R1 := R.next hb1
  clear h1
  go_wp2_with fail
  refine (writeR_any l p _ _ _ R1 hl (by omega) hg (fun _ => hb)).mono ?_
  rintro e w2 ⟨_, h2, hb2⟩
  have e2 := h2 hp
  subst e2
  have T2 := T1.below hb2 T1.1
  have B2 := hb1.trans (hb2.mono hb1.size)
  have s0 := str_of_row (w := w2) (a := none) (zs := []) ⟨by simp, Or.inl rfl⟩ 0 rfl 0
  clear h2 hb hg
  go_wp2_with (first | (go_at_call 10; refine (good_any _ _).mono ?_; rintro e w' ⟨rfl, hw⟩; rw [hw]) | (go_at_call 11; refine (goodR_any _ _).mono ?_; rintro e w' ⟨rfl, hw⟩; rw [hw]) | (go_at_call 12; refine (works_any _ T2).mono ?_; rintro e w4 ⟨rfl, hb4⟩))
  go_ret
  exact ⟨rfl, B2.trans (hb4.mono B2.size)⟩
set_option maxHeartbeats 2000000 in
theorem walk2 (l : List Int) (n : Int) (a : Option Addr) (cap : Nat) (w : World) (R : Row .i64 w a l) (T : Tab w) (hl : l.length * 8 ≤ 140737488355328) (hg : ∀ z ∈ l, Good z) :
    Calls Tryd.prog 3 #[.slice a l.length cap, .int .i64 n] w fun e w' => e = .returned (.bool true) ∧ Below w.heap.size w w' := by
  go_enter Tryd.func3, Tryd.ntmps3
  go_wp2_with fail
  refine (write_any l l.length _ _ _ R T hl (by omega) (by rw [List.take_length]; exact hg) (fun h => absurd h (by omega))).mono ?_
  rintro e w1 ⟨h1, _, hb1⟩
  obtain ⟨a1, rfl, Q1, _⟩ := h1 rfl
  have T1 := T.below hb1 T.1
  have R1 := R.next hb1
  clear h1
  go_wp2_with fail
  refine (writeR_any l l.length _ _ _ R1 hl (by omega) (by rw [List.take_length]; exact hg) (fun h => absurd h (by omega))).mono ?_
  rintro e w2 ⟨h2, _, hb2⟩
  obtain ⟨a2, c2, rfl, Q2⟩ := h2 rfl
  have T2 := T1.below hb2 T1.1
  have Q1' := Q1.next hb2
  have B2 := hb1.trans (hb2.mono hb1.size)
  have s1 := str_of_row Q1' (enc l).length rfl (enc l).length
  have s2 := str_of_row Q2 (enc l).length rfl c2
  clear h2 R1 R T T1 hb1 hb2 hg
  go_wp2_with (first | (go_at_call 10; refine (good_any _ _).mono ?_; rintro e w' ⟨rfl, hw⟩; rw [hw]) | (go_at_call 11; refine (goodR_any _ _).mono ?_; rintro e w' ⟨rfl, hw⟩; rw [hw]) | (go_at_call 12; refine (works_any _ T2).mono ?_; rintro e w4 ⟨rfl, hb4⟩))
  go_ret
  exact ⟨rfl, B2.trans (hb4.mono B2.size)⟩
theorem walk (a : Option Addr) (len cap : Nat) (zs : List Int) (n : Int) (w : World) (T : Tab w) (h0 : IsRow .i64 w a len cap zs) (hr : len * 8 ≤ 140737488351232) :
    Calls Tryd.prog 3 #[.slice a len cap, .int .i64 n] w fun e w' => e = .returned (.bool true) ∧ Below w.heap.size w w' := by
  have R := row_of h0 (by omega)
  have hlen := row_len h0
  clear h0
  generalize zs.take len = l at R hlen
  subst hlen
  obtain ⟨p, h1, h2, h3⟩ := good_until l
  by_cases hp : p < l.length
  · exact walk1 l p n a cap w R T (by omega) h2 (h3 hp) hp
  · have : p = l.length := by omega
    subst this
    rw [List.take_length] at h2
    exact walk2 l n a cap w R T (by omega) h2
theorem laid_met (os : Os) : laidMet Tryd.prog Rows.runesWritesRow.laid ((laidWorld os).forCall (fun _ _ => 0) ⟨#[], #[.slice none 0 0, .int .i64 0], []⟩).memory :=
  laidMet_of_run' 8 (by kernel_rfl) (by kernel_rfl)
theorem reads (os : Os) {H : Type} (enc : TypeId × Value → H) : ∃ places, DataW.whole enc Tryd.prog ((laidWorld os).forCall (fun _ _ => 0) ⟨#[], #[.slice none 0 0, .int .i64 0], []⟩).memory Tryd.f3.params.toList Rows.runesWritesSpec.vars false #[Value.slice none 0 0, Value.int .i64 0].toList 8 = some ([.nil, .lit (.int .i64 0)], [], places) :=
  ⟨[], by kernel_rfl⟩
set_option maxRecDepth 100000 in
theorem lifted (os : Os) (started : os.Started) (H : Type) (enc : TypeId × Value → H) (F : Stop.Interp) :
    ReturnsInHanded {} Tryd.checked os 3 .any ((OpenSpec.ofChange Rows.runesWritesSpec).preRow enc Tryd.prog Tryd.f3 Rows.runesWritesRow.domain false Rows.runesWritesRow.laid) (((OpenSpec.ofChange Rows.runesWritesSpec).at F).post enc Tryd.prog Tryd.f3 false true false false) := by
  obtain ⟨places, hx⟩ := reads os enc
  refine returnsInHanded_of_row (C := Tryd.checked) (s := OpenSpec.ofChange Rows.runesWritesSpec) own started (by kernel_rfl) Tryd.func3
    (witness_row_at (enc := enc) (C := Tryd.checked) false (laidWorld os) #[.slice none 0 0, .int .i64 0] rfl (by kernel_rfl) (by kernel_rfl) (by kernel_rfl)
      (OpenSpec.preRow_of_cond 8 hx (by kernel_rfl) (fun k hk => by cases hk) (by kernel_rfl) (laid_met os))) ?_
  intro W base args ds gs before hval0 hW _ hcond hsz0 hL _ _
  have hsz : (DataW.weightsEach Tryd.prog (Tryd.f3.params.toList ++ Rows.runesWritesSpec.plain.varTypes Tryd.prog) (ds ++ gs)).all (· ≤ reachBytes) = true := hsz0
  clear hsz0
  have hval : ∀ (j : Nat) t v, Tryd.f3.params[j]? = some t → args[j]? = some v → Value.okWide Tryd.prog W .any base t v := hval0
  have hW' := hW
  obtain ⟨p, q, hA0, hV, rfl, hfz, hnd⟩ := hW
  have hA : DataW.TrodAll enc Tryd.prog W 0 (fun _ => true) true Tryd.f3.params.toList args.toList ds p := hA0
  rw [Tryd.params3] at hA hval hsz
  obtain ⟨v0, vs0, d0, ds0, p0, q0, hargs, rfl, rfl, h0, r0⟩ := trodAll_cons hA
  obtain ⟨v1, vs1, d1, ds1, p1, q1, rfl, rfl, rfl, h1, r1⟩ := trodAll_cons r0
  obtain ⟨rfl, rfl, rfl⟩ := trodAll_nil r1
  obtain rfl : args = #[v0, v1] := by cases args; simp_all
  obtain ⟨rfl, rfl⟩ := trodVars_none hV
  obtain ⟨a0, len0, cap0, rfl⟩ := okWide_slice Tryd.underlying22 (hval 0 22 v0 rfl rfl)
  have k0 := h0
  have lt0 : ∀ x ∈ p0, x.block < W.heap.size := by obtain ⟨m, hm⟩ := k0; exact DataW.trod_lt m _ _ _ hm
  obtain ⟨z0, w0, b0⟩ : ∃ zs, IsRow .i64 W a0 len0 cap0 zs ∧ len0 * 8 ≤ 140737488351232 := by
    obtain ⟨fuel, hf⟩ := h0
    rcases open_ints Tryd.underlying22 Tryd.underlying2 (by kernel_rfl) hf with ⟨hcs, hx⟩ | ⟨x, l, c, zs, hcs, _, hl, hm, hz, hx, hcell, hwz⟩
    · simp [Value.cells] at hcs
      obtain ⟨rfl, rfl, rfl⟩ := hcs
      exact ⟨[], .inl ⟨rfl, rfl, rfl, rfl⟩, by omega⟩
    · simp [Value.cells] at hcs
      obtain ⟨rfl, rfl, rfl⟩ := hcs
      have hd := (Prod.mk.inj hx).1
      have hz' : zs.length = cap0 := by simpa using hz
      rw [hd] at hsz
      have hs := sized_slice hsz (j := 0) (t := 22) (e := 2) rfl rfl Tryd.underlying22
      rw [bytes2] at hs
      simp only [lits, List.length_map, List.length_take, List.length_drop, reachBytes] at hs
      exact ⟨zs, .inr ⟨_, rfl, hl, hm, hz', hcell, hwz⟩, by omega⟩
  obtain ⟨a1, rfl, rfl, rfl, w1⟩ := open_int Tryd.underlying2 (hval 1 2 v1 rfl rfl) h1
  clear hA0 hval0
  refine (walk a0 len0 cap0 z0 a1 W (tab_of hL) w0 b0).mono fun e W' ⟨he, bel⟩ => ?_
  subst he
  exact ⟨_, rfl, _, _, _, [], _, [], hW', trodAll_mk1 (shut_bool Tryd.underlying4 _), (trodAll_cons_mk (Below.trod laidOut (by kernel_rfl) (of_decide_eq_true (by kernel_rfl)) k0 bel lt0) (trodAll_cons_mk (shut_int Tryd.underlying2 w1) trodAll_mk0)), rfl, bel.frame _, fun h => by cases h⟩
theorem said : Rows.RunesWritesSaid :=
  OpenClaim.holds_of_cond 3 Tryd.f3 rfl rfl rfl rfl rfl rfl rfl ⟨rfl, rfl, rfl, rfl, rfl⟩ rfl rfl rfl rfl rfl (by kernel_rfl) Tryd.func3 (by kernel_rfl)
    (of_decide_eq_true (by kernel_rfl)) (by unfold Func.isWrapper; first | (rw [if_pos (by decide +kernel)]; kernel_rfl) | (rw [if_neg (by decide +kernel)]; exact ⟨rfl, rfl⟩))
    (fun os started H enc _ F => by rw [OpenClaim.pre_eq_preRow]; exact lifted os started H enc F)
theorem plain (f : FuncId) (fn : Func) (hf : Tryd.pinned.checked.prog.funcNamed "triglyph/triglyphlaw02.RunesWrites" = some f) (hfn : Tryd.pinned.checked.prog.funcs[f]? = some fn) :
    false = Tryd.pinned.checked.prog.looks [] ∧ ∀ (j : Nat) t, fn.params[j]? = some t → Tryd.pinned.checked.prog.wantsStandIn t = false := by
  obtain rfl : f = 3 := Option.some.inj ((show Tryd.prog.funcNamed "triglyph/triglyphlaw02.RunesWrites" = some 3 by kernel_rfl).symm.trans hf) |>.symm
  obtain rfl : fn = Tryd.f3 := (Option.some.inj (Tryd.func3.symm.trans hfn)).symm
  refine ⟨by kernel_rfl, fun j t ht => ?_⟩
  rw [Tryd.params3] at ht
  have hm : t = 22 ∨ t = 2 := by simpa using Array.mem_of_getElem? ht
  rcases hm with rfl | rfl
  · exact (show Tryd.prog.wantsStandIn 22 = false by kernel_rfl)
  · exact (show Tryd.prog.wantsStandIn 2 = false by kernel_rfl)
theorem proved : Rows.RunesWritesCardSaid :=
  Claim7.holds_tied_plain_at .later [] _ _ _ _ said (fun _ h => by cases h) (by kernel_rfl) (fun _ h => by cases h) runesWrites_row_tie rfl ⟨rfl, rfl⟩ (by kernel_rfl) rfl plain (by kernel_rfl)
end Go.Proofs.YtkigpbajbafpcaaDoor.runesWrites
namespace Go.Proofs.YtkigpbajbafpcaaDoor
theorem runesWrites_holds : Rows.RunesWritesCardSaid := runesWrites.proved
#print axioms runesWrites_holds
end Go.Proofs.YtkigpbajbafpcaaDoor
