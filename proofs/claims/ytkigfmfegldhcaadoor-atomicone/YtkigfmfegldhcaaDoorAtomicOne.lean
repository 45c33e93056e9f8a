/-
  For all int and all arrays the statement AtomicOne holds: any function of one argument, cell by cell, of any array is what the chapter says; no condition (the given row speaks of what a machine of 64 bits can hold, and of the table of layer 4 as its text lays it).
-/
import Derived.Test.YtkigfmfegldhcaaDoorAtK
import Derived.Test.YtkigfmfegldhcaaDoorAtO
namespace Go.Proofs.YtkigfmfegldhcaaDoor.atomicOne
open Go.ChangeShapes Go.WideShapes Go.ChangeAt Go.RowKit
set_option linter.unusedVariables false
set_option maxRecDepth 20000 in
set_option maxHeartbeats 8000000 in
theorem walk (op : Int) (n0 : Nat) (x : Ar) (c0 c1 : Value) (w : World) (T : Tab w) (ho : I64 op) (hx : ArIn n0 0 w x (.agg #[c0, c1])) (sx : Snd x) :
    Calls Tryd.prog 3 #[.int .i64 op, .agg #[c0, c1]] w fun e w' => e = .returned (.bool true) ∧ Below w.heap.size w w' := by
  obtain ⟨a1, k1, a2, k2, hv⟩ := hx.form
  simp only [Value.agg.injEq, Array.mk.injEq, List.cons.injEq, and_true] at hv
  obtain ⟨rfl, rfl⟩ := hv
  obtain ⟨W0, eW⟩ : ∃ W0, W0 = w.alloc (.cells #[.slice a1 x.shape.length k1, .slice a2 x.cells.length k2] 25) := ⟨_, rfl⟩
  have B0 : Below w.heap.size w W0 := by rw [eW]; exact one_alloc _ _
  have s0 : W0.heap.size = w.heap.size + 1 := by rw [eW]; simp
  have KS : Hid (∀ W, Below W0.heap.size W0 W → W.cell? ⟨w.heap.size, 0, none⟩ = some (.slice a1 x.shape.length k1) ∧ W.cell? ⟨w.heap.size, 1, none⟩ = some (.slice a2 x.cells.length k2)) := by
    intro W h
    have t1 : ∀ i v, #[Value.slice a1 x.shape.length k1, .slice a2 x.cells.length k2][i]? = some v → W.cell? ⟨w.heap.size, i, none⟩ = some v := fun i v hv => (h.cell (p := ⟨w.heap.size, i, none⟩) (by show w.heap.size < _; omega)).trans (by rw [eW]; exact cell_new0 w _ 25 i _ hv)
    exact ⟨t1 0 _ rfl, t1 1 _ rfl⟩
  have HB := hide (fun W (h : Below W0.heap.size W0 W) => B0.trans (h.mono B0.size))
  have HX : Hid (∀ W, Below w.heap.size w W → ArIn n0 0 W x (.agg #[.slice a1 x.shape.length k1, .slice a2 x.cells.length k2])) := fun W h => hx.next h
  have HT := hide (fun W (h : Below w.heap.size w W) => T.next h)
  have HC : Hid (∀ W, Below W0.heap.size W0 W → Calls Tryd.prog 11 #[.int .i64 op, .agg #[.slice a1 x.shape.length k1, .slice a2 x.cells.length k2]] W fun e w' => (∃ g1 m1 g2 m2 g3 m3, e = .returned (.tuple #[.agg #[.slice g1 m1 g2, .slice m2 g3 m3], .int .i64 (moE op x)]) ∧ ∀ W', Below w'.heap.size w' W' → ArIn 1 0 W' (moA op x) (.agg #[.slice g1 m1 g2, .slice m2 g3 m3])) ∧ Below W.heap.size W w') := by
    intro W h
    refine (mo_any 0 n0 0 op x _ W (HX.out _ (HB.out _ h)) sx).mono ?_
    rintro e w' ⟨⟨v, rfl, hv⟩, hb⟩
    obtain ⟨g1, g2, m2, m3, rfl⟩ := hv.form
    exact ⟨⟨_, _, _, _, _, _, rfl, fun W' hW => hv.mono (Nat.zero_le _) hW⟩, hb⟩
  have HD : Hid (∀ W, Below W0.heap.size W0 W → Calls Tryd.prog 12 #[.int .i64 op, .agg #[.slice a1 x.shape.length k1, .slice a2 x.cells.length k2]] W fun e w' => (∃ g1 m1 g2 m2 g3 m3, e = .returned (.tuple #[.agg #[.slice g1 m1 g2, .slice m2 g3 m3], .int .i64 (moE op x)]) ∧ ∀ W', Below w'.heap.size w' W' → ArIn 1 0 W' (moA op x) (.agg #[.slice g1 m1 g2, .slice m2 g3 m3])) ∧ Below W.heap.size W w') := by
    intro W h
    refine (rmo_any 0 n0 0 op x _ W (HX.out _ (HB.out _ h)) sx).mono ?_
    rintro e w' ⟨⟨v, rfl, hv⟩, hb⟩
    obtain ⟨g1, g2, m2, m3, rfl⟩ := hv.form
    exact ⟨⟨_, _, _, _, _, _, rfl, fun W' hW => hv.mono (Nat.zero_le _) hW⟩, hb⟩
  generalize moE op x = E at *
  generalize moA op x = RA at *
  generalize x.shape.length = SA at *
  generalize x.cells.length = CA at *
  clear hx T B0 s0 sx ho
  go_enter Tryd.func3, Tryd.ntmps3
  go_wp2_with fail
  rw [← eW]
  clear eW
  have J := Below.refl W0.heap.size W0
  refine (light_any (HX.out _ (HB.out _ J))).mono ?_
  rintro e t0 ⟨⟨r, rfl, -⟩, hb⟩
  replace J := J.trans (hb.mono J.size)
  clear hb HX
  cases r with
  | false =>
    have B := HB.out _ J
    clear KS HB HC HD
    go_wp2_with fail
    refine (works_any _ (HT.out _ B)).mono ?_
    rintro e w9 ⟨rfl, hb9⟩
    go_wp2
    go_ret
    exact ⟨rfl, B.trans (hb9.mono B.size)⟩
  | true =>
    obtain ⟨q0, q1⟩ := KS.out _ J
    go_wp2_with fail
    clear q0 q1
    refine (HC.out _ J).mono ?_
    rintro e w4 ⟨⟨g1, m1, g2, m2, g3, m3, rfl, hv4⟩, hb4⟩
    obtain ⟨W5, e5⟩ : ∃ W5, W5 = w4.alloc (.cells #[.slice g1 m1 g2, .slice m2 g3 m3] 25) := ⟨_, rfl⟩
    have b5 : Below w4.heap.size w4 W5 := by rw [e5]; exact one_alloc _ _
    have s5 : W5.heap.size = w4.heap.size + 1 := by rw [e5]; simp
    have J4 := J.trans (hb4.mono J.size)
    have J5 := J4.trans (b5.mono J4.size)
    have HP : Hid (∀ W, Below W5.heap.size W5 W → W.cell? ⟨w4.heap.size, 0, none⟩ = some (.slice g1 m1 g2) ∧ W.cell? ⟨w4.heap.size, 1, none⟩ = some (.slice m2 g3 m3)) := by
      intro W h
      have t1 : ∀ i v, #[Value.slice g1 m1 g2, .slice m2 g3 m3][i]? = some v → W.cell? ⟨w4.heap.size, i, none⟩ = some v := fun i v hv => (h.cell (p := ⟨w4.heap.size, i, none⟩) (by show w4.heap.size < _; omega)).trans (by rw [e5]; exact cell_new0 w4 _ 25 i _ hv)
      exact ⟨t1 0 _ rfl, t1 1 _ rfl⟩
    obtain ⟨q0, q1⟩ := KS.out _ J5
    rw [e5] at q0 q1
    go_wp2_with fail
    rw [← e5]
    clear q0 q1 e5 s5
    refine (HD.out _ J5).mono ?_
    rintro e w6 ⟨⟨h1, i1, h2, i2, h3, i3, rfl, hv6⟩, hb6⟩
    have n6 := one_alloc w6 (.cells #[.slice h1 i1 h2, .slice i2 h3 i3] 25)
    have hb67 := hb6.trans (n6.mono hb6.size)
    obtain ⟨x0, x1⟩ := HP.out _ hb67
    have C5 := rsame_any (hv4 _ (b5.trans (hb67.mono b5.size))) (hv6 _ n6)
    rw [decide_eq_true (cmpA_self 1 RA)] at C5
    have HC5 := hide C5
    have HB7 := hide (HB.out _ (J5.trans (hb67.mono J5.size)))
    clear C5 HP hv4 hv6 n6 hb67 hb6 b5 hb4 J4 J5 J KS HC HD HB
    go_wp2_with fail
    clear x0 x1
    refine HC5.out.mono ?_
    rintro e w8 ⟨rfl, hb8⟩
    have B8 := HB7.out.trans (hb8.mono HB7.out.size)
    have T8 := HT.out _ B8
    clear HT HC5
    go_wp2_with fail
    refine (works_any _ T8).mono ?_
    rintro e w9 ⟨rfl, hb9⟩
    go_wp2
    go_ret
    exact ⟨rfl, B8.trans (hb9.mono B8.size)⟩
theorem laid_met (os : Os) : laidMet Tryd.prog Rows.atomicOneRow.laid ((laidWorld os).forCall (fun _ _ => 0) ⟨#[], #[.int .i64 0, .agg #[.slice none 0 0, .slice none 0 0]], []⟩).memory :=
  laidMet_of_run' 8 (by kernel_rfl) (by kernel_rfl)
theorem reads (os : Os) {H : Type} (enc : TypeId × Value → H) : ∃ places, DataW.whole enc Tryd.prog ((laidWorld os).forCall (fun _ _ => 0) ⟨#[], #[.int .i64 0, .agg #[.slice none 0 0, .slice none 0 0]], []⟩).memory Tryd.f3.params.toList Rows.atomicOneSpec.vars false #[Value.int .i64 0, Value.agg #[.slice none 0 0, .slice none 0 0]].toList 8 = some ([.lit (.int .i64 0), .agg [.nil, .nil]], [], places) :=
  ⟨[], by kernel_rfl⟩
set_option maxRecDepth 100000 in
theorem lifted (os : Os) (started : os.Started) (H : Type) (enc : TypeId × Value → H) (F : Stop.Interp) :
    ReturnsInHanded {} Tryd.checked os 3 .any ((OpenSpec.ofChange Rows.atomicOneSpec).preRow enc Tryd.prog Tryd.f3 Rows.atomicOneRow.domain false Rows.atomicOneRow.laid) (((OpenSpec.ofChange Rows.atomicOneSpec).at F).post enc Tryd.prog Tryd.f3 false true false false) := by
  obtain ⟨places, hx⟩ := reads os enc
  refine returnsInHanded_of_row (C := Tryd.checked) (s := OpenSpec.ofChange Rows.atomicOneSpec) own started (by kernel_rfl) Tryd.func3
    (witness_row_at (enc := enc) (C := Tryd.checked) false (laidWorld os) #[.int .i64 0, .agg #[.slice none 0 0, .slice none 0 0]] rfl (by kernel_rfl) (by kernel_rfl) (by kernel_rfl)
      (OpenSpec.preRow_of_cond 8 hx (by kernel_rfl) (fun k hk => by cases hk) (by kernel_rfl) (laid_met os))) ?_
  intro W base args ds gs before hval0 hW _ hcond hsz0 hL _ _
  have hsz : (DataW.weightsEach Tryd.prog (Tryd.f3.params.toList ++ Rows.atomicOneSpec.plain.varTypes Tryd.prog) (ds ++ gs)).all (· ≤ reachBytes) = true := hsz0
  clear hsz0
  have hval : ∀ (j : Nat) t v, Tryd.f3.params[j]? = some t → args[j]? = some v → Value.okWide Tryd.prog W .any base t v := hval0
  have hW' := hW
  obtain ⟨p, q, hA0, hV, rfl, hfz, hnd⟩ := hW
  have hA : DataW.TrodAll enc Tryd.prog W 0 (fun _ => true) true Tryd.f3.params.toList args.toList ds p := hA0
  rw [Tryd.params3] at hA hval hsz
  obtain ⟨v0, vs0, d0, ds0, p0, q0, hargs, rfl, rfl, h0, r0⟩ := trodAll_cons hA
  obtain ⟨v1, vs1, d1, ds1, p1, q1, rfl, rfl, rfl, h1, r1⟩ := trodAll_cons r0
  obtain ⟨rfl, rfl, rfl⟩ := trodAll_nil r1
  obtain rfl : args = #[v0, v1] := by cases args; simp_all
  obtain ⟨rfl, rfl⟩ := trodVars_none hV
  obtain ⟨x0, rfl, rfl, rfl, w0⟩ := open_int Tryd.underlying3 (hval 0 3 v0 rfl rfl) h0
  have k1 := h1
  have lt1 : ∀ x ∈ p1, x.block < W.heap.size := by obtain ⟨m, hm⟩ := k1; exact DataW.trod_lt m _ _ _ hm
  obtain ⟨n1, y1, c10, c11, hc1, w1, s1⟩ := arr_of hsz (j := 1) rfl rfl h1
  obtain rfl := agg_two hc1
  clear hA0 hval0
  refine (walk x0 n1 y1 c10 c11 W (tab_of hL) (bounds_i64 w0) w1 s1).mono fun e W' ⟨he, bel⟩ => ?_
  subst he
  exact ⟨_, rfl, _, _, _, [], _, [], hW', trodAll_mk1 (shut_bool Tryd.underlying4 _), (trodAll_cons_mk (shut_int Tryd.underlying3 w0) (trodAll_cons_mk (Below.trod laidOut (by kernel_rfl) (of_decide_eq_true (by kernel_rfl)) k1 bel lt1) trodAll_mk0)), rfl, bel.frame _, fun h => by cases h⟩
theorem said : Rows.AtomicOneSaid :=
  OpenClaim.holds_of_cond 3 Tryd.f3 rfl rfl rfl rfl rfl rfl rfl ⟨rfl, rfl, rfl, rfl, rfl⟩ rfl rfl rfl rfl rfl (by kernel_rfl) Tryd.func3 (by kernel_rfl)
    (of_decide_eq_true (by kernel_rfl)) (by unfold Func.isWrapper; first | (rw [if_pos (by decide +kernel)]; kernel_rfl) | (rw [if_neg (by decide +kernel)]; exact ⟨rfl, rfl⟩))
    (fun os started H enc _ F => by rw [OpenClaim.pre_eq_preRow]; exact lifted os started H enc F)
theorem plain (f : FuncId) (fn : Func) (hf : Tryd.pinned.checked.prog.funcNamed "triglyph/triglyphlaw04.AtomicOne" = some f) (hfn : Tryd.pinned.checked.prog.funcs[f]? = some fn) :
    false = Tryd.pinned.checked.prog.looks [] ∧ ∀ (j : Nat) t, fn.params[j]? = some t → Tryd.pinned.checked.prog.wantsStandIn t = false := by
  obtain rfl : f = 3 := Option.some.inj ((show Tryd.prog.funcNamed "triglyph/triglyphlaw04.AtomicOne" = some 3 by kernel_rfl).symm.trans hf) |>.symm
  obtain rfl : fn = Tryd.f3 := (Option.some.inj (Tryd.func3.symm.trans hfn)).symm
  refine ⟨by kernel_rfl, fun j t ht => ?_⟩
  rw [Tryd.params3] at ht
  have hm : t = 3 ∨ t = 25 := by simpa using Array.mem_of_getElem? ht
  rcases hm with rfl | rfl
  · exact (show Tryd.prog.wantsStandIn 3 = false by kernel_rfl)
  · exact (show Tryd.prog.wantsStandIn 25 = false by kernel_rfl)
theorem proved : Rows.AtomicOneCardSaid :=
  Claim7.holds_tied_plain_at .later [] _ _ _ _ said (fun _ h => by cases h) (by kernel_rfl) (fun _ h => by cases h) atomicOne_row_tie rfl ⟨rfl, rfl⟩ (by kernel_rfl) rfl plain (by kernel_rfl)
end Go.Proofs.YtkigfmfegldhcaaDoor.atomicOne
namespace Go.Proofs.YtkigfmfegldhcaaDoor
theorem atomicOne_holds : Rows.AtomicOneCardSaid := atomicOne.proved
#print axioms atomicOne_holds
end Go.Proofs.YtkigfmfegldhcaaDoor
