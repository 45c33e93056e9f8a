/-
  For all int and all two arrays the statement AtomicTwo holds: any function of two arguments, cell by cell, of any two arrays is what the chapter says; no condition (the given row speaks of what a machine of 64 bits can hold, and of the table of layer 4 as its text lays it).
-/
import Derived.Test.YtkigfmfegldhcaaDoorAtK
import Derived.Test.YtkigfmfegldhcaaDoorAtP
namespace Go.Proofs.YtkigfmfegldhcaaDoor.atomicTwo
open Go.ChangeShapes Go.WideShapes Go.ChangeAt Go.RowKit
open Num (resV resE In64 sgnI absI)
set_option linter.unusedVariables false
set_option maxRecDepth 20000 in
set_option maxHeartbeats 16000000 in
theorem walk1 (op : Int) (n : Nat) (x y : Ar) (c0 c1 p0 p1 : Value) (w : World) (T : Tab w) (hx : ArIn (n + 1) 0 w x (.agg #[c0, c1])) (sx : Snd x) (hy : ArIn (n + 1) 0 w y (.agg #[p0, p1])) (sy : Snd y) :
    Calls Tryd.prog 5 #[.int .i64 op, .agg #[c0, c1], .agg #[p0, p1]] w fun e w' => e = .returned (.bool true) ∧ Below w.heap.size w w' := by
  have hx' := hx
  have hy' := hy
  obtain ⟨a1, k1, a2, k2, hv, -⟩ := hx'
  simp only [Value.agg.injEq, Array.mk.injEq, List.cons.injEq, and_true] at hv
  obtain ⟨rfl, rfl⟩ := hv
  obtain ⟨b1, l1, b2, l2, hv, -⟩ := hy'
  simp only [Value.agg.injEq, Array.mk.injEq, List.cons.injEq, and_true] at hv
  obtain ⟨rfl, rfl⟩ := hv
  obtain ⟨W0, eW⟩ : ∃ W0, W0 = (w.alloc (.cells #[.slice a1 x.shape.length k1, .slice a2 x.cells.length k2] 25)).alloc (.cells #[.slice b1 y.shape.length l1, .slice b2 y.cells.length l2] 25) := ⟨_, rfl⟩
  have B0 : Below w.heap.size w W0 := by rw [eW]; exact two_allocs _ _ _
  have s0 : W0.heap.size = w.heap.size + 2 := by rw [eW]; exact size_two _ _ _
  have KS : Hid (∀ W, Below W0.heap.size W0 W → (W.cell? ⟨w.heap.size, 0, none⟩ = some (.slice a1 x.shape.length k1) ∧ W.cell? ⟨w.heap.size, 1, none⟩ = some (.slice a2 x.cells.length k2)) ∧ W.cell? ⟨w.heap.size + 1, 0, none⟩ = some (.slice b1 y.shape.length l1) ∧ W.cell? ⟨w.heap.size + 1, 1, none⟩ = some (.slice b2 y.cells.length l2)) := by
    intro W h
    have t1 : ∀ i v, #[Value.slice a1 x.shape.length k1, .slice a2 x.cells.length k2][i]? = some v → W.cell? ⟨w.heap.size, i, none⟩ = some v := fun i v hv => (h.cell (p := ⟨w.heap.size, i, none⟩) (by show w.heap.size < _; omega)).trans (by rw [eW]; exact cell_new1 w _ 25 (0, 0) _ i _ hv)
    have t2 : ∀ i v, #[Value.slice b1 y.shape.length l1, .slice b2 y.cells.length l2][i]? = some v → W.cell? ⟨w.heap.size + 1, i, none⟩ = some v := fun i v hv => (h.cell (p := ⟨w.heap.size + 1, i, none⟩) (by show w.heap.size + 1 < _; omega)).trans (by rw [eW]; exact cell_new2 w _ 25 (0, 0) _ i _ hv)
    exact ⟨⟨t1 0 _ rfl, t1 1 _ rfl⟩, t2 0 _ rfl, t2 1 _ rfl⟩
  have HX : Hid (∀ W, Below w.heap.size w W → ArIn (n + 1) 0 W x (.agg #[.slice a1 x.shape.length k1, .slice a2 x.cells.length k2])) := fun W h => hx.next h
  have HY : Hid (∀ W, Below w.heap.size w W → ArIn (n + 1) 0 W y (.agg #[.slice b1 y.shape.length l1, .slice b2 y.cells.length l2])) := fun W h => hy.next h
  have HT := hide (fun W (h : Below w.heap.size w W) => T.next h)
  have HB := hide (fun W (h : Below W0.heap.size W0 W) => B0.trans (h.mono B0.size))
  have HSX := hide sx
  have HSY := hide sy
  clear hx hy T B0 s0 sx sy
  generalize x.shape.length = SA at *
  generalize x.cells.length = CA at *
  generalize y.shape.length = SB at *
  generalize y.cells.length = CB at *
  go_enter Tryd.func5, Tryd.ntmps5
  go_wp2_with fail
  rw [← eW]
  clear eW
  have J := Below.refl W0.heap.size W0
  refine (light_any (HX.out _ (HB.out _ J))).mono ?_
  rintro e t0 ⟨⟨r, rfl, -⟩, hb⟩
  replace J := J.trans (hb.mono J.size)
  clear hb
  cases r with
  | false =>
    have B := HB.out _ J
    clear HX HY KS HB
    go_wp2_with fail
    refine (works_any _ (HT.out _ B)).mono ?_
    rintro e w9 ⟨rfl, hb9⟩
    go_wp2
    go_ret
    exact ⟨rfl, B.trans (hb9.mono B.size)⟩
  | true =>
  obtain ⟨⟨q0, q1⟩, q2, q3⟩ := KS.out _ J
  go_wp2_with fail
  clear q0 q1 q2 q3
  refine (light_any (HY.out _ (HB.out _ J))).mono ?_
  rintro e t1 ⟨⟨r, rfl, -⟩, hb⟩
  replace J := J.trans (hb.mono J.size)
  clear hb
  cases r with
  | false =>
    have B := HB.out _ J
    clear HX HY KS HB
    go_wp2_with fail
    refine (works_any _ (HT.out _ B)).mono ?_
    rintro e w9 ⟨rfl, hb9⟩
    go_wp2
    go_ret
    exact ⟨rfl, B.trans (hb9.mono B.size)⟩
  | true =>
  have HD : Hid (∀ W, Below W0.heap.size W0 W → Calls Tryd.prog 19 #[.int .i64 op, .agg #[.slice a1 SA k1, .slice a2 CA k2], .agg #[.slice b1 SB l1, .slice b2 CB l2]] W fun e w' => (∃ g1 m1 g2 m2 g3 m3, e = .returned (.tuple #[.agg #[.slice g1 m1 g2, .slice m2 g3 m3], .int .i64 (dyE op x y)]) ∧ ∀ W', Below w'.heap.size w' W' → ArIn 1 0 W' (dyA op x y) (.agg #[.slice g1 m1 g2, .slice m2 g3 m3])) ∧ Below W.heap.size W w') := by
    intro W h
    refine (rdy_any 0 (n + 1) (n + 1) 0 0 op x y _ _ W (HX.out _ (HB.out _ h)) (HY.out _ (HB.out _ h)) HSX.out HSY.out).mono ?_
    rintro e w' ⟨⟨v, rfl, hv⟩, hb⟩
    obtain ⟨g1, g2, m2, m3, rfl⟩ := hv.form
    exact ⟨⟨_, _, _, _, _, _, rfl, fun W' hW => hv.mono (Nat.zero_le _) hW⟩, hb⟩
  have HC : Hid (∀ W, Below W0.heap.size W0 W → Calls Tryd.prog 18 #[.int .i64 op, .agg #[.slice a1 SA k1, .slice a2 CA k2], .agg #[.slice b1 SB l1, .slice b2 CB l2]] W fun e w' => (∃ g1 m1 g2 m2 g3 m3, e = .returned (.tuple #[.agg #[.slice g1 m1 g2, .slice m2 g3 m3], .int .i64 (dyE op x y)]) ∧ ∀ W', Below w'.heap.size w' W' → ArIn 1 0 W' (dyA op x y) (.agg #[.slice g1 m1 g2, .slice m2 g3 m3])) ∧ Below W.heap.size W w') := by
    intro W h
    refine (dy_any 0 (n + 1) (n + 1) 0 0 op x y _ _ W (HT.out _ (HB.out _ h)) (HX.out _ (HB.out _ h)) (HY.out _ (HB.out _ h)) HSX.out HSY.out).mono ?_
    rintro e w' ⟨⟨v, rfl, hv⟩, hb⟩
    obtain ⟨g1, g2, m2, m3, rfl⟩ := hv.form
    exact ⟨⟨_, _, _, _, _, _, rfl, fun W' hW => hv.mono (Nat.zero_le _) hW⟩, hb⟩
  generalize dyE op x y = E at *
  generalize dyA op x y = RA at *
  clear HX HY HSX HSY
  obtain ⟨⟨q0, q1⟩, q2, q3⟩ := KS.out _ J
  go_wp2_with fail
  clear q0 q1 q2 q3
  refine (HC.out _ J).mono ?_
  rintro e w4 ⟨⟨g1, m1, g2, m2, g3, m3, rfl, hv4⟩, hb4⟩
  obtain ⟨W5, e5⟩ : ∃ W5, W5 = w4.alloc (.cells #[.slice g1 m1 g2, .slice m2 g3 m3] 25) := ⟨_, rfl⟩
  have b5 : Below w4.heap.size w4 W5 := by rw [e5]; exact one_alloc _ _
  have s5 : W5.heap.size = w4.heap.size + 1 := by rw [e5]; simp
  have J4 := J.trans (hb4.mono J.size)
  have J5 := J4.trans (b5.mono J4.size)
  have HP : Hid (∀ W, Below W5.heap.size W5 W → W.cell? ⟨w4.heap.size, 0, none⟩ = some (.slice g1 m1 g2) ∧ W.cell? ⟨w4.heap.size, 1, none⟩ = some (.slice m2 g3 m3)) := by
    intro W h
    have t1 : ∀ i v, #[Value.slice g1 m1 g2, .slice m2 g3 m3][i]? = some v → W.cell? ⟨w4.heap.size, i, none⟩ = some v := fun i v hv => (h.cell (p := ⟨w4.heap.size, i, none⟩) (by show w4.heap.size < _; omega)).trans (by rw [e5]; exact cell_new0 w4 _ 25 i _ hv)
    exact ⟨t1 0 _ rfl, t1 1 _ rfl⟩
  obtain ⟨⟨q0, q1⟩, q2, q3⟩ := KS.out _ J5
  rw [e5] at q0 q1 q2 q3
  go_wp2_with fail
  rw [← e5]
  clear q0 q1 q2 q3 e5 s5
  refine (HD.out _ J5).mono ?_
  rintro e w6 ⟨⟨h1, i1, h2, i2, h3, i3, rfl, hv6⟩, hb6⟩
  have n6 := one_alloc w6 (.cells #[.slice h1 i1 h2, .slice i2 h3 i3] 25)
  have hb67 := hb6.trans (n6.mono hb6.size)
  obtain ⟨x0, x1⟩ := HP.out _ hb67
  have C5 := rsame_any (hv4 _ (b5.trans (hb67.mono b5.size))) (hv6 _ n6)
  rw [decide_eq_true (cmpA_self 1 RA)] at C5
  have HC5 := hide C5
  have HB7 := hide (HB.out _ (J5.trans (hb67.mono J5.size)))
  clear C5 HP hv4 hv6 n6 hb67 hb6 b5 hb4 J4 J5 J KS HC HD HB
  go_wp2_with fail
  clear x0 x1
  refine HC5.out.mono ?_
  rintro e w8 ⟨rfl, hb8⟩
  have B8 := HB7.out.trans (hb8.mono HB7.out.size)
  have T8 := HT.out _ B8
  clear HT HC5
  go_wp2_with fail
  refine (works_any _ T8).mono ?_
  rintro e w9 ⟨rfl, hb9⟩
  go_wp2
  go_ret
  exact ⟨rfl, B8.trans (hb9.mono B8.size)⟩
theorem walk (op : Int) (n0 : Nat) (x : Ar) (c0 c1 : Value) (n1 : Nat) (y : Ar) (p0 p1 : Value) (w : World) (T : Tab w) (ho : I64 op) (hx : ArIn n0 0 w x (.agg #[c0, c1])) (sx : Snd x) (hy : ArIn n1 0 w y (.agg #[p0, p1])) (sy : Snd y) :
    Calls Tryd.prog 5 #[.int .i64 op, .agg #[c0, c1], .agg #[p0, p1]] w fun e w' => e = .returned (.bool true) ∧ Below w.heap.size w w' :=
  walk1 op (n0 + n1) x y c0 c1 p0 p1 w T (hx.deep (by omega)) sx (hy.deep (by omega)) sy
theorem laid_met (os : Os) : laidMet Tryd.prog Rows.atomicTwoRow.laid ((laidWorld os).forCall (fun _ _ => 0) ⟨#[], #[.int .i64 0, .agg #[.slice none 0 0, .slice none 0 0], .agg #[.slice none 0 0, .slice none 0 0]], []⟩).memory :=
  laidMet_of_run' 8 (by kernel_rfl) (by kernel_rfl)
theorem reads (os : Os) {H : Type} (enc : TypeId × Value → H) : ∃ places, DataW.whole enc Tryd.prog ((laidWorld os).forCall (fun _ _ => 0) ⟨#[], #[.int .i64 0, .agg #[.slice none 0 0, .slice none 0 0], .agg #[.slice none 0 0, .slice none 0 0]], []⟩).memory Tryd.f5.params.toList Rows.atomicTwoSpec.vars false #[Value.int .i64 0, Value.agg #[.slice none 0 0, .slice none 0 0], Value.agg #[.slice none 0 0, .slice none 0 0]].toList 8 = some ([.lit (.int .i64 0), .agg [.nil, .nil], .agg [.nil, .nil]], [], places) :=
  ⟨[], by kernel_rfl⟩
set_option maxRecDepth 100000 in
theorem lifted (os : Os) (started : os.Started) (H : Type) (enc : TypeId × Value → H) (F : Stop.Interp) :
    ReturnsInHanded {} Tryd.checked os 5 .any ((OpenSpec.ofChange Rows.atomicTwoSpec).preRow enc Tryd.prog Tryd.f5 Rows.atomicTwoRow.domain false Rows.atomicTwoRow.laid) (((OpenSpec.ofChange Rows.atomicTwoSpec).at F).post enc Tryd.prog Tryd.f5 false true false false) := by
  obtain ⟨places, hx⟩ := reads os enc
  refine returnsInHanded_of_row (C := Tryd.checked) (s := OpenSpec.ofChange Rows.atomicTwoSpec) own started (by kernel_rfl) Tryd.func5
    (witness_row_at (enc := enc) (C := Tryd.checked) false (laidWorld os) #[.int .i64 0, .agg #[.slice none 0 0, .slice none 0 0], .agg #[.slice none 0 0, .slice none 0 0]] rfl (by kernel_rfl) (by kernel_rfl) (by kernel_rfl)
      (OpenSpec.preRow_of_cond 8 hx (by kernel_rfl) (fun k hk => by cases hk) (by kernel_rfl) (laid_met os))) ?_
  intro W base args ds gs before hval0 hW _ hcond hsz0 hL _ _
  have hsz : (DataW.weightsEach Tryd.prog (Tryd.f5.params.toList ++ Rows.atomicTwoSpec.plain.varTypes Tryd.prog) (ds ++ gs)).all (· ≤ reachBytes) = true := hsz0
  clear hsz0
  have hval : ∀ (j : Nat) t v, Tryd.f5.params[j]? = some t → args[j]? = some v → Value.okWide Tryd.prog W .any base t v := hval0
  have hW' := hW
  obtain ⟨p, q, hA0, hV, rfl, hfz, hnd⟩ := hW
  have hA : DataW.TrodAll enc Tryd.prog W 0 (fun _ => true) true Tryd.f5.params.toList args.toList ds p := hA0
  rw [Tryd.params5] at hA hval hsz
  obtain ⟨v0, vs0, d0, ds0, p0, q0, hargs, rfl, rfl, h0, r0⟩ := trodAll_cons hA
  obtain ⟨v1, vs1, d1, ds1, p1, q1, rfl, rfl, rfl, h1, r1⟩ := trodAll_cons r0
  obtain ⟨v2, vs2, d2, ds2, p2, q2, rfl, rfl, rfl, h2, r2⟩ := trodAll_cons r1
  obtain ⟨rfl, rfl, rfl⟩ := trodAll_nil r2
  obtain rfl : args = #[v0, v1, v2] := by cases args; simp_all
  obtain ⟨rfl, rfl⟩ := trodVars_none hV
  obtain ⟨x0, rfl, rfl, rfl, w0⟩ := open_int Tryd.underlying3 (hval 0 3 v0 rfl rfl) h0
  have k1 := h1
  have lt1 : ∀ x ∈ p1, x.block < W.heap.size := by obtain ⟨m, hm⟩ := k1; exact DataW.trod_lt m _ _ _ hm
  obtain ⟨n1, y1, c10, c11, hc1, w1, s1⟩ := arr_of hsz (j := 1) rfl rfl h1
  obtain rfl := agg_two hc1
  have k2 := h2
  have lt2 : ∀ x ∈ p2, x.block < W.heap.size := by obtain ⟨m, hm⟩ := k2; exact DataW.trod_lt m _ _ _ hm
  obtain ⟨n2, y2, c20, c21, hc2, w2, s2⟩ := arr_of hsz (j := 2) rfl rfl h2
  obtain rfl := agg_two hc2
  clear hA0 hval0
  refine (walk x0 n1 y1 c10 c11 n2 y2 c20 c21 W (tab_of hL) (bounds_i64 w0) w1 s1 w2 s2).mono fun e W' ⟨he, bel⟩ => ?_
  subst he
  exact ⟨_, rfl, _, _, _, [], _, [], hW', trodAll_mk1 (shut_bool Tryd.underlying4 _), (trodAll_cons_mk (shut_int Tryd.underlying3 w0) (trodAll_cons_mk (Below.trod laidOut (by kernel_rfl) (of_decide_eq_true (by kernel_rfl)) k1 bel lt1) (trodAll_cons_mk (Below.trod laidOut (by kernel_rfl) (of_decide_eq_true (by kernel_rfl)) k2 bel lt2) trodAll_mk0))), rfl, bel.frame _, fun h => by cases h⟩
theorem said : Rows.AtomicTwoSaid :=
  OpenClaim.holds_of_cond 5 Tryd.f5 rfl rfl rfl rfl rfl rfl rfl ⟨rfl, rfl, rfl, rfl, rfl⟩ rfl rfl rfl rfl rfl (by kernel_rfl) Tryd.func5 (by kernel_rfl)
    (of_decide_eq_true (by kernel_rfl)) (by unfold Func.isWrapper; first | (rw [if_pos (by decide +kernel)]; kernel_rfl) | (rw [if_neg (by decide +kernel)]; exact ⟨rfl, rfl⟩))
    (fun os started H enc _ F => by rw [OpenClaim.pre_eq_preRow]; exact lifted os started H enc F)
theorem plain (f : FuncId) (fn : Func) (hf : Tryd.pinned.checked.prog.funcNamed "triglyph/triglyphlaw04.AtomicTwo" = some f) (hfn : Tryd.pinned.checked.prog.funcs[f]? = some fn) :
    false = Tryd.pinned.checked.prog.looks [] ∧ ∀ (j : Nat) t, fn.params[j]? = some t → Tryd.pinned.checked.prog.wantsStandIn t = false := by
  obtain rfl : f = 5 := Option.some.inj ((show Tryd.prog.funcNamed "triglyph/triglyphlaw04.AtomicTwo" = some 5 by kernel_rfl).symm.trans hf) |>.symm
  obtain rfl : fn = Tryd.f5 := (Option.some.inj (Tryd.func5.symm.trans hfn)).symm
  refine ⟨by kernel_rfl, fun j t ht => ?_⟩
  rw [Tryd.params5] at ht
  have hm : t = 3 ∨ t = 25 := by simpa using Array.mem_of_getElem? ht
  rcases hm with rfl | rfl
  · exact (show Tryd.prog.wantsStandIn 3 = false by kernel_rfl)
  · exact (show Tryd.prog.wantsStandIn 25 = false by kernel_rfl)
theorem proved : Rows.AtomicTwoCardSaid :=
  Claim7.holds_tied_plain_at .later [] _ _ _ _ said (fun _ h => by cases h) (by kernel_rfl) (fun _ h => by cases h) atomicTwo_row_tie rfl ⟨rfl, rfl⟩ (by kernel_rfl) rfl plain (by kernel_rfl)
end Go.Proofs.YtkigfmfegldhcaaDoor.atomicTwo
namespace Go.Proofs.YtkigfmfegldhcaaDoor
theorem atomicTwo_holds : Rows.AtomicTwoCardSaid := atomicTwo.proved
#print axioms atomicTwo_holds
end Go.Proofs.YtkigfmfegldhcaaDoor
