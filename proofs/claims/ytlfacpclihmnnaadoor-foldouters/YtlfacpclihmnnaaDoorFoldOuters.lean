/-
  For all int, bool and all two arrays the statement FoldOuters holds: any function of each cell of an array with each of another one is what the chapter says; no condition (the given row speaks of what a machine of 64 bits can hold, and of the table of layer 4 as its text lays it).
-/
import Derived.Test.YtlfacpclihmnnaaDoorM8
import Derived.WalkKit
import Derived.Test.YtlfacpclihmnnaaDoorChecked
import GoSem.Claim
import GoSem.ClaimJoined
import GoSem.ClaimMapViews
import Derived.JoinedTies
import Derived.KernelRfl
import Derived.ProofKit
import Derived.Below
import Derived.Deep.OwnRows
import Derived.Deep.QuietTactic
import Derived.BigQuiet
import Derived.Deep.RegionWith
import Derived.Laws.MakeOwn
import Derived.Deep.RegionHeld3
import Derived.OpenShut
import Derived.Lib.Mul64
import Derived.Laws.Bits64b
import Derived.ChangeOld
import Derived.SizedLaws
import Derived.Deep.Slices
import Derived.Deep.Strs
import Derived.Deep.LoopGhost
import Derived.Laws.IdiomCopy
import Derived.Deep.Cut
import Derived.Deep.RegionLaw
import Derived.Laws.AppendOwnNone
import Derived.BigFrame
import Derived.Laws.OwnMore
import Derived.OwnWalk
import Derived.Lib.SliceRun
import Derived.Deep.CutRange
import Derived.Laws.EntriesVeiled
import GoSem.ClaimSeven
import Derived.LaidByTextLater
import Derived.SevenTiedAt
import Derived.LaidSub
import Derived.LaidOnce
import Derived.Deep.DeepHandedRow
import Derived.Lib.LaidTab
namespace Go.Proofs.YtlfacpclihmnnaaDoor.foldOuters
open Go.ChangeShapes Go.WideShapes Go.ChangeAt Go.RowKit
open Num (resV resE In64 sgnI absI)
set_option linter.unusedVariables false
set_option maxRecDepth 100000 in
set_option maxHeartbeats 16000000 in
theorem walk1 (op : Int) (t : Bool) (n : Nat) (x y : Ar) (c0 c1 p0 p1 : Value) (w : World) (T : Tab w) (hx : ArIn (n + 1) 0 w x (.agg #[c0, c1])) (sx : Snd x) (hy : ArIn (n + 1) 0 w y (.agg #[p0, p1])) (sy : Snd y) :
    Calls Tryd.prog 5 #[.int .i64 op, .bool t, .agg #[c0, c1], .agg #[p0, p1]] w fun e w' => e = .returned (.bool true) ∧ Below w.heap.size w w' := by
  obtain ⟨a1, k1, a2, k2, hv, -, -⟩ := hx.formC
  simp only [Value.agg.injEq, Array.mk.injEq, List.cons.injEq, and_true] at hv
  obtain ⟨rfl, rfl⟩ := hv
  obtain ⟨b1, l1, b2, l2, hv, -, -⟩ := hy.formC
  simp only [Value.agg.injEq, Array.mk.injEq, List.cons.injEq, and_true] at hv
  obtain ⟨rfl, rfl⟩ := hv
  have hin : ∀ k, k < x.cells.length → In64 (cAt x.cells k).2.1 := fun k hk => (sx.cell (cAt_mem hk)).2.1
  have hin2 : ∀ k, k < y.cells.length → In64 (cAt y.cells k).2.1 := fun k hk => (sy.cell (cAt_mem hk)).2.1
  obtain ⟨W0, eW⟩ : ∃ W0, (w.alloc (.cells #[.slice a1 x.shape.length k1, .slice a2 x.cells.length k2] 25)).alloc (.cells #[.slice b1 y.shape.length l1, .slice b2 y.cells.length l2] 25) = W0 := ⟨_, rfl⟩
  have B0 : Below w.heap.size w W0 := by rw [← eW]; exact two_allocs _ _ _
  have s0 : W0.heap.size = w.heap.size + 2 := by rw [← eW]; exact size_two _ _ _
  have KS : Hid (∀ W, Below W0.heap.size W0 W → (W.cell? ⟨w.heap.size, 0, none⟩ = some (.slice a1 x.shape.length k1) ∧ W.cell? ⟨w.heap.size, 1, none⟩ = some (.slice a2 x.cells.length k2)) ∧ W.cell? ⟨w.heap.size + 1, 0, none⟩ = some (.slice b1 y.shape.length l1) ∧ W.cell? ⟨w.heap.size + 1, 1, none⟩ = some (.slice b2 y.cells.length l2)) := fun W h =>
    ⟨⟨(h.cell (p := ⟨w.heap.size, 0, none⟩) (by show w.heap.size < _; omega)).trans (by rw [← eW]; exact cell_new1 w _ 25 (0, 0) _ 0 _ rfl), (h.cell (p := ⟨w.heap.size, 1, none⟩) (by show w.heap.size < _; omega)).trans (by rw [← eW]; exact cell_new1 w _ 25 (0, 0) _ 1 _ rfl)⟩, (h.cell (p := ⟨w.heap.size + 1, 0, none⟩) (by show w.heap.size + 1 < _; omega)).trans (by rw [← eW]; exact cell_new2 w _ 25 (0, 0) _ 0 _ rfl), (h.cell (p := ⟨w.heap.size + 1, 1, none⟩) (by show w.heap.size + 1 < _; omega)).trans (by rw [← eW]; exact cell_new2 w _ 25 (0, 0) _ 1 _ rfl)⟩
  have HX : Hid (∀ W, Below W0.heap.size W0 W → ArIn (n + 1) 0 W x (.agg #[.slice a1 x.shape.length k1, .slice a2 x.cells.length k2])) := fun W h => hx.next (B0.trans (h.mono B0.size))
  have HY : Hid (∀ W, Below W0.heap.size W0 W → ArIn (n + 1) 0 W y (.agg #[.slice b1 y.shape.length l1, .slice b2 y.cells.length l2])) := fun W h => hy.next (B0.trans (h.mono B0.size))
  have HT : Hid (∀ W, Below W0.heap.size W0 W → Tab W) := fun W h => T.next (B0.trans (h.mono B0.size))
  have HB : Hid (∀ W, Below W0.heap.size W0 W → Below w.heap.size w W) := fun W h => B0.trans (h.mono B0.size)
  have HIN := hide (And.intro hin hin2)
  have HC1 : Hid (∀ W, Below W0.heap.size W0 W → Calls Tryd.prog 17 #[.agg #[.int .i64 op, .bool t], .agg #[.slice a1 x.shape.length k1, .slice a2 x.cells.length k2], .agg #[.slice b1 y.shape.length l1, .slice b2 y.cells.length l2]] W fun e w' => (∃ g1 m1 g2 m2 g3 m3, e = .returned (.tuple #[.agg #[.slice g1 m1 g2, .slice m2 g3 m3], .int .i64 (outR op t x y).2]) ∧ ∀ W', Below w'.heap.size w' W' → ArIn (n + 1) 0 W' (outR op t x y).1 (.agg #[.slice g1 m1 g2, .slice m2 g3 m3])) ∧ Below W.heap.size W w') := fun W h => by
    refine (outer17 (HX.out W h) (HY.out W h) HIN.out.1 HIN.out.2 (HT.out W h)).mono ?_
    rintro e w' ⟨⟨v, rfl, hv⟩, hb⟩
    obtain ⟨g1, g2, m2, m3, rfl⟩ := hv.form
    exact ⟨⟨_, _, _, _, _, _, rfl, fun W' hW => hv.mono (Nat.zero_le _) hW⟩, hb⟩
  have HC2 : Hid (∀ W, Below W0.heap.size W0 W → Calls Tryd.prog 18 #[.int .i64 op, .bool t, .agg #[.slice a1 x.shape.length k1, .slice a2 x.cells.length k2], .agg #[.slice b1 y.shape.length l1, .slice b2 y.cells.length l2]] W fun e w' => (∃ g1 m1 g2 m2 g3 m3, e = .returned (.tuple #[.agg #[.slice g1 m1 g2, .slice m2 g3 m3], .int .i64 (outR op t x y).2]) ∧ ∀ W', Below w'.heap.size w' W' → ArIn (n + 1) 0 W' (outR op t x y).1 (.agg #[.slice g1 m1 g2, .slice m2 g3 m3])) ∧ Below W.heap.size W w') := fun W h => by
    refine (router18 (HX.out W h) (HY.out W h) HIN.out.1 HIN.out.2).mono ?_
    rintro e w' ⟨⟨v, rfl, hv⟩, hb⟩
    obtain ⟨g1, g2, m2, m3, rfl⟩ := hv.form
    exact ⟨⟨_, _, _, _, _, _, rfl, fun W' hW => hv.mono (Nat.zero_le _) hW⟩, hb⟩
  obtain ⟨RA, hRA⟩ : ∃ RA, (outR op t x y).1 = RA := ⟨_, rfl⟩
  obtain ⟨E, hE⟩ : ∃ E, (outR op t x y).2 = E := ⟨_, rfl⟩
  rw [hRA, hE] at HC1 HC2
  have HLI : Hid (∀ W, Below W0.heap.size W0 W → Calls Tryd.prog 9 #[.agg #[.slice a1 x.shape.length k1, .slice a2 x.cells.length k2]] W fun e w' => GivesB W e w') := fun W h => light9 (HX.out W h)
  have HNA : Hid (∀ W, Below W0.heap.size W0 W → Calls Tryd.prog 9 #[.agg #[.slice b1 y.shape.length l1, .slice b2 y.cells.length l2]] W fun e w' => GivesB W e w') := fun W h => light9 (HY.out W h)
  clear hx hy T B0 sx sy hin hin2 HX HY HIN hRA hE s0
  generalize x.shape.length = SA at *
  generalize x.cells.length = CA at *
  generalize y.shape.length = SB at *
  generalize y.cells.length = CB at *
  have J := Below.refl W0.heap.size W0
  obtain ⟨⟨q0, q1⟩, q2, q3⟩ := KS.out W0 J
  have HE := hide eW
  clear eW
  go_enter Tryd.func5, Tryd.ntmps5
  go_upto_region 1 with fail
  rw [HE.out]
  clear HE
  go_wp2_with fail
  clear q0 q1 q2 q3
  refine (HLI.out _ J).mono ?_
  rintro e t0 ⟨⟨r, rfl⟩, hb⟩
  replace J := J.trans (hb.mono J.size)
  clear hb
  cases r with
  | false =>
    have B := HB.out _ J
    have CW := works11 t0 (HT.out _ J)
    clear KS HB HT HC1 HC2 HLI HNA
    go_wp2_with fail
    refine CW.mono ?_
    rintro e w9 ⟨rfl, hb9⟩
    go_wp2
    go_ret
    exact ⟨rfl, B.trans (hb9.mono B.size)⟩
  | true =>
  obtain ⟨⟨q0, q1⟩, q2, q3⟩ := KS.out _ J
  go_wp2_with fail
  clear q0 q1 q2 q3
  refine (HNA.out _ J).mono ?_
  rintro e t1 ⟨⟨r, rfl⟩, hb⟩
  replace J := J.trans (hb.mono J.size)
  clear hb
  cases r with
  | false =>
    have B := HB.out _ J
    have CW := works11 t1 (HT.out _ J)
    clear KS HB HT HC1 HC2 HLI HNA
    go_wp2_with fail
    refine CW.mono ?_
    rintro e w9 ⟨rfl, hb9⟩
    go_wp2
    go_ret
    exact ⟨rfl, B.trans (hb9.mono B.size)⟩
  | true =>
  obtain ⟨⟨q0, q1⟩, q2, q3⟩ := KS.out _ J
  go_wp2_with fail
  clear q0 q1 q2 q3
  refine (HC1.out _ J).mono ?_
  rintro e w4 ⟨⟨g1, m1, g2, m2, g3, m3, rfl, hv4⟩, hb4⟩
  obtain ⟨W5, e5⟩ : ∃ W5, w4.alloc (.cells #[.slice g1 m1 g2, .slice m2 g3 m3] 25) = W5 := ⟨_, rfl⟩
  have b5 : Below w4.heap.size w4 W5 := by rw [← e5]; exact one_alloc _ _
  have J4 := J.trans (hb4.mono J.size)
  have J5 := J4.trans (b5.mono J4.size)
  have HP : Hid (∀ W, Below W5.heap.size W5 W → W.cell? ⟨w4.heap.size, 0, none⟩ = some (.slice g1 m1 g2) ∧ W.cell? ⟨w4.heap.size, 1, none⟩ = some (.slice m2 g3 m3)) := fun W h => by
    rw [← e5] at h
    exact ⟨(h.cell (p := ⟨w4.heap.size, 0, none⟩) (by simp)).trans (cell_new0 w4 _ 25 0 _ rfl), (h.cell (p := ⟨w4.heap.size, 1, none⟩) (by simp)).trans (cell_new0 w4 _ 25 1 _ rfl)⟩
  obtain ⟨⟨q0, q1⟩, q2, q3⟩ := KS.out _ J5
  have HE5 := hide e5
  clear e5
  go_upto_region 4 with fail
  rw [HE5.out]
  clear HE5
  go_wp2_with fail
  clear q0 q1 q2 q3
  refine (HC2.out _ J5).mono ?_
  rintro e w6 ⟨⟨h1, i1, h2, i2, h3, i3, rfl, hv6⟩, hb6⟩
  have n6 := one_alloc w6 (.cells #[.slice h1 i1 h2, .slice i2 h3 i3] 25)
  have hb67 := hb6.trans (n6.mono hb6.size)
  obtain ⟨x0, x1⟩ := HP.out _ hb67
  have C5 := rsame_any (hv4 _ (b5.trans (hb67.mono b5.size))) (hv6 _ n6)
  rw [decide_eq_true (cmpA_self (n + 1) RA)] at C5
  have HC5 := hide C5
  have J7 := J5.trans (hb67.mono J5.size)
  have HB7 := hide (HB.out _ J7)
  have HT7 : Hid (∀ W, Below (w6.alloc (.cells #[.slice h1 i1 h2, .slice i2 h3 i3] 25)).heap.size (w6.alloc (.cells #[.slice h1 i1 h2, .slice i2 h3 i3] 25)) W → Tab W) := fun W h => HT.out W (J7.trans (h.mono J7.size))
  clear C5 HP hv4 hv6 n6 hb67 hb6 b5 hb4 J4 J5 J J7 KS HC1 HC2 HB HT HLI HNA
  go_wp2_with fail
  clear x0 x1
  refine HC5.out.mono ?_
  rintro e w8 ⟨rfl, hb8⟩
  have B8 := HB7.out.trans (hb8.mono HB7.out.size)
  have CW := works11 w8 (HT7.out _ hb8)
  clear HT7 HC5
  go_wp2_with fail
  refine CW.mono ?_
  rintro e w9 ⟨rfl, hb9⟩
  go_wp2
  go_ret
  exact ⟨rfl, B8.trans (hb9.mono B8.size)⟩
theorem walk (op : Int) (t : Bool) (n0 : Nat) (x : Ar) (c0 c1 : Value) (n1 : Nat) (y : Ar) (p0 p1 : Value) (w : World) (T : Tab w) (ho : I64 op) (hx : ArIn n0 0 w x (.agg #[c0, c1])) (sx : Snd x) (hy : ArIn n1 0 w y (.agg #[p0, p1])) (sy : Snd y) :
    Calls Tryd.prog 5 #[.int .i64 op, .bool t, .agg #[c0, c1], .agg #[p0, p1]] w fun e w' => e = .returned (.bool true) ∧ Below w.heap.size w w' :=
  walk1 op t (n0 + n1) x y c0 c1 p0 p1 w T (hx.deep (by omega)) sx (hy.deep (by omega)) sy
theorem laid_met (os : Os) : laidMet Tryd.prog Rows.foldOutersRow.laid ((laidWorld os).forCall (fun _ _ => 0) ⟨#[], #[.int .i64 0, .bool false, .agg #[.slice none 0 0, .slice none 0 0], .agg #[.slice none 0 0, .slice none 0 0]], []⟩).memory :=
  laidMet_of_run' 8 (by kernel_rfl) (by kernel_rfl)
theorem reads (os : Os) {H : Type} (enc : TypeId × Value → H) : ∃ places, DataW.whole enc Tryd.prog ((laidWorld os).forCall (fun _ _ => 0) ⟨#[], #[.int .i64 0, .bool false, .agg #[.slice none 0 0, .slice none 0 0], .agg #[.slice none 0 0, .slice none 0 0]], []⟩).memory Tryd.f5.params.toList Rows.foldOutersSpec.vars false #[Value.int .i64 0, Value.bool false, Value.agg #[.slice none 0 0, .slice none 0 0], Value.agg #[.slice none 0 0, .slice none 0 0]].toList 8 = some ([.lit (.int .i64 0), .lit (.bool false), .agg [.nil, .nil], .agg [.nil, .nil]], [], places) :=
  ⟨[], by kernel_rfl⟩
set_option maxRecDepth 100000 in
theorem lifted (os : Os) (started : os.Started) (H : Type) (enc : TypeId × Value → H) (F : Stop.Interp) :
    ReturnsInHanded {} Tryd.checked os 5 .any ((OpenSpec.ofChange Rows.foldOutersSpec).preRow enc Tryd.prog Tryd.f5 Rows.foldOutersRow.domain false Rows.foldOutersRow.laid) (((OpenSpec.ofChange Rows.foldOutersSpec).at F).post enc Tryd.prog Tryd.f5 false true false false) := by
  obtain ⟨places, hx⟩ := reads os enc
  refine returnsInHanded_of_row (C := Tryd.checked) (s := OpenSpec.ofChange Rows.foldOutersSpec) own started (by kernel_rfl) Tryd.func5
    (witness_row_at (enc := enc) (C := Tryd.checked) false (laidWorld os) #[.int .i64 0, .bool false, .agg #[.slice none 0 0, .slice none 0 0], .agg #[.slice none 0 0, .slice none 0 0]] rfl (by kernel_rfl) (by kernel_rfl) (by kernel_rfl)
      (OpenSpec.preRow_of_cond 8 hx (by kernel_rfl) (fun k hk => by cases hk) (by kernel_rfl) (laid_met os))) ?_
  intro W base args ds gs before hval0 hW _ hcond hsz0 hL _ _
  have hsz : (DataW.weightsEach Tryd.prog (Tryd.f5.params.toList ++ Rows.foldOutersSpec.plain.varTypes Tryd.prog) (ds ++ gs)).all (· ≤ reachBytes) = true := hsz0
  clear hsz0
  have hval : ∀ (j : Nat) t v, Tryd.f5.params[j]? = some t → args[j]? = some v → Value.okWide Tryd.prog W .any base t v := hval0
  have hW' := hW
  obtain ⟨p, q, hA0, hV, rfl, hfz, hnd⟩ := hW
  have hA : DataW.TrodAll enc Tryd.prog W 0 (fun _ => true) true Tryd.f5.params.toList args.toList ds p := hA0
  rw [Tryd.params5] at hA hval hsz
  obtain ⟨v0, vs0, d0, ds0, p0, q0, hargs, rfl, rfl, h0, r0⟩ := trodAll_cons hA
  obtain ⟨v1, vs1, d1, ds1, p1, q1, rfl, rfl, rfl, h1, r1⟩ := trodAll_cons r0
  obtain ⟨v2, vs2, d2, ds2, p2, q2, rfl, rfl, rfl, h2, r2⟩ := trodAll_cons r1
  obtain ⟨v3, vs3, d3, ds3, p3, q3, rfl, rfl, rfl, h3, r3⟩ := trodAll_cons r2
  obtain ⟨rfl, rfl, rfl⟩ := trodAll_nil r3
  obtain rfl : args = #[v0, v1, v2, v3] := by cases args; simp_all
  obtain ⟨rfl, rfl⟩ := trodVars_none hV
  obtain ⟨x0, rfl, rfl, rfl, w0⟩ := open_int Tryd.underlying3 (hval 0 3 v0 rfl rfl) h0
  obtain ⟨x1, rfl, rfl, rfl⟩ := open_bool Tryd.underlying4 (hval 1 4 v1 rfl rfl) h1
  have k2 := h2
  have lt2 : ∀ x ∈ p2, x.block < W.heap.size := by obtain ⟨m, hm⟩ := k2; exact DataW.trod_lt m _ _ _ hm
  obtain ⟨n2, y2, c20, c21, hc2, w2, s2⟩ := arr_of hsz (j := 2) rfl rfl h2
  obtain rfl := agg_two hc2
  have k3 := h3
  have lt3 : ∀ x ∈ p3, x.block < W.heap.size := by obtain ⟨m, hm⟩ := k3; exact DataW.trod_lt m _ _ _ hm
  obtain ⟨n3, y3, c30, c31, hc3, w3, s3⟩ := arr_of hsz (j := 3) rfl rfl h3
  obtain rfl := agg_two hc3
  clear hA0 hval0
  refine (walk x0 x1 n2 y2 c20 c21 n3 y3 c30 c31 W (tab_of hL) (bounds_i64 w0) w2 s2 w3 s3).mono fun e W' ⟨he, bel⟩ => ?_
  subst he
  exact ⟨_, rfl, _, _, _, [], _, [], hW', trodAll_mk1 (shut_bool Tryd.underlying4 _), (trodAll_cons_mk (shut_int Tryd.underlying3 w0) (trodAll_cons_mk (shut_bool Tryd.underlying4 _) (trodAll_cons_mk (Below.trod laidOut (by kernel_rfl) (of_decide_eq_true (by kernel_rfl)) k2 bel lt2) (trodAll_cons_mk (Below.trod laidOut (by kernel_rfl) (of_decide_eq_true (by kernel_rfl)) k3 bel lt3) trodAll_mk0)))), rfl, bel.frame _, fun h => by cases h⟩
theorem said : Rows.FoldOutersSaid :=
  OpenClaim.holds_of_cond 5 Tryd.f5 rfl rfl rfl rfl rfl rfl rfl ⟨rfl, rfl, rfl, rfl, rfl⟩ rfl rfl rfl rfl rfl (by kernel_rfl) Tryd.func5 (by kernel_rfl)
    (of_decide_eq_true (by kernel_rfl)) (by unfold Func.isWrapper; first | (rw [if_pos (by decide +kernel)]; kernel_rfl) | (rw [if_neg (by decide +kernel)]; exact ⟨rfl, rfl⟩))
    (fun os started H enc _ F => by rw [OpenClaim.pre_eq_preRow]; exact lifted os started H enc F)
theorem plain (f : FuncId) (fn : Func) (hf : Tryd.pinned.checked.prog.funcNamed "triglyph/triglyphlaw08.FoldOuters" = some f) (hfn : Tryd.pinned.checked.prog.funcs[f]? = some fn) :
    false = Tryd.pinned.checked.prog.looks [] ∧ ∀ (j : Nat) t, fn.params[j]? = some t → Tryd.pinned.checked.prog.wantsStandIn t = false := by
  obtain rfl : f = 5 := Option.some.inj ((show Tryd.prog.funcNamed "triglyph/triglyphlaw08.FoldOuters" = some 5 by kernel_rfl).symm.trans hf) |>.symm
  obtain rfl : fn = Tryd.f5 := (Option.some.inj (Tryd.func5.symm.trans hfn)).symm
  refine ⟨by kernel_rfl, fun j t ht => ?_⟩
  rw [Tryd.params5] at ht
  have hm : t = 3 ∨ t = 4 ∨ t = 25 ∨ t = 25 := by simpa using Array.mem_of_getElem? ht
  rcases hm with rfl | rfl | rfl | rfl
  · exact (show Tryd.prog.wantsStandIn 3 = false by kernel_rfl)
  · exact (show Tryd.prog.wantsStandIn 4 = false by kernel_rfl)
  · exact (show Tryd.prog.wantsStandIn 25 = false by kernel_rfl)
  · exact (show Tryd.prog.wantsStandIn 25 = false by kernel_rfl)
theorem proved : Rows.FoldOutersCardSaid :=
  Claim7.holds_tied_plain_at .later [] _ _ _ _ said (fun _ h => by cases h) (by kernel_rfl) (fun _ h => by cases h) foldOuters_row_tie rfl ⟨rfl, rfl⟩ (by kernel_rfl) rfl plain (by kernel_rfl)
end Go.Proofs.YtlfacpclihmnnaaDoor.foldOuters
namespace Go.Proofs.YtlfacpclihmnnaaDoor
theorem foldOuters_holds : Rows.FoldOutersCardSaid := foldOuters.proved
#print axioms foldOuters_holds
end Go.Proofs.YtlfacpclihmnnaaDoor
