/-
  For all int, bool, arrays and bool the statement FoldReds holds: any array folded by any function along its first axis, or its last, is what the chapter says; no condition (the given row speaks of what a machine of 64 bits can hold, and of the table of layer 4 as its text lays it).
-/
import Derived.Test.YtlfacpclihmnnaaDoorM8
import Derived.WalkKit
import Derived.Test.YtlfacpclihmnnaaDoorChecked
import GoSem.Claim
import GoSem.ClaimJoined
import GoSem.ClaimMapViews
import Derived.JoinedTies
import Derived.KernelRfl
import Derived.ProofKit
import Derived.Below
import Derived.Deep.OwnRows
import Derived.Deep.QuietTactic
import Derived.BigQuiet
import Derived.Deep.RegionWith
import Derived.Laws.MakeOwn
import Derived.Deep.RegionHeld3
import Derived.OpenShut
import Derived.Lib.Mul64
import Derived.Laws.Bits64b
import Derived.ChangeOld
import Derived.SizedLaws
import Derived.Deep.Slices
import Derived.Deep.Strs
import Derived.Deep.LoopGhost
import Derived.Laws.IdiomCopy
import Derived.Deep.Cut
import Derived.Deep.RegionLaw
import Derived.Laws.AppendOwnNone
import Derived.BigFrame
import Derived.Laws.OwnMore
import Derived.OwnWalk
import Derived.Lib.SliceRun
import Derived.Deep.CutRange
import Derived.Laws.EntriesVeiled
import GoSem.ClaimSeven
import Derived.LaidByTextLater
import Derived.SevenTiedAt
import Derived.LaidSub
import Derived.LaidOnce
import Derived.Deep.DeepHandedRow
import Derived.Lib.LaidTab
namespace Go.Proofs.YtlfacpclihmnnaaDoor.foldReds
open Go.ChangeShapes Go.WideShapes Go.ChangeAt Go.RowKit
open Num (resV resE In64 sgnI absI)
set_option linter.unusedVariables false
set_option maxRecDepth 100000 in
set_option maxHeartbeats 16000000 in
theorem walk1 (op : Int) (t : Bool) (n : Nat) (x : Ar) (c0 c1 : Value) (last : Bool) (w : World) (T : Tab w) (hx : ArIn (n + 1) 0 w x (.agg #[c0, c1])) (sx : Snd x) :
    Calls Tryd.prog 3 #[.int .i64 op, .bool t, .agg #[c0, c1], .bool last] w fun e w' => e = .returned (.bool true) ∧ Below w.heap.size w w' := by
  obtain ⟨a1, k1, a2, k2, hv, R1, -⟩ := hx.formC
  simp only [Value.agg.injEq, Array.mk.injEq, List.cons.injEq, and_true] at hv
  obtain ⟨rfl, rfl⟩ := hv
  have hin : ∀ k, k < x.cells.length → In64 (cAt x.cells k).2.1 := fun k hk => (sx.cell (cAt_mem hk)).2.1
  obtain ⟨W0, eW⟩ : ∃ W0, w.alloc (.cells #[.slice a1 x.shape.length k1, .slice a2 x.cells.length k2] 25) = W0 := ⟨_, rfl⟩
  have B0 : Below w.heap.size w W0 := by rw [← eW]; exact one_alloc _ _
  have hl0 : w.heap.size < W0.heap.size := by rw [← eW]; simp
  have KS : Hid (∀ W, Below W0.heap.size W0 W → W.cell? ⟨w.heap.size, 0, none⟩ = some (.slice a1 x.shape.length k1) ∧ W.cell? ⟨w.heap.size, 1, none⟩ = some (.slice a2 x.cells.length k2)) := fun W h => by
    rw [← eW] at h
    exact ⟨(h.cell (p := ⟨w.heap.size, 0, none⟩) (by simp)).trans (cell_new0 w _ 25 0 _ rfl), (h.cell (p := ⟨w.heap.size, 1, none⟩) (by simp)).trans (cell_new0 w _ 25 1 _ rfl)⟩
  have HX : Hid (∀ W, Below W0.heap.size W0 W → ArIn (n + 1) 0 W x (.agg #[.slice a1 x.shape.length k1, .slice a2 x.cells.length k2])) := fun W h => hx.next (B0.trans (h.mono B0.size))
  have HT : Hid (∀ W, Below W0.heap.size W0 W → Tab W) := fun W h => T.next (B0.trans (h.mono B0.size))
  have HB : Hid (∀ W, Below W0.heap.size W0 W → Below w.heap.size w W) := fun W h => B0.trans (h.mono B0.size)
  have HR : Hid (∀ W, Below W0.heap.size W0 W → Row 0 W a1 x.shape) := fun W h => R1.next (B0.trans (h.mono B0.size))
  have HIN := hide hin
  have hS : x.shape.length ≤ 140737488355328 := R1.1
  have HC1 : Hid (∀ W, Below W0.heap.size W0 W → Calls Tryd.prog 12 #[.agg #[.int .i64 op, .bool t], .agg #[.slice a1 x.shape.length k1, .slice a2 x.cells.length k2], .bool last] W fun e w' => (∃ g1 m1 g2 m2 g3 m3, e = .returned (.tuple #[.agg #[.slice g1 m1 g2, .slice m2 g3 m3], .int .i64 (redR op t last x).2]) ∧ ∀ W', Below w'.heap.size w' W' → ArIn (n + 1) 0 W' (redR op t last x).1 (.agg #[.slice g1 m1 g2, .slice m2 g3 m3])) ∧ Below W.heap.size W w') := fun W h => by
    refine (red12 (HX.out W h) HIN.out (HT.out W h)).mono ?_
    rintro e w' ⟨⟨v, rfl, hv⟩, hb⟩
    obtain ⟨g1, g2, m2, m3, rfl⟩ := hv.form
    exact ⟨⟨_, _, _, _, _, _, rfl, fun W' hW => hv.mono (Nat.zero_le _) hW⟩, hb⟩
  have HC2 : Hid (∀ W, Below W0.heap.size W0 W → Calls Tryd.prog 13 #[.int .i64 op, .bool t, .agg #[.slice a1 x.shape.length k1, .slice a2 x.cells.length k2], .bool last] W fun e w' => (∃ g1 m1 g2 m2 g3 m3, e = .returned (.tuple #[.agg #[.slice g1 m1 g2, .slice m2 g3 m3], .int .i64 (redR op t last x).2]) ∧ ∀ W', Below w'.heap.size w' W' → ArIn (n + 1) 0 W' (redR op t last x).1 (.agg #[.slice g1 m1 g2, .slice m2 g3 m3])) ∧ Below W.heap.size W w') := fun W h => by
    refine (rred13 (HX.out W h) HIN.out (Nat.zero_le _)).mono ?_
    rintro e w' ⟨⟨v, rfl, hv⟩, hb⟩
    obtain ⟨g1, g2, m2, m3, rfl⟩ := hv.form
    exact ⟨⟨_, _, _, _, _, _, rfl, fun W' hW => hv.mono (Nat.zero_le _) hW⟩, hb⟩
  obtain ⟨RA, hRA⟩ : ∃ RA, (redR op t last x).1 = RA := ⟨_, rfl⟩
  obtain ⟨E, hE⟩ : ∃ E, (redR op t last x).2 = E := ⟨_, rfl⟩
  rw [hRA, hE] at HC1 HC2
  have HLI : Hid (∀ W, Below W0.heap.size W0 W → Calls Tryd.prog 9 #[.agg #[.slice a1 x.shape.length k1, .slice a2 x.cells.length k2]] W fun e w' => GivesB W e w') := fun W h => light9 (HX.out W h)
  have HNA : Hid (∀ W, Below W0.heap.size W0 W → Calls Tryd.prog 10 #[.agg #[.slice a1 x.shape.length k1, .slice a2 x.cells.length k2]] W fun e w' => GivesB W e w') := fun W h => narrow10 (HR.out W h) rfl hS
  clear hx T B0 sx hin R1 HX HR HIN hRA hE hS
  generalize x.shape.length = SA at *
  generalize x.cells.length = CA at *
  have J := Below.refl W0.heap.size W0
  obtain ⟨q0, q1⟩ := KS.out W0 J
  have HE := hide eW
  clear eW
  go_enter Tryd.func3, Tryd.ntmps3
  go_upto_region 1 with fail
  rw [HE.out]
  clear HE
  go_wp2_with fail
  clear q0 q1
  refine (HLI.out _ J).mono ?_
  rintro e t0 ⟨⟨r, rfl⟩, hb⟩
  replace J := J.trans (hb.mono J.size)
  clear hb
  cases r with
  | false =>
    have B := HB.out _ J
    have CW := works11 t0 (HT.out _ J)
    clear KS HB HT HC1 HC2 HLI HNA
    go_wp2_with fail
    refine CW.mono ?_
    rintro e w9 ⟨rfl, hb9⟩
    go_wp2
    go_ret
    exact ⟨rfl, B.trans (hb9.mono B.size)⟩
  | true =>
  obtain ⟨q0, q1⟩ := KS.out _ J
  go_wp2_with fail
  clear q0 q1
  refine (HNA.out _ J).mono ?_
  rintro e t1 ⟨⟨r, rfl⟩, hb⟩
  replace J := J.trans (hb.mono J.size)
  clear hb
  cases r with
  | false =>
    have B := HB.out _ J
    have CW := works11 t1 (HT.out _ J)
    clear KS HB HT HC1 HC2 HLI HNA
    go_wp2_with fail
    refine CW.mono ?_
    rintro e w9 ⟨rfl, hb9⟩
    go_wp2
    go_ret
    exact ⟨rfl, B.trans (hb9.mono B.size)⟩
  | true =>
  obtain ⟨q0, q1⟩ := KS.out _ J
  go_wp2_with fail
  clear q0 q1
  refine (HC1.out _ J).mono ?_
  rintro e w4 ⟨⟨g1, m1, g2, m2, g3, m3, rfl, hv4⟩, hb4⟩
  obtain ⟨W5, e5⟩ : ∃ W5, w4.alloc (.cells #[.slice g1 m1 g2, .slice m2 g3 m3] 25) = W5 := ⟨_, rfl⟩
  have b5 : Below w4.heap.size w4 W5 := by rw [← e5]; exact one_alloc _ _
  have J4 := J.trans (hb4.mono J.size)
  have J5 := J4.trans (b5.mono J4.size)
  have HP : Hid (∀ W, Below W5.heap.size W5 W → W.cell? ⟨w4.heap.size, 0, none⟩ = some (.slice g1 m1 g2) ∧ W.cell? ⟨w4.heap.size, 1, none⟩ = some (.slice m2 g3 m3)) := fun W h => by
    rw [← e5] at h
    exact ⟨(h.cell (p := ⟨w4.heap.size, 0, none⟩) (by simp)).trans (cell_new0 w4 _ 25 0 _ rfl), (h.cell (p := ⟨w4.heap.size, 1, none⟩) (by simp)).trans (cell_new0 w4 _ 25 1 _ rfl)⟩
  obtain ⟨q0, q1⟩ := KS.out _ J5
  have HE5 := hide e5
  clear e5
  go_upto_region 4 with fail
  rw [HE5.out]
  clear HE5
  go_wp2_with fail
  clear q0 q1
  refine (HC2.out _ J5).mono ?_
  rintro e w6 ⟨⟨h1, i1, h2, i2, h3, i3, rfl, hv6⟩, hb6⟩
  have n6 := one_alloc w6 (.cells #[.slice h1 i1 h2, .slice i2 h3 i3] 25)
  have hb67 := hb6.trans (n6.mono hb6.size)
  obtain ⟨x0, x1⟩ := HP.out _ hb67
  have C5 := rsame_any (hv4 _ (b5.trans (hb67.mono b5.size))) (hv6 _ n6)
  rw [decide_eq_true (cmpA_self (n + 1) RA)] at C5
  have HC5 := hide C5
  have J7 := J5.trans (hb67.mono J5.size)
  have HB7 := hide (HB.out _ J7)
  have HT7 : Hid (∀ W, Below (w6.alloc (.cells #[.slice h1 i1 h2, .slice i2 h3 i3] 25)).heap.size (w6.alloc (.cells #[.slice h1 i1 h2, .slice i2 h3 i3] 25)) W → Tab W) := fun W h => HT.out W (J7.trans (h.mono J7.size))
  clear C5 HP hv4 hv6 n6 hb67 hb6 b5 hb4 J4 J5 J J7 KS HC1 HC2 HB HT HLI HNA
  go_wp2_with fail
  clear x0 x1
  refine HC5.out.mono ?_
  rintro e w8 ⟨rfl, hb8⟩
  have B8 := HB7.out.trans (hb8.mono HB7.out.size)
  have CW := works11 w8 (HT7.out _ hb8)
  clear HT7 HC5
  go_wp2_with fail
  refine CW.mono ?_
  rintro e w9 ⟨rfl, hb9⟩
  go_wp2
  go_ret
  exact ⟨rfl, B8.trans (hb9.mono B8.size)⟩
theorem walk (op : Int) (t : Bool) (n0 : Nat) (x : Ar) (c0 c1 : Value) (last : Bool) (w : World) (T : Tab w) (ho : I64 op) (hx : ArIn n0 0 w x (.agg #[c0, c1])) (sx : Snd x) :
    Calls Tryd.prog 3 #[.int .i64 op, .bool t, .agg #[c0, c1], .bool last] w fun e w' => e = .returned (.bool true) ∧ Below w.heap.size w w' :=
  walk1 op t n0 x c0 c1 last w T (hx.deep (by omega)) sx
theorem laid_met (os : Os) : laidMet Tryd.prog Rows.foldRedsRow.laid ((laidWorld os).forCall (fun _ _ => 0) ⟨#[], #[.int .i64 0, .bool false, .agg #[.slice none 0 0, .slice none 0 0], .bool false], []⟩).memory :=
  laidMet_of_run' 8 (by kernel_rfl) (by kernel_rfl)
theorem reads (os : Os) {H : Type} (enc : TypeId × Value → H) : ∃ places, DataW.whole enc Tryd.prog ((laidWorld os).forCall (fun _ _ => 0) ⟨#[], #[.int .i64 0, .bool false, .agg #[.slice none 0 0, .slice none 0 0], .bool false], []⟩).memory Tryd.f3.params.toList Rows.foldRedsSpec.vars false #[Value.int .i64 0, Value.bool false, Value.agg #[.slice none 0 0, .slice none 0 0], Value.bool false].toList 8 = some ([.lit (.int .i64 0), .lit (.bool false), .agg [.nil, .nil], .lit (.bool false)], [], places) :=
  ⟨[], by kernel_rfl⟩
set_option maxRecDepth 100000 in
theorem lifted (os : Os) (started : os.Started) (H : Type) (enc : TypeId × Value → H) (F : Stop.Interp) :
    ReturnsInHanded {} Tryd.checked os 3 .any ((OpenSpec.ofChange Rows.foldRedsSpec).preRow enc Tryd.prog Tryd.f3 Rows.foldRedsRow.domain false Rows.foldRedsRow.laid) (((OpenSpec.ofChange Rows.foldRedsSpec).at F).post enc Tryd.prog Tryd.f3 false true false false) := by
  obtain ⟨places, hx⟩ := reads os enc
  refine returnsInHanded_of_row (C := Tryd.checked) (s := OpenSpec.ofChange Rows.foldRedsSpec) own started (by kernel_rfl) Tryd.func3
    (witness_row_at (enc := enc) (C := Tryd.checked) false (laidWorld os) #[.int .i64 0, .bool false, .agg #[.slice none 0 0, .slice none 0 0], .bool false] rfl (by kernel_rfl) (by kernel_rfl) (by kernel_rfl)
      (OpenSpec.preRow_of_cond 8 hx (by kernel_rfl) (fun k hk => by cases hk) (by kernel_rfl) (laid_met os))) ?_
  intro W base args ds gs before hval0 hW _ hcond hsz0 hL _ _
  have hsz : (DataW.weightsEach Tryd.prog (Tryd.f3.params.toList ++ Rows.foldRedsSpec.plain.varTypes Tryd.prog) (ds ++ gs)).all (· ≤ reachBytes) = true := hsz0
  clear hsz0
  have hval : ∀ (j : Nat) t v, Tryd.f3.params[j]? = some t → args[j]? = some v → Value.okWide Tryd.prog W .any base t v := hval0
  have hW' := hW
  obtain ⟨p, q, hA0, hV, rfl, hfz, hnd⟩ := hW
  have hA : DataW.TrodAll enc Tryd.prog W 0 (fun _ => true) true Tryd.f3.params.toList args.toList ds p := hA0
  rw [Tryd.params3] at hA hval hsz
  obtain ⟨v0, vs0, d0, ds0, p0, q0, hargs, rfl, rfl, h0, r0⟩ := trodAll_cons hA
  obtain ⟨v1, vs1, d1, ds1, p1, q1, rfl, rfl, rfl, h1, r1⟩ := trodAll_cons r0
  obtain ⟨v2, vs2, d2, ds2, p2, q2, rfl, rfl, rfl, h2, r2⟩ := trodAll_cons r1
  obtain ⟨v3, vs3, d3, ds3, p3, q3, rfl, rfl, rfl, h3, r3⟩ := trodAll_cons r2
  obtain ⟨rfl, rfl, rfl⟩ := trodAll_nil r3
  obtain rfl : args = #[v0, v1, v2, v3] := by cases args; simp_all
  obtain ⟨rfl, rfl⟩ := trodVars_none hV
  obtain ⟨x0, rfl, rfl, rfl, w0⟩ := open_int Tryd.underlying3 (hval 0 3 v0 rfl rfl) h0
  obtain ⟨x1, rfl, rfl, rfl⟩ := open_bool Tryd.underlying4 (hval 1 4 v1 rfl rfl) h1
  have k2 := h2
  have lt2 : ∀ x ∈ p2, x.block < W.heap.size := by obtain ⟨m, hm⟩ := k2; exact DataW.trod_lt m _ _ _ hm
  obtain ⟨n2, y2, c20, c21, hc2, w2, s2⟩ := arr_of hsz (j := 2) rfl rfl h2
  obtain rfl := agg_two hc2
  obtain ⟨x3, rfl, rfl, rfl⟩ := open_bool Tryd.underlying4 (hval 3 4 v3 rfl rfl) h3
  clear hA0 hval0
  refine (walk x0 x1 n2 y2 c20 c21 x3 W (tab_of hL) (bounds_i64 w0) w2 s2).mono fun e W' ⟨he, bel⟩ => ?_
  subst he
  exact ⟨_, rfl, _, _, _, [], _, [], hW', trodAll_mk1 (shut_bool Tryd.underlying4 _), (trodAll_cons_mk (shut_int Tryd.underlying3 w0) (trodAll_cons_mk (shut_bool Tryd.underlying4 _) (trodAll_cons_mk (Below.trod laidOut (by kernel_rfl) (of_decide_eq_true (by kernel_rfl)) k2 bel lt2) (trodAll_cons_mk (shut_bool Tryd.underlying4 _) trodAll_mk0)))), rfl, bel.frame _, fun h => by cases h⟩
theorem said : Rows.FoldRedsSaid :=
  OpenClaim.holds_of_cond 3 Tryd.f3 rfl rfl rfl rfl rfl rfl rfl ⟨rfl, rfl, rfl, rfl, rfl⟩ rfl rfl rfl rfl rfl (by kernel_rfl) Tryd.func3 (by kernel_rfl)
    (of_decide_eq_true (by kernel_rfl)) (by unfold Func.isWrapper; first | (rw [if_pos (by decide +kernel)]; kernel_rfl) | (rw [if_neg (by decide +kernel)]; exact ⟨rfl, rfl⟩))
    (fun os started H enc _ F => by rw [OpenClaim.pre_eq_preRow]; exact lifted os started H enc F)
theorem plain (f : FuncId) (fn : Func) (hf : Tryd.pinned.checked.prog.funcNamed "triglyph/triglyphlaw08.FoldReds" = some f) (hfn : Tryd.pinned.checked.prog.funcs[f]? = some fn) :
    false = Tryd.pinned.checked.prog.looks [] ∧ ∀ (j : Nat) t, fn.params[j]? = some t → Tryd.pinned.checked.prog.wantsStandIn t = false := by
  obtain rfl : f = 3 := Option.some.inj ((show Tryd.prog.funcNamed "triglyph/triglyphlaw08.FoldReds" = some 3 by kernel_rfl).symm.trans hf) |>.symm
  obtain rfl : fn = Tryd.f3 := (Option.some.inj (Tryd.func3.symm.trans hfn)).symm
  refine ⟨by kernel_rfl, fun j t ht => ?_⟩
  rw [Tryd.params3] at ht
  have hm : t = 3 ∨ t = 4 ∨ t = 25 ∨ t = 4 := by simpa using Array.mem_of_getElem? ht
  rcases hm with rfl | rfl | rfl | rfl
  · exact (show Tryd.prog.wantsStandIn 3 = false by kernel_rfl)
  · exact (show Tryd.prog.wantsStandIn 4 = false by kernel_rfl)
  · exact (show Tryd.prog.wantsStandIn 25 = false by kernel_rfl)
  · exact (show Tryd.prog.wantsStandIn 4 = false by kernel_rfl)
theorem proved : Rows.FoldRedsCardSaid :=
  Claim7.holds_tied_plain_at .later [] _ _ _ _ said (fun _ h => by cases h) (by kernel_rfl) (fun _ h => by cases h) foldReds_row_tie rfl ⟨rfl, rfl⟩ (by kernel_rfl) rfl plain (by kernel_rfl)
end Go.Proofs.YtlfacpclihmnnaaDoor.foldReds
namespace Go.Proofs.YtlfacpclihmnnaaDoor
theorem foldReds_holds : Rows.FoldRedsCardSaid := foldReds.proved
#print axioms foldReds_holds
end Go.Proofs.YtlfacpclihmnnaaDoor
