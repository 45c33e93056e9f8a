/-
  For all arrays and dialects the statement SpellLiterals holds: an array as a text, or that it can't be written, is what the chapter says, and the trial run is true; no condition (the given row speaks of what a machine of 64 bits can hold, and of the package-level tables as their texts lay them).
-/
import Derived.Test.YtneblkdkhlgmcaaGreatDoorM4
import Derived.Shelf.Strconv.Itoa4
import Derived.Test.YtneblkdkhlgmcaaGreatDoorProg
import Derived.WalkKit
import Derived.Test.YtneblkdkhlgmcaaGreatDoorChecked
import GoSem.Claim
import GoSem.ClaimJoined
import GoSem.ClaimMapViews
import Derived.JoinedTies
import Derived.KernelRfl
import Derived.ProofKit
import Derived.Below
import Derived.Deep.OwnRows
import Derived.Deep.QuietTactic
import Derived.BigQuiet
import Derived.Deep.RegionWith
import Derived.Lib.AppendIntMem
import Derived.Lib.ConvBytes
import Derived.Lib.Builder
import Derived.Lib.AppendStr
import Derived.Lib.UnsafeStr
import Derived.Deep.LoopGhost
import Derived.Deep.RegionHeld3
import Derived.Lib.MakeNoZero
import Derived.Laws.MakeOwn
import Derived.Laws.BitsAllLaws
import Derived.Lib.Bits
import Derived.Deep.Cut
import Derived.Deep.MidRow
import Derived.Deep.RegionLaw
import GoSem.ClaimSeven
import Derived.LaidByTextLater
import Derived.SevenTiedAt
import Derived.LaidSub
import Derived.LaidOnce
import Derived.Deep.DeepHandedRow
import Derived.Lib.LaidTab
import Derived.OpenShut
import Derived.Lay
import Derived.ChangeOld
import Derived.SizedLaws
import Derived.Deep.Slices
import Derived.Deep.Strs
namespace Go.Proofs.YtneblkdkhlgmcaaGreatDoor.spellLiterals
open Go.ChangeShapes Go.WideShapes Go.ChangeAt Go.RowKit
set_option linter.unusedVariables false
set_option linter.unusedSimpArgs false
set_option maxRecDepth 100000
theorem agg_two {v c0 c1 : Value} (h : v.cells.toList = [c0, c1]) : v = .agg #[c0, c1] := by
  cases v with
  | agg cs =>
    simp only [Value.cells] at h
    congr 1
    cases cs
    simpa using h
  | _ => simp [Value.cells] at h
theorem snd_cells {A : Ar} (h : Snd A) : ∀ i, i < A.cells.length → I64 (cAt A.cells i).2.1 := fun i hi => (h.cell (c := cAt A.cells i) (by simp [cAt, hi])).2.1
set_option maxHeartbeats 8000000 in
theorem walk (n : Nat) (x : Ar) (c0 c1 : Value) (d : Int) (w : World) (GB : Glb w) (hx : ArIn n 0 w x (.agg #[c0, c1])) (hs : Snd x) : Calls Tryz.prog 3 #[.agg #[c0, c1], .int .i64 d] w fun e w' => e = .returned (.bool true) ∧ Below w.heap.size w w' := by
  have hA := hx
  cases n with
  | zero => exact hx.elim
  | succ n =>
  obtain ⟨a1, k1, a2, k2, hv, -⟩ := hx
  simp only [Value.agg.injEq, Array.mk.injEq, List.cons.injEq, and_true] at hv
  obtain ⟨rfl, rfl⟩ := hv
  have HT : Hid (∀ W, Below w.heap.size w W → Rn.Tab W ∧ Pw W) := hide fun W hW => ⟨GB.tab.below hW GB.tab.1, Lib.tabBelow_of_tabIs GB.pw _ hW⟩
  have HW7 : Hid (∀ W, Below w.heap.size w W → Calls Tryz.prog 7 #[] W fun e w' => e = .returned (.bool true) ∧ Below W.heap.size W w') := hide fun W h => works7 (HT.out W h).1 (HT.out W h).2
  have HWT := hide (fun W (hW : Below w.heap.size w W) => weightM (w := W) 2000 (by decide) (by decide) (hA.next hW))
  have HLX := hide (fun W => lexE d W)
  have HL : Hid (x.cells.length ≤ 2000 → ∀ G : Gs, G.minus.size ≤ 100 → G.quote.size ≤ 100 → ∀ W, Below w.heap.size w W →
      (Calls Tryz.prog 9 #[.agg #[.slice a1 x.shape.length k1, .slice a2 x.cells.length k2], gV G] W fun e w' => e = .returned (.tuple #[.string (str (litS G x)), .int .i64 (litE x)]) ∧ Below W.heap.size W w') ∧
      Calls Tryz.prog 10 #[.agg #[.slice a1 x.shape.length k1, .slice a2 x.cells.length k2], gV G] W fun e w' => e = .returned (.tuple #[.string (str (litS G x)), .int .i64 (litE x)]) ∧ Below W.heap.size W w') := hide fun hl G hm hq W hW =>
    ⟨lit15 (hA.next hW) (by omega) (snd_cells hs) (by omega) (by omega) (HT.out W hW).1 (HT.out W hW).2, rlit66 (hA.next hW) (by omega) (snd_cells hs) (by omega) (by omega)⟩
  generalize litE x = LE at *
  generalize hF : (fun G => str (litS G x)) = LS at *
  have HF : Hid (∀ G, str (litS G x) = LS G) := hide fun G => by rw [← hF]
  simp only [HF.out] at HL
  clear hA hs GB HT hF HF
  generalize x.shape.length = L1 at *
  generalize x.cells.length = L2 at *
  obtain ⟨W1, hW1⟩ : ∃ W1, w.alloc (.cells #[.slice a1 L1 k1, .slice a2 L2 k2] 25) = W1 := ⟨_, rfl⟩
  have hb1 : Below w.heap.size w W1 := by rw [← hW1]; exact alloc_one _ _
  have hA1 : W1.heap[w.heap.size]? = some (.cells #[.slice a1 L1 k1, .slice a2 L2 k2] 25 (0, 0)) := by rw [← hW1]; exact heap_alloc_new w _
  have s1 : W1.heap.size = w.heap.size + 1 := by rw [← hW1]; simp
  have KS : Hid (∀ W, Below W1.heap.size W1 W → W.cell? ⟨w.heap.size, 0, none⟩ = some (.slice a1 L1 k1) ∧ W.cell? ⟨w.heap.size, 1, none⟩ = some (.slice a2 L2 k2)) := hide fun W h => by
    have hA2 := (h.block w.heap.size (by omega)).trans hA1
    exact ⟨(Lib.cell_of_heap hA2 0).trans rfl, (Lib.cell_of_heap hA2 1).trans rfl⟩
  have HBW : Hid (∀ W, Below W1.heap.size W1 W → Below w.heap.size w W) := hide fun W h => hb1.trans (h.mono hb1.size)
  obtain ⟨c0, c1⟩ := KS.out W1 (Below.refl _ _)
  have HC1 := hide (HWT.out W1 hb1)
  clear HWT
  go_enter Tryz.func3, Tryz.ntmps3
  go_upto_region 1 with fail
  try rw [hW1]
  clear hW1 hA1 s1 hb1
  go_wp2_with fail
  refine HC1.out.mono ?_
  rintro e w2 ⟨⟨r, rfl, hr0, hr1, hr2⟩, hb2⟩
  have HB2 := hide hb2
  have HR2 := hide hr2
  clear HC1 c0 c1 hr2
  by_cases hr : r ≤ 2000
  · have hd : decide (r > 2000) = false := decide_eq_false (by omega)
    have hd' : ¬ (2000 < r) := by omega
    have HLL := hide (HL.out (by have := HR2.out; omega))
    have HC := hide (HLX.out w2)
    clear HL HLX HR2
    go_wp2_with fail
    refine HC.out.mono ?_
    rintro e w3 ⟨hb3, G, rfl, sl, hm, hq⟩
    have hb4 := HB2.out.trans (hb3.mono HB2.out.size)
    have HGL := hide (fun W (hW : Below w.heap.size w W) => HLL.out G hm hq W hW)
    clear HC HLL hb3 hd hd' hb2 hm hq
    unfold gV at HGL ⊢
    generalize LS G = S at *
    generalize G.s1 = S1 at *
    generalize G.s2 = S2 at *
    generalize G.s3 = S3 at *
    obtain ⟨⟨b1, n1, d1, rfl⟩, ⟨b2, n2, d2, rfl⟩, ⟨b3, n3, d3, rfl⟩⟩ := sl
    obtain ⟨W5, hW5⟩ : ∃ W5, w3.alloc (.cells #[.slice b1 n1 d1, .slice b2 n2 d2, .slice b3 n3 d3, .string G.outer, .string G.power, .string G.opn, .string G.cls, .string G.left, .string G.right, .string G.minus, .string G.quote, .bool G.trains, .bool G.lone, .bool G.square] 30) = W5 := ⟨_, rfl⟩
    have hb5 : Below w3.heap.size w3 W5 := by rw [← hW5]; exact alloc_one _ _
    have hG5 : W5.heap[w3.heap.size]? = some (.cells #[.slice b1 n1 d1, .slice b2 n2 d2, .slice b3 n3 d3, .string G.outer, .string G.power, .string G.opn, .string G.cls, .string G.left, .string G.right, .string G.minus, .string G.quote, .bool G.trains, .bool G.lone, .bool G.square] 30 (0, 0)) := by rw [← hW5]; exact heap_alloc_new w3 _
    have s5 : W5.heap.size = w3.heap.size + 1 := by rw [← hW5]; simp
    obtain ⟨W6, hW6⟩ : ∃ W6, W5.alloc (.cells #[.int .i64 0, .int .i64 0, .int .i64 0] 34) = W6 := ⟨_, rfl⟩
    have hb6 : Below W5.heap.size W5 W6 := by rw [← hW6]; exact alloc_one _ _
    have hG6 : W6.heap[w3.heap.size]? = some (.cells #[.slice b1 n1 d1, .slice b2 n2 d2, .slice b3 n3 d3, .string G.outer, .string G.power, .string G.opn, .string G.cls, .string G.left, .string G.right, .string G.minus, .string G.quote, .bool G.trains, .bool G.lone, .bool G.square] 30 (0, 0)) := (hb6.block w3.heap.size (by omega)).trans hG5
    have hb56 : Below w3.heap.size w3 W6 := hb5.trans (hb6.mono hb5.size)
    have s6 : w3.heap.size < W6.heap.size := by have := hb6.size; omega
    have KG : Hid (∀ W, Below W6.heap.size W6 W → W.cell? ⟨w3.heap.size, 0, none⟩ = some (.slice b1 n1 d1) ∧ W.cell? ⟨w3.heap.size, 1, none⟩ = some (.slice b2 n2 d2) ∧ W.cell? ⟨w3.heap.size, 2, none⟩ = some (.slice b3 n3 d3) ∧ W.cell? ⟨w3.heap.size, 3, none⟩ = some (.string G.outer) ∧ W.cell? ⟨w3.heap.size, 4, none⟩ = some (.string G.power) ∧ W.cell? ⟨w3.heap.size, 5, none⟩ = some (.string G.opn) ∧ W.cell? ⟨w3.heap.size, 6, none⟩ = some (.string G.cls) ∧ W.cell? ⟨w3.heap.size, 7, none⟩ = some (.string G.left) ∧ W.cell? ⟨w3.heap.size, 8, none⟩ = some (.string G.right) ∧ W.cell? ⟨w3.heap.size, 9, none⟩ = some (.string G.minus) ∧ W.cell? ⟨w3.heap.size, 10, none⟩ = some (.string G.quote) ∧ W.cell? ⟨w3.heap.size, 11, none⟩ = some (.bool G.trains) ∧ W.cell? ⟨w3.heap.size, 12, none⟩ = some (.bool G.lone) ∧ W.cell? ⟨w3.heap.size, 13, none⟩ = some (.bool G.square)) := hide fun W h => by
      have hA2 := (h.block w3.heap.size s6).trans hG6
      exact ⟨(Lib.cell_of_heap hA2 0).trans rfl, (Lib.cell_of_heap hA2 1).trans rfl, (Lib.cell_of_heap hA2 2).trans rfl, (Lib.cell_of_heap hA2 3).trans rfl, (Lib.cell_of_heap hA2 4).trans rfl, (Lib.cell_of_heap hA2 5).trans rfl, (Lib.cell_of_heap hA2 6).trans rfl, (Lib.cell_of_heap hA2 7).trans rfl, (Lib.cell_of_heap hA2 8).trans rfl, (Lib.cell_of_heap hA2 9).trans rfl, (Lib.cell_of_heap hA2 10).trans rfl, (Lib.cell_of_heap hA2 11).trans rfl, (Lib.cell_of_heap hA2 12).trans rfl, (Lib.cell_of_heap hA2 13).trans rfl⟩
    have hb7 := hb4.trans (hb56.mono hb4.size)
    have HB7 := hide hb7
    have HW5 := hide hW5
    have HW6 := hide hW6
    have HC := hide (HGL.out W6 (HBW.out _ hb7)).1
    clear hW5 hW6 hb5 hb6 hG5 hG6 hb56 s5 s6 hb4
    go_upto_region 4 with fail
    try rw [HW5.out]
    try rw [HW6.out]
    clear HW5 HW6
    obtain ⟨c0, c1⟩ := KS.out W6 hb7
    obtain ⟨g0, g1, g2, g3, g4, g5, g6, g7, g8, g9, g10, g11, g12, g13⟩ := KG.out W6 (Below.refl _ _)
    clear hb7
    go_wp2_with fail
    refine HC.out.mono ?_
    rintro e w8 ⟨rfl, hb8⟩
    have hb9 := HB7.out.trans (hb8.mono HB7.out.size)
    have HB9 := hide hb9
    clear HC c0 c1 g0 g1 g2 g3 g4 g5 g6 g7 g8 g9 g10 g11 g12 g13
    have HC := hide (HGL.out w8 (HBW.out _ hb9)).2
    obtain ⟨c0, c1⟩ := KS.out w8 hb9
    obtain ⟨g0, g1, g2, g3, g4, g5, g6, g7, g8, g9, g10, g11, g12, g13⟩ := KG.out w8 hb8
    clear hb8 hb9 HGL KG
    go_wp2_with fail
    refine HC.out.mono ?_
    rintro e w10 ⟨rfl, hb10⟩
    have hb11 := HB9.out.trans (hb10.mono HB9.out.size)
    have HB11 := hide hb11
    have HWK := hide (HW7.out w10 (HBW.out _ hb11))
    clear HC c0 c1 g0 g1 g2 g3 g4 g5 g6 g7 g8 g9 g10 g11 g12 g13 hb10 hb11 KS
    go_wp2_with fail
    refine HWK.out.mono ?_
    rintro e w20 ⟨rfl, hb20⟩
    have HF := hide (HBW.out _ (HB11.out.trans (hb20.mono HB11.out.size)))
    clear hb20 HWK
    go_wp2
    go_ret
    exact ⟨rfl, HF.out⟩
  · have hd : decide (r > 2000) = true := decide_eq_true (by omega)
    have hd' : 2000 < r := by omega
    have HWK := hide (HW7.out w2 (HBW.out _ hb2))
    clear HL HLX HR2 KS
    go_wp2_with fail
    refine HWK.out.mono ?_
    rintro e w20 ⟨rfl, hb20⟩
    have HF := hide (HBW.out _ (HB2.out.trans (hb20.mono HB2.out.size)))
    clear hb20 HWK
    go_wp2
    go_ret
    exact ⟨rfl, HF.out⟩
theorem laid_met (os : Os) : laidMet Tryz.prog Rows.spellLiteralsRow.laid ((laidWorld os).forCall (fun _ _ => 0) ⟨#[], #[.agg #[.slice none 0 0, .slice none 0 0], .int .i64 0], []⟩).memory :=
  laidMet_laidAll _ (by kernel_rfl) (by kernel_rfl)
theorem reads (os : Os) {H : Type} (enc : TypeId × Value → H) : ∃ places, DataW.whole enc Tryz.prog ((laidWorld os).forCall (fun _ _ => 0) ⟨#[], #[.agg #[.slice none 0 0, .slice none 0 0], .int .i64 0], []⟩).memory Tryz.f3.params.toList Rows.spellLiteralsSpec.vars false #[Value.agg #[.slice none 0 0, .slice none 0 0], Value.int .i64 0].toList 8 = some ([.agg [.nil, .nil], .lit (.int .i64 0)], [], places) :=
  ⟨[], by kernel_rfl⟩
set_option maxRecDepth 100000 in
theorem lifted (os : Os) (started : os.Started) (H : Type) (enc : TypeId × Value → H) (F : Stop.Interp) :
    ReturnsInHanded {} Tryz.checked os 3 .any ((OpenSpec.ofChange Rows.spellLiteralsSpec).preRow enc Tryz.prog Tryz.f3 Rows.spellLiteralsRow.domain false Rows.spellLiteralsRow.laid) (((OpenSpec.ofChange Rows.spellLiteralsSpec).at F).post enc Tryz.prog Tryz.f3 false true false false) := by
  obtain ⟨places, hx⟩ := reads os enc
  refine returnsInHanded_of_row (C := Tryz.checked) (s := OpenSpec.ofChange Rows.spellLiteralsSpec) own started (by kernel_rfl) Tryz.func3
    (witness_row_at (enc := enc) (C := Tryz.checked) false (laidWorld os) #[.agg #[.slice none 0 0, .slice none 0 0], .int .i64 0] (World.laidAll_os _ _ _) (by kernel_rfl) (by kernel_rfl) (by kernel_rfl)
      (OpenSpec.preRow_of_cond 8 hx (by kernel_rfl) (fun k hk => by cases hk) (by kernel_rfl) (laid_met os))) ?_
  intro W base args ds gs before hval0 hW _ hcond hsz0 hL hsh _
  have hsz : (DataW.weightsEach Tryz.prog (Tryz.f3.params.toList ++ Rows.spellLiteralsSpec.plain.varTypes Tryz.prog) (ds ++ gs)).all (· ≤ reachBytes) = true := hsz0
  clear hsz0
  have hval : ∀ (j : Nat) t v, Tryz.f3.params[j]? = some t → args[j]? = some v → Value.okWide Tryz.prog W .any base t v := hval0
  have hW' := hW
  obtain ⟨p, q, hA0, hV, rfl, hfz, hnd⟩ := hW
  have hA : DataW.TrodAll enc Tryz.prog W 0 (fun _ => true) true Tryz.f3.params.toList args.toList ds p := hA0
  rw [Tryz.params3] at hA hval hsz
  obtain ⟨v0, vs0, d0, ds0, p0, q0, hargs, rfl, rfl, h0, r0⟩ := trodAll_cons hA
  obtain ⟨v1, vs1, d1, ds1, p1, q1, rfl, rfl, rfl, h1, r1⟩ := trodAll_cons r0
  obtain ⟨rfl, rfl, rfl⟩ := trodAll_nil r1
  obtain rfl : args = #[v0, v1] := by cases args; simp_all
  obtain ⟨rfl, rfl⟩ := trodVars_none hV
  have k0 := h0
  have lt0 : ∀ x ∈ p0, x.block < W.heap.size := by obtain ⟨m, hm⟩ := k0; exact DataW.trod_lt m _ _ _ hm
  obtain ⟨n0, y0, c00, c01, hc0, w0, s0⟩ := arr_of hsz (j := 0) rfl rfl h0
  obtain rfl := agg_two hc0
  obtain ⟨x1, rfl, rfl, rfl, w1⟩ := open_int Tryz.underlying3 (hval 1 3 v1 rfl rfl) h1
  clear hA0 hval0
  refine (walk n0 y0 c00 c01 x1 W (glb_of hL) w0 s0).mono fun e W' ⟨he, bel⟩ => ?_
  subst he
  exact ⟨_, rfl, _, _, _, [], _, [], hW', trodAll_mk1 (shut_bool Tryz.underlying4 _), (trodAll_cons_mk (Below.trod laidOut (by kernel_rfl) (of_decide_eq_true (by kernel_rfl)) k0 bel lt0) (trodAll_cons_mk (shut_int Tryz.underlying3 w1) trodAll_mk0)), rfl, bel.frame _, fun h => by cases h⟩
theorem said : Rows.SpellLiteralsSaid :=
  OpenClaim.holds_of_cond 3 Tryz.f3 rfl rfl rfl rfl rfl rfl rfl ⟨rfl, rfl, rfl, rfl, rfl⟩ rfl rfl rfl rfl rfl (by kernel_rfl) Tryz.func3 (by kernel_rfl)
    (of_decide_eq_true (by kernel_rfl)) (by unfold Func.isWrapper; first | (rw [if_pos (by decide +kernel)]; kernel_rfl) | (rw [if_neg (by decide +kernel)]; exact ⟨rfl, rfl⟩))
    (fun os started H enc _ F => by rw [OpenClaim.pre_eq_preRow]; exact lifted os started H enc F)
theorem plain (f : FuncId) (fn : Func) (hf : Tryz.pinned.checked.prog.funcNamed "triglyph/triglyphlaw16.SpellLiterals" = some f) (hfn : Tryz.pinned.checked.prog.funcs[f]? = some fn) :
    false = Tryz.pinned.checked.prog.looks [] ∧ ∀ (j : Nat) t, fn.params[j]? = some t → Tryz.pinned.checked.prog.wantsStandIn t = false := by
  obtain rfl : f = 3 := Option.some.inj ((show Tryz.prog.funcNamed "triglyph/triglyphlaw16.SpellLiterals" = some 3 by kernel_rfl).symm.trans hf) |>.symm
  obtain rfl : fn = Tryz.f3 := (Option.some.inj (Tryz.func3.symm.trans hfn)).symm
  refine ⟨by kernel_rfl, fun j t ht => ?_⟩
  rw [Tryz.params3] at ht
  have hm : t = 25 ∨ t = 3 := by simpa using Array.mem_of_getElem? ht
  rcases hm with rfl | rfl
  · exact (show Tryz.prog.wantsStandIn 25 = false by kernel_rfl)
  · exact (show Tryz.prog.wantsStandIn 3 = false by kernel_rfl)
theorem proved : Rows.SpellLiteralsCardSaid :=
  Claim7.holds_tied_plain_at .later [] _ _ _ _ said (fun _ h => by cases h) (by kernel_rfl) (fun _ h => by cases h) spellLiterals_row_tie rfl ⟨rfl, rfl⟩ (by kernel_rfl) rfl plain (by kernel_rfl)
end Go.Proofs.YtneblkdkhlgmcaaGreatDoor.spellLiterals
namespace Go.Proofs.YtneblkdkhlgmcaaGreatDoor
theorem spellLiterals_holds : Rows.SpellLiteralsCardSaid := spellLiterals.proved
#print axioms spellLiterals_holds
end Go.Proofs.YtneblkdkhlgmcaaGreatDoor
