/-
  Layer 12, AlexRemarks.
-/
import Derived.Test.YtblpapidgpmgfaaDoorLxR
namespace Go.Proofs.YtblpapidgpmgfaaDoor.alexRemarks
open Go.ChangeShapes Go.WideShapes Go.ChangeAt Go.RowKit
open Rn (Byte)
set_option linter.unusedVariables false
set_option linter.unusedSimpArgs false
set_option maxRecDepth 100000
set_option maxHeartbeats 16000000 in
theorem walk (st be : ByteArray) (w : World) (G : Glb w) (h1 : st.size ≤ maxLen) (h2 : be.size ≤ maxLen) : Calls Tryd.prog 5 #[.string st, .string be] w fun e w' => e = .returned (.bool true) ∧ Below w.heap.size w w' := by
  have HW7 : Hid (∀ W, Below w.heap.size w W → Calls Tryd.prog 7 #[] W fun e w' => e = .returned (.bool true) ∧ Below w.heap.size w w') := fun W h => (works7 (G.nx h)).mono fun e w' ⟨he, hb⟩ => ⟨he, h.trans (hb.mono h.size)⟩
  by_cases hl : 3000 < st.size
  · have hl' : 3000 < (st.size : Int) := by omega
    have HCC := hide (HW7.out w (Below.refl _ _))
    clear HW7 G
    go_enter Tryd.func5, Tryd.ntmps5
    go_wp2_with fail
    refine HCC.out.mono ?_
    rintro e w5 ⟨rfl, hb5⟩
    go_wp2
    go_ret
    exact ⟨rfl, hb5⟩
  · have hl' : ¬ 3000 < (st.size : Int) := by omega
    by_cases hm : 3000 < be.size
    · have hm' : 3000 < (be.size : Int) := by omega
      have HCC := hide (HW7.out w (Below.refl _ _))
      clear HW7 G
      go_enter Tryd.func5, Tryd.ntmps5
      go_wp2_with fail
      refine HCC.out.mono ?_
      rintro e w5 ⟨rfl, hb5⟩
      go_wp2
      go_ret
      exact ⟨rfl, hb5⟩
    · have hm' : ¬ 3000 < (be.size : Int) := by omega
      obtain ⟨ts, er, fa, N, hF, hN, HC⟩ := lexed G st h1
      have HC := hide HC
      obtain ⟨S2, hS2⟩ : ∃ S2, st ++ ⟨#[226, 141, 157]⟩ ++ be = S2 := ⟨_, rfl⟩
      have hz : S2.size ≤ 6003 := by
        rw [← hS2, ByteArray.size_append, ByteArray.size_append]
        show st.size + 3 + be.size ≤ 6003
        omega
      by_cases her : er = 0
      · subst her
        have hF2 : lexM (numsS S2) = (ts, 0, fa) := by
          rw [← hF, ← hS2, numsS_app, numsS_app, List.append_assoc]
          refine lexM_more (Or.inr ⟨numsS be, rfl⟩) ?_ ?_
          · rw [← List.append_assoc, ← numsS_app, ← numsS_app, hS2, numsS_len]; omega
          · rw [hF]
        have HLX : Hid (∀ W, Below w.heap.size w W → Calls Tryd.prog 8 #[.string S2] W fun e w' => (∃ a c, e = .returned (.tuple #[.slice a N c, .agg #[.int .i64 0, .int .i64 (fa : Int), .int .i64 0]]) ∧ TkIn w' a ts) ∧ Below W.heap.size W w') := fun W h => by
          have := lex8 (G.nx h) S2 (by unfold maxLen; omega)
          rw [hF2] at this
          rw [← hN]
          exact this
        have HSA : Hid (∀ W a c b d, TkIn W a ts → TkIn W b ts → Calls Tryd.prog 9 #[.slice a N c, .slice b N d] W fun e w' => e = .returned (.bool true) ∧ Below W.heap.size W w') := fun W a c b d ha hb => same9 hN ha hb
        have HS2 := hide hS2
        clear hF hF2 hS2 G hz h1 h2 hl hm
        go_enter Tryd.func5, Tryd.ntmps5
        go_wp2_with fail
        refine HC.out.mono ?_
        rintro e w1 ⟨⟨a, c, rfl, htk⟩, hb1⟩
        clear HC
        obtain ⟨W2, hW2⟩ : ∃ W2, w1.alloc (.cells #[.int .i64 0, .int .i64 (fa : Int), .int .i64 0] 26) = W2 := ⟨_, rfl⟩
        have hb2 : Below w1.heap.size w1 W2 := by rw [← hW2]; exact one_alloc _ _
        have r0 : W2.cell? ⟨w1.heap.size, 0, none⟩ = some (.int .i64 0) := by rw [← hW2]; exact cell_new0 w1 _ 26 0 _ rfl
        have HB2 := hide (hb1.trans (hb2.mono hb1.size))
        have HTK := hide (htk.next hb2)
        have HW2 := hide hW2
        clear htk hb1 hb2 hW2
        go_upto_region 4 with fail
        rw [HW2.out]
        clear HW2
        go_upto_region 6 with fail
        have HCL := hide (HLX.out W2 HB2.out)
        have HS := HS2.out
        go_wp2_with fail
        refine HCL.out.mono ?_
        rintro e w3 ⟨⟨b, d, rfl, htk3⟩, hb3⟩
        clear HCL HLX r0 HS
        obtain ⟨W4, hW4⟩ : ∃ W4, w3.alloc (.cells #[.int .i64 0, .int .i64 (fa : Int), .int .i64 0] 26) = W4 := ⟨_, rfl⟩
        have hb4 : Below w3.heap.size w3 W4 := by rw [← hW4]; exact one_alloc _ _
        have s0 : W4.cell? ⟨w3.heap.size, 0, none⟩ = some (.int .i64 0) := by rw [← hW4]; exact cell_new0 w3 _ 26 0 _ rfl
        have hb24 := hb3.trans (hb4.mono hb3.size)
        have HB4 := hide (HB2.out.trans (hb24.mono HB2.out.size))
        have HCS := hide (HSA.out W4 a c b d (HTK.out.next hb24) (htk3.next hb4))
        have HW4 := hide hW4
        clear htk3 hb3 hb4 hb24 hW4 HTK HSA
        go_upto_region 7 with fail
        rw [HW4.out]
        clear HW4
        go_wp2_with fail
        refine HCS.out.mono ?_
        rintro e w5 ⟨rfl, hb5⟩
        have HCC := hide (HW7.out w5 (HB4.out.trans (hb5.mono HB4.out.size)))
        clear HCS hb5 s0
        go_wp2_with fail
        refine HCC.out.mono ?_
        rintro e w6 ⟨rfl, hb6⟩
        go_wp2
        go_ret
        exact ⟨rfl, hb6⟩
      · have her' : (er != 0) = true := bne_iff_ne.2 her
        clear hF her hS2 hz G hl hm h1 h2
        go_enter Tryd.func5, Tryd.ntmps5
        go_wp2_with fail
        refine HC.out.mono ?_
        rintro e w1 ⟨⟨a, c, rfl, htk⟩, hb1⟩
        clear HC htk
        obtain ⟨W2, hW2⟩ : ∃ W2, w1.alloc (.cells #[.int .i64 er, .int .i64 (fa : Int), .int .i64 0] 26) = W2 := ⟨_, rfl⟩
        have hb2 : Below w1.heap.size w1 W2 := by rw [← hW2]; exact one_alloc _ _
        have r0 : W2.cell? ⟨w1.heap.size, 0, none⟩ = some (.int .i64 er) := by rw [← hW2]; exact cell_new0 w1 _ 26 0 _ rfl
        have HCC := hide (HW7.out W2 (hb1.trans (hb2.mono hb1.size)))
        have HW2 := hide hW2
        clear hb1 hb2 hW2 HW7
        go_upto_region 4 with fail
        rw [HW2.out]
        clear HW2
        go_wp2_with fail
        refine HCC.out.mono ?_
        rintro e w5 ⟨rfl, hb5⟩
        go_wp2
        go_ret
        exact ⟨rfl, hb5⟩
theorem laid_met (os : Os) : laidMet Tryd.prog Rows.alexRemarksRow.laid ((laidWorld os).forCall (fun _ _ => 0) ⟨#[], #[.string { data := #[] }, .string { data := #[] }], []⟩).memory :=
  laidMet_laidAll _ (by kernel_rfl) (by kernel_rfl)
theorem reads (os : Os) {H : Type} (enc : TypeId × Value → H) : ∃ places, DataW.whole enc Tryd.prog ((laidWorld os).forCall (fun _ _ => 0) ⟨#[], #[.string { data := #[] }, .string { data := #[] }], []⟩).memory Tryd.f5.params.toList Rows.alexRemarksSpec.vars false #[Value.string { data := #[] }, Value.string { data := #[] }].toList 8 = some ([.lit (.string []), .lit (.string [])], [], places) :=
  ⟨[], by kernel_rfl⟩
set_option maxRecDepth 100000 in
theorem lifted (os : Os) (started : os.Started) (H : Type) (enc : TypeId × Value → H) (F : Stop.Interp) :
    ReturnsInHanded {} Tryd.checked os 5 .any ((OpenSpec.ofChange Rows.alexRemarksSpec).preRow enc Tryd.prog Tryd.f5 Rows.alexRemarksRow.domain false Rows.alexRemarksRow.laid) (((OpenSpec.ofChange Rows.alexRemarksSpec).at F).post enc Tryd.prog Tryd.f5 false true false false) := by
  obtain ⟨places, hx⟩ := reads os enc
  refine returnsInHanded_of_row (C := Tryd.checked) (s := OpenSpec.ofChange Rows.alexRemarksSpec) own started (by kernel_rfl) Tryd.func5
    (witness_row_at (enc := enc) (C := Tryd.checked) false (laidWorld os) #[.string { data := #[] }, .string { data := #[] }] (World.laidAll_os _ _ _) (by kernel_rfl) (by kernel_rfl) (by kernel_rfl)
      (OpenSpec.preRow_of_cond 8 hx (by kernel_rfl) (fun k hk => by cases hk) (by kernel_rfl) (laid_met os))) ?_
  intro W base args ds gs before hval0 hW _ hcond hsz0 hL hsh _
  have hsz : (DataW.weightsEach Tryd.prog (Tryd.f5.params.toList ++ Rows.alexRemarksSpec.plain.varTypes Tryd.prog) (ds ++ gs)).all (· ≤ reachBytes) = true := hsz0
  clear hsz0
  have hval : ∀ (j : Nat) t v, Tryd.f5.params[j]? = some t → args[j]? = some v → Value.okWide Tryd.prog W .any base t v := hval0
  have hW' := hW
  obtain ⟨p, q, hA0, hV, rfl, hfz, hnd⟩ := hW
  have hA : DataW.TrodAll enc Tryd.prog W 0 (fun _ => true) true Tryd.f5.params.toList args.toList ds p := hA0
  rw [Tryd.params5] at hA hval hsz
  obtain ⟨v0, vs0, d0, ds0, p0, q0, hargs, rfl, rfl, h0, r0⟩ := trodAll_cons hA
  obtain ⟨v1, vs1, d1, ds1, p1, q1, rfl, rfl, rfl, h1, r1⟩ := trodAll_cons r0
  obtain ⟨rfl, rfl, rfl⟩ := trodAll_nil r1
  obtain rfl : args = #[v0, v1] := by cases args; simp_all
  obtain ⟨rfl, rfl⟩ := trodVars_none hV
  obtain ⟨s0, rfl, rfl, rfl, w0⟩ := ChangeMaps.open_string Tryd.underlying9 (hval 0 9 v0 rfl rfl) h0
  obtain ⟨s1, rfl, rfl, rfl, w1⟩ := ChangeMaps.open_string Tryd.underlying9 (hval 1 9 v1 rfl rfl) h1
  clear hA0 hval0
  refine (walk s0 s1 W (glb_of hsh hL) w0 w1 ).mono fun e W' ⟨he, bel⟩ => ?_
  subst he
  exact ⟨_, rfl, _, _, _, [], _, [], hW', trodAll_mk1 (shut_bool Tryd.underlying4 _), (trodAll_cons_mk (ChangeMaps.shut_string Tryd.underlying9 w0) (trodAll_cons_mk (ChangeMaps.shut_string Tryd.underlying9 w1) trodAll_mk0)), rfl, bel.frame _, fun h => by cases h⟩
theorem said : Rows.AlexRemarksSaid :=
  OpenClaim.holds_of_cond 5 Tryd.f5 rfl rfl rfl rfl rfl rfl rfl ⟨rfl, rfl, rfl, rfl, rfl⟩ rfl rfl rfl rfl rfl (by kernel_rfl) Tryd.func5 (by kernel_rfl)
    (of_decide_eq_true (by kernel_rfl)) (by unfold Func.isWrapper; first | (rw [if_pos (by decide +kernel)]; kernel_rfl) | (rw [if_neg (by decide +kernel)]; exact ⟨rfl, rfl⟩))
    (fun os started H enc _ F => by rw [OpenClaim.pre_eq_preRow]; exact lifted os started H enc F)
theorem plain (f : FuncId) (fn : Func) (hf : Tryd.pinned.checked.prog.funcNamed "triglyph/triglyphlaw12.AlexRemarks" = some f) (hfn : Tryd.pinned.checked.prog.funcs[f]? = some fn) :
    true = Tryd.pinned.checked.prog.looks [] ∧ ∀ (j : Nat) t, fn.params[j]? = some t → Tryd.pinned.checked.prog.wantsStandIn t = false := by
  obtain rfl : f = 5 := Option.some.inj ((show Tryd.prog.funcNamed "triglyph/triglyphlaw12.AlexRemarks" = some 5 by kernel_rfl).symm.trans hf) |>.symm
  obtain rfl : fn = Tryd.f5 := (Option.some.inj (Tryd.func5.symm.trans hfn)).symm
  refine ⟨by kernel_rfl, fun j t ht => ?_⟩
  rw [Tryd.params5] at ht
  have hm : t = 9 ∨ t = 9 := by simpa using Array.mem_of_getElem? ht
  rcases hm with rfl | rfl
  · exact (show Tryd.prog.wantsStandIn 9 = false by kernel_rfl)
  · exact (show Tryd.prog.wantsStandIn 9 = false by kernel_rfl)
theorem proved : Rows.AlexRemarksCardSaid :=
  Claim7.holds_tied_plain_at .later [] _ _ _ _ said (fun _ h => by cases h) (by kernel_rfl) (fun _ h => by cases h) alexRemarks_row_tie rfl ⟨rfl, rfl⟩ (by kernel_rfl) rfl plain (by kernel_rfl)
end Go.Proofs.YtblpapidgpmgfaaDoor.alexRemarks
namespace Go.Proofs.YtblpapidgpmgfaaDoor
theorem alexRemarks_holds : Rows.AlexRemarksCardSaid := alexRemarks.proved
#print axioms alexRemarks_holds
end Go.Proofs.YtblpapidgpmgfaaDoor
