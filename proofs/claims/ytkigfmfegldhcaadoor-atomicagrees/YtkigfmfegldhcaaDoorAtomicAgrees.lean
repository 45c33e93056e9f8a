/-
  For all two lists of int the statement AtomicAgrees holds: which shape comes of any two is what the chapter says, and the same turned round; no condition (the given row speaks of slices that a machine of 64 bits can hold, and of the table of layer 4 as its text lays it).
-/
import Derived.Test.YtkigfmfegldhcaaDoorAtK
namespace Go.Proofs.YtkigfmfegldhcaaDoor.atomicAgrees
open Go.ChangeShapes Go.WideShapes Go.ChangeAt Go.RowKit
set_option linter.unusedVariables false
set_option maxHeartbeats 4000000 in
theorem walk (a0 : Option Addr) (len0 cap0 : Nat) (l : List Int) (a1 : Option Addr) (len1 cap1 : Nat) (m : List Int) (w : World) (T : Tab w) (h0 : l.length = len0 ∧ Row 0 w a0 l ∧ len0 * 8 ≤ 140737488351232) (h1 : m.length = len1 ∧ Row 0 w a1 m ∧ len1 * 8 ≤ 140737488351232) :
    Calls Tryd.prog 6 #[.slice a0 len0 cap0, .slice a1 len1 cap1] w fun e w' => e = .returned (.bool true) ∧ Below w.heap.size w w' := by
  obtain ⟨e0, R0, b0⟩ := h0
  obtain ⟨e1, R1, b1⟩ := h1
  have C1 := hide (agree_any l m len0 len1 e0 e1 (by omega) (by omega) a0 a1 cap0 cap1 w R0 R1)
  have C2 := hide (fun W (h : Below w.heap.size w W) => ragree_any l m len0 len1 e0 e1 a0 a1 cap0 cap1 W (R0.next h) (R1.next h))
  have C3 := hide (fun W (h : Below w.heap.size w W) => agree_any m l len1 len0 e1 e0 (by omega) (by omega) a1 a0 cap1 cap0 W (R1.next h) (R0.next h))
  have hs := agr_sym m l
  rw [hs.1, hs.2] at C3
  have HT := hide (fun W (h : Below w.heap.size w W) => T.next h)
  have hd : decide (agrL l m = agrL l m) = true := decide_eq_true rfl
  have CI := hide (fun n1 n2 (q1 : (agrL l m).length = n1) (q2 : (agrL l m).length = n2) a a' cap cap' (W : World) (r1 : Row 0 W a (agrL l m)) (r2 : Row 0 W a' (agrL l m)) => hd ▸ rints_any (agrL l m) (agrL l m) n1 n2 q1 q2 a a' cap cap' W r1 r2)
  generalize agrL l m = L at *
  generalize agrE l m = E at *
  clear R0 R1 e0 e1 b0 b1 T hs hd
  go_enter Tryd.func6, Tryd.ntmps6
  go_wp2_with fail
  refine C1.out.mono ?_
  rintro e w1 ⟨⟨p1, n1, c1, rfl, q1, r1⟩, hb1⟩
  go_wp2_with fail
  refine (C2.out _ hb1).mono ?_
  rintro e w2 ⟨⟨p2, n2, c2, rfl, q2, r2⟩, hb2⟩
  have B2 := hb1.trans (hb2.mono hb1.size)
  go_wp2_with fail
  refine (C3.out _ B2).mono ?_
  rintro e w3 ⟨⟨p3, n3, c3, rfl, q3, r3⟩, hb3⟩
  have B3 := B2.trans (hb3.mono B2.size)
  have K1 := hide (fun W (h : Below w3.heap.size w3 W) => CI.out n1 n2 q1 q2 p1 p2 c1 c2 W (((r1.low (Nat.zero_le _)).next (hb2.trans (hb3.mono hb2.size))).next h) ((r2.next hb3).next h))
  have K2 := hide (fun W (h : Below w3.heap.size w3 W) => CI.out n1 n3 q1 q3 p1 p3 c1 c3 W (((r1.low (Nat.zero_le _)).next (hb2.trans (hb3.mono hb2.size))).next h) ((r3.low (Nat.zero_le _)).next h))
  have HB3 := hide B3
  clear C1 C2 C3 CI q1 q2 q3 r1 r2 r3 hb1 hb2 hb3 B2 B3
  go_wp2_with fail
  refine (K1.out _ (Below.refl _ _)).mono ?_
  rintro e w4 ⟨rfl, hb4⟩
  go_wp2_with fail
  refine (K2.out _ hb4).mono ?_
  rintro e w5 ⟨rfl, hb5⟩
  have B5 := hb4.trans (hb5.mono hb4.size)
  have BW := HB3.out.trans (B5.mono HB3.out.size)
  go_wp2_with fail
  refine (works_any _ (HT.out _ BW)).mono ?_
  rintro e w6 ⟨rfl, hb6⟩
  go_wp2
  go_ret
  exact ⟨rfl, BW.trans (hb6.mono BW.size)⟩
theorem laid_met (os : Os) : laidMet Tryd.prog Rows.atomicAgreesRow.laid ((laidWorld os).forCall (fun _ _ => 0) ⟨#[], #[.slice none 0 0, .slice none 0 0], []⟩).memory :=
  laidMet_of_run' 8 (by kernel_rfl) (by kernel_rfl)
theorem reads (os : Os) {H : Type} (enc : TypeId × Value → H) : ∃ places, DataW.whole enc Tryd.prog ((laidWorld os).forCall (fun _ _ => 0) ⟨#[], #[.slice none 0 0, .slice none 0 0], []⟩).memory Tryd.f6.params.toList Rows.atomicAgreesSpec.vars false #[Value.slice none 0 0, Value.slice none 0 0].toList 8 = some ([.nil, .nil], [], places) :=
  ⟨[], by kernel_rfl⟩
set_option maxRecDepth 100000 in
theorem lifted (os : Os) (started : os.Started) (H : Type) (enc : TypeId × Value → H) (F : Stop.Interp) :
    ReturnsInHanded {} Tryd.checked os 6 .any ((OpenSpec.ofChange Rows.atomicAgreesSpec).preRow enc Tryd.prog Tryd.f6 Rows.atomicAgreesRow.domain false Rows.atomicAgreesRow.laid) (((OpenSpec.ofChange Rows.atomicAgreesSpec).at F).post enc Tryd.prog Tryd.f6 false true false false) := by
  obtain ⟨places, hx⟩ := reads os enc
  refine returnsInHanded_of_row (C := Tryd.checked) (s := OpenSpec.ofChange Rows.atomicAgreesSpec) own started (by kernel_rfl) Tryd.func6
    (witness_row_at (enc := enc) (C := Tryd.checked) false (laidWorld os) #[.slice none 0 0, .slice none 0 0] rfl (by kernel_rfl) (by kernel_rfl) (by kernel_rfl)
      (OpenSpec.preRow_of_cond 8 hx (by kernel_rfl) (fun k hk => by cases hk) (by kernel_rfl) (laid_met os))) ?_
  intro W base args ds gs before hval0 hW _ hcond hsz0 hL _ _
  have hsz : (DataW.weightsEach Tryd.prog (Tryd.f6.params.toList ++ Rows.atomicAgreesSpec.plain.varTypes Tryd.prog) (ds ++ gs)).all (· ≤ reachBytes) = true := hsz0
  clear hsz0
  have hval : ∀ (j : Nat) t v, Tryd.f6.params[j]? = some t → args[j]? = some v → Value.okWide Tryd.prog W .any base t v := hval0
  have hW' := hW
  obtain ⟨p, q, hA0, hV, rfl, hfz, hnd⟩ := hW
  have hA : DataW.TrodAll enc Tryd.prog W 0 (fun _ => true) true Tryd.f6.params.toList args.toList ds p := hA0
  rw [Tryd.params6] at hA hval hsz
  obtain ⟨v0, vs0, d0, ds0, p0, q0, hargs, rfl, rfl, h0, r0⟩ := trodAll_cons hA
  obtain ⟨v1, vs1, d1, ds1, p1, q1, rfl, rfl, rfl, h1, r1⟩ := trodAll_cons r0
  obtain ⟨rfl, rfl, rfl⟩ := trodAll_nil r1
  obtain rfl : args = #[v0, v1] := by cases args; simp_all
  obtain ⟨rfl, rfl⟩ := trodVars_none hV
  obtain ⟨a0, len0, cap0, rfl⟩ := okWide_slice Tryd.underlying22 (hval 0 22 v0 rfl rfl)
  have k0 := h0
  have lt0 : ∀ x ∈ p0, x.block < W.heap.size := by obtain ⟨m, hm⟩ := k0; exact DataW.trod_lt m _ _ _ hm
  obtain ⟨z0, w0⟩ := ints_row hsz (j := 0) rfl rfl h0
  obtain ⟨a1, len1, cap1, rfl⟩ := okWide_slice Tryd.underlying22 (hval 1 22 v1 rfl rfl)
  have k1 := h1
  have lt1 : ∀ x ∈ p1, x.block < W.heap.size := by obtain ⟨m, hm⟩ := k1; exact DataW.trod_lt m _ _ _ hm
  obtain ⟨z1, w1⟩ := ints_row hsz (j := 1) rfl rfl h1
  clear hA0 hval0
  refine (walk a0 len0 cap0 z0 a1 len1 cap1 z1 W (tab_of hL) w0 w1).mono fun e W' ⟨he, bel⟩ => ?_
  subst he
  exact ⟨_, rfl, _, _, _, [], _, [], hW', trodAll_mk1 (shut_bool Tryd.underlying4 _), (trodAll_cons_mk (Below.trod laidOut (by kernel_rfl) (of_decide_eq_true (by kernel_rfl)) k0 bel lt0) (trodAll_cons_mk (Below.trod laidOut (by kernel_rfl) (of_decide_eq_true (by kernel_rfl)) k1 bel lt1) trodAll_mk0)), rfl, bel.frame _, fun h => by cases h⟩
theorem said : Rows.AtomicAgreesSaid :=
  OpenClaim.holds_of_cond 6 Tryd.f6 rfl rfl rfl rfl rfl rfl rfl ⟨rfl, rfl, rfl, rfl, rfl⟩ rfl rfl rfl rfl rfl (by kernel_rfl) Tryd.func6 (by kernel_rfl)
    (of_decide_eq_true (by kernel_rfl)) (by unfold Func.isWrapper; first | (rw [if_pos (by decide +kernel)]; kernel_rfl) | (rw [if_neg (by decide +kernel)]; exact ⟨rfl, rfl⟩))
    (fun os started H enc _ F => by rw [OpenClaim.pre_eq_preRow]; exact lifted os started H enc F)
theorem plain (f : FuncId) (fn : Func) (hf : Tryd.pinned.checked.prog.funcNamed "triglyph/triglyphlaw04.AtomicAgrees" = some f) (hfn : Tryd.pinned.checked.prog.funcs[f]? = some fn) :
    false = Tryd.pinned.checked.prog.looks [] ∧ ∀ (j : Nat) t, fn.params[j]? = some t → Tryd.pinned.checked.prog.wantsStandIn t = false := by
  obtain rfl : f = 6 := Option.some.inj ((show Tryd.prog.funcNamed "triglyph/triglyphlaw04.AtomicAgrees" = some 6 by kernel_rfl).symm.trans hf) |>.symm
  obtain rfl : fn = Tryd.f6 := (Option.some.inj (Tryd.func6.symm.trans hfn)).symm
  refine ⟨by kernel_rfl, fun j t ht => ?_⟩
  rw [Tryd.params6] at ht
  have hm : t = 22 := by simpa using Array.mem_of_getElem? ht
  subst hm
  exact (show Tryd.prog.wantsStandIn 22 = false by kernel_rfl)
theorem proved : Rows.AtomicAgreesCardSaid :=
  Claim7.holds_tied_plain_at .later [] _ _ _ _ said (fun _ h => by cases h) (by kernel_rfl) (fun _ h => by cases h) atomicAgrees_row_tie rfl ⟨rfl, rfl⟩ (by kernel_rfl) rfl plain (by kernel_rfl)
end Go.Proofs.YtkigfmfegldhcaaDoor.atomicAgrees
namespace Go.Proofs.YtkigfmfegldhcaaDoor
theorem atomicAgrees_holds : Rows.AtomicAgreesCardSaid := atomicAgrees.proved
#print axioms atomicAgrees_holds
end Go.Proofs.YtkigfmfegldhcaaDoor
