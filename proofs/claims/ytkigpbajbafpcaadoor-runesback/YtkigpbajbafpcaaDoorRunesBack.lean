/-
  For all lists of int64 the statement RunesBack holds: signs that are written are read again as what they were; no condition (the given row speaks of slices that a machine of 64 bits can hold, and of the table of layer 2 as its text lays it).
-/
import Derived.Test.YtkigpbajbafpcaaDoorOwnI
namespace Go.Proofs.YtkigpbajbafpcaaDoor.runesBack
open Go.ChangeShapes Go.WideShapes Go.ChangeAt Go.RowKit
set_option linter.unusedVariables false
set_option maxHeartbeats 2000000 in
theorem walk1 (l : List Int) (p : Nat) (a : Option Addr) (cap : Nat) (w : World) (R : Row .i64 w a l) (T : Tab w) (hl : l.length * 8 ≤ 140737488355328) (hg : ∀ z ∈ l.take p, Good z) (hb : ¬ Good (l[p]?.getD 0)) (hp : p < l.length) :
    Calls Tryd.prog 5 #[.slice a l.length cap] w fun e w' => e = .returned (.bool true) ∧ Below w.heap.size w w' := by
  go_enter Tryd.func5, Tryd.ntmps5
  go_wp2_with fail
  refine (write_any l p _ _ _ R T hl (by omega) hg (fun _ => hb)).mono ?_
  rintro e w1 ⟨_, h1, hb1⟩
  have e1 := h1 hp
  subst e1
  have T1 := T.below hb1 T.1
  clear h1
  go_wp2_with (go_at_call 12; refine (works_any _ T1).mono ?_; rintro e w2 ⟨rfl, hb2⟩)
  go_ret
  exact ⟨rfl, hb1.trans (hb2.mono hb1.size)⟩
set_option maxHeartbeats 2000000 in
theorem walk2 (l : List Int) (a : Option Addr) (cap : Nat) (w : World) (R : Row .i64 w a l) (T : Tab w) (hl : l.length * 8 ≤ 140737488355328) (hg : ∀ z ∈ l, Good z) :
    Calls Tryd.prog 5 #[.slice a l.length cap] w fun e w' => e = .returned (.bool true) ∧ Below w.heap.size w w' := by
  have P := parse_all hg
  have hB := enc_bytes hg
  go_enter Tryd.func5, Tryd.ntmps5
  go_wp2_with fail
  refine (write_any l l.length _ _ _ R T hl (by omega) (by rw [List.take_length]; exact hg) (fun h => absurd h (by omega))).mono ?_
  rintro e w1 ⟨h1, _, hb1⟩
  obtain ⟨a1, rfl, R1, _⟩ := h1 rfl
  have T1 := T.below hb1 T.1
  have Rl := R.next hb1
  clear h1
  go_wp2_with fail
  refine (read_at (enc l) l [] P (enc l).length rfl _ _ _ R1 T1 hB (by omega) hl).mono ?_
  rintro e w2 ⟨h2, _, hb2⟩
  obtain ⟨a2, rfl, R2, _⟩ := h2 rfl
  have T2 := T1.below hb2 T1.1
  have Rm := Rl.next hb2
  have B2 := hb1.trans (hb2.mono hb1.size)
  clear h2 P hB R1 Rl R T T1 hb1 hb2
  go_wp2_with (first | (go_at_call 17; refine (same_any l _ _ _ _ _ Rm R2).mono ?_; rintro e w3 ⟨rfl, hb3⟩; have T3 := T2.below hb3 T2.1) | (go_at_call 12; refine (works_any _ T3).mono ?_; rintro e w4 ⟨rfl, hb4⟩))
  go_ret
  exact ⟨rfl, B2.trans ((hb3.trans (hb4.mono hb3.size)).mono B2.size)⟩
theorem walk (a : Option Addr) (len cap : Nat) (zs : List Int) (w : World) (T : Tab w) (h0 : IsRow .i64 w a len cap zs) (hr : len * 8 ≤ 140737488351232) :
    Calls Tryd.prog 5 #[.slice a len cap] w fun e w' => e = .returned (.bool true) ∧ Below w.heap.size w w' := by
  have R := row_of h0 (by omega)
  have hlen := row_len h0
  clear h0
  generalize zs.take len = l at R hlen
  subst hlen
  obtain ⟨p, h1, h2, h3⟩ := good_until l
  by_cases hp : p < l.length
  · exact walk1 l p a cap w R T (by omega) h2 (h3 hp) hp
  · have : p = l.length := by omega
    subst this
    rw [List.take_length] at h2
    exact walk2 l a cap w R T (by omega) h2
theorem laid_met (os : Os) : laidMet Tryd.prog Rows.runesBackRow.laid ((laidWorld os).forCall (fun _ _ => 0) ⟨#[], #[.slice none 0 0], []⟩).memory :=
  laidMet_of_run' 8 (by kernel_rfl) (by kernel_rfl)
theorem reads (os : Os) {H : Type} (enc : TypeId × Value → H) : ∃ places, DataW.whole enc Tryd.prog ((laidWorld os).forCall (fun _ _ => 0) ⟨#[], #[.slice none 0 0], []⟩).memory Tryd.f5.params.toList Rows.runesBackSpec.vars false #[Value.slice none 0 0].toList 8 = some ([.nil], [], places) :=
  ⟨[], by kernel_rfl⟩
set_option maxRecDepth 100000 in
theorem lifted (os : Os) (started : os.Started) (H : Type) (enc : TypeId × Value → H) (F : Stop.Interp) :
    ReturnsInHanded {} Tryd.checked os 5 .any ((OpenSpec.ofChange Rows.runesBackSpec).preRow enc Tryd.prog Tryd.f5 Rows.runesBackRow.domain false Rows.runesBackRow.laid) (((OpenSpec.ofChange Rows.runesBackSpec).at F).post enc Tryd.prog Tryd.f5 false true false false) := by
  obtain ⟨places, hx⟩ := reads os enc
  refine returnsInHanded_of_row (C := Tryd.checked) (s := OpenSpec.ofChange Rows.runesBackSpec) own started (by kernel_rfl) Tryd.func5
    (witness_row_at (enc := enc) (C := Tryd.checked) false (laidWorld os) #[.slice none 0 0] rfl (by kernel_rfl) (by kernel_rfl) (by kernel_rfl)
      (OpenSpec.preRow_of_cond 8 hx (by kernel_rfl) (fun k hk => by cases hk) (by kernel_rfl) (laid_met os))) ?_
  intro W base args ds gs before hval0 hW _ _ hsz0 hL _ _
  have hsz : (DataW.weightsEach Tryd.prog (Tryd.f5.params.toList ++ Rows.runesBackSpec.plain.varTypes Tryd.prog) (ds ++ gs)).all (· ≤ reachBytes) = true := hsz0
  clear hsz0
  have hval : ∀ (j : Nat) t v, Tryd.f5.params[j]? = some t → args[j]? = some v → Value.okWide Tryd.prog W .any base t v := hval0
  have hW' := hW
  obtain ⟨p, q, hA0, hV, rfl, hfz, hnd⟩ := hW
  have hA : DataW.TrodAll enc Tryd.prog W 0 (fun _ => true) true Tryd.f5.params.toList args.toList ds p := hA0
  rw [Tryd.params5] at hA hval hsz
  obtain ⟨v0, vs0, d0, ds0, p0, q0, hargs, rfl, rfl, h0, r0⟩ := trodAll_cons hA
  obtain ⟨rfl, rfl, rfl⟩ := trodAll_nil r0
  obtain rfl : args = #[v0] := by cases args; simp_all
  obtain ⟨rfl, rfl⟩ := trodVars_none hV
  obtain ⟨a0, len0, cap0, rfl⟩ := okWide_slice Tryd.underlying22 (hval 0 22 v0 rfl rfl)
  have k0 := h0
  have lt0 : ∀ x ∈ p0, x.block < W.heap.size := by obtain ⟨m, hm⟩ := k0; exact DataW.trod_lt m _ _ _ hm
  obtain ⟨z0, w0, b0⟩ : ∃ zs, IsRow .i64 W a0 len0 cap0 zs ∧ len0 * 8 ≤ 140737488351232 := by
    obtain ⟨fuel, hf⟩ := h0
    rcases open_ints Tryd.underlying22 Tryd.underlying2 (by kernel_rfl) hf with ⟨hcs, hx⟩ | ⟨x, l, c, zs, hcs, _, hl, hm, hz, hx, hcell, hwz⟩
    · simp [Value.cells] at hcs
      obtain ⟨rfl, rfl, rfl⟩ := hcs
      exact ⟨[], .inl ⟨rfl, rfl, rfl, rfl⟩, by omega⟩
    · simp [Value.cells] at hcs
      obtain ⟨rfl, rfl, rfl⟩ := hcs
      have hd := (Prod.mk.inj hx).1
      have hz' : zs.length = cap0 := by simpa using hz
      rw [hd] at hsz
      have hs := sized_slice hsz (j := 0) (t := 22) (e := 2) rfl rfl Tryd.underlying22
      rw [bytes2] at hs
      simp only [lits, List.length_map, List.length_take, List.length_drop, reachBytes] at hs
      exact ⟨zs, .inr ⟨_, rfl, hl, hm, hz', hcell, hwz⟩, by omega⟩
  clear hA0 hval0
  refine (walk a0 len0 cap0 z0 W (tab_of hL) w0 b0).mono fun e W' ⟨he, bel⟩ => ?_
  subst he
  exact ⟨_, rfl, _, _, _, [], _, [], hW', trodAll_mk1 (shut_bool Tryd.underlying4 _), (trodAll_cons_mk (Below.trod laidOut (by kernel_rfl) (of_decide_eq_true (by kernel_rfl)) k0 bel lt0) trodAll_mk0), rfl, bel.frame _, fun h => by cases h⟩
theorem said : Rows.RunesBackSaid :=
  OpenClaim.holds_of_cond 5 Tryd.f5 rfl rfl rfl rfl rfl rfl rfl ⟨rfl, rfl, rfl, rfl, rfl⟩ rfl rfl rfl rfl rfl (by kernel_rfl) Tryd.func5 (by kernel_rfl)
    (of_decide_eq_true (by kernel_rfl)) (by unfold Func.isWrapper; first | (rw [if_pos (by decide +kernel)]; kernel_rfl) | (rw [if_neg (by decide +kernel)]; exact ⟨rfl, rfl⟩))
    (fun os started H enc _ F => by rw [OpenClaim.pre_eq_preRow]; exact lifted os started H enc F)
theorem plain (f : FuncId) (fn : Func) (hf : Tryd.pinned.checked.prog.funcNamed "triglyph/triglyphlaw02.RunesBack" = some f) (hfn : Tryd.pinned.checked.prog.funcs[f]? = some fn) :
    false = Tryd.pinned.checked.prog.looks [] ∧ ∀ (j : Nat) t, fn.params[j]? = some t → Tryd.pinned.checked.prog.wantsStandIn t = false := by
  obtain rfl : f = 5 := Option.some.inj ((show Tryd.prog.funcNamed "triglyph/triglyphlaw02.RunesBack" = some 5 by kernel_rfl).symm.trans hf) |>.symm
  obtain rfl : fn = Tryd.f5 := (Option.some.inj (Tryd.func5.symm.trans hfn)).symm
  refine ⟨by kernel_rfl, fun j t ht => ?_⟩
  rw [Tryd.params5] at ht
  obtain rfl : t = 22 := by simpa using Array.mem_of_getElem? ht
  exact (show Tryd.prog.wantsStandIn 22 = false by kernel_rfl)
theorem proved : Rows.RunesBackCardSaid :=
  Claim7.holds_tied_plain_at .later [] _ _ _ _ said (fun _ h => by cases h) (by kernel_rfl) (fun _ h => by cases h) runesBack_row_tie rfl ⟨rfl, rfl⟩ (by kernel_rfl) rfl plain (by kernel_rfl)
end Go.Proofs.YtkigpbajbafpcaaDoor.runesBack
namespace Go.Proofs.YtkigpbajbafpcaaDoor
theorem runesBack_holds : Rows.RunesBackCardSaid := runesBack.proved
#print axioms runesBack_holds
end Go.Proofs.YtkigpbajbafpcaaDoor
