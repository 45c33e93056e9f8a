/-
  For all lists of bytes that hold at most 1048576 values together, spare places counted, the statement RunesOne holds: bytes that are read are just those that their signs are written as; the table of layer 2 is as its text lays it.
-/
import Derived.Test.YtkigpbajbafpcaaDoorOwnI
namespace Go.Proofs.YtkigpbajbafpcaaDoor.runesOne
open Go.ChangeShapes Go.WideShapes Go.ChangeAt Go.RowKit
set_option linter.unusedVariables false
set_option maxHeartbeats 2000000 in
theorem walk1 (b l r : List Int) (P : Parse b l r) (hr : r ≠ []) (a : Option Addr) (cap : Nat) (w : World) (R : Row .u8 w a b) (T : Tab w) (hB : ∀ z ∈ b, Byte z) (hcap : b.length ≤ cap) (hl : b.length ≤ 1048576) :
    Calls Tryd.prog 6 #[.slice a b.length cap] w fun e w' => e = .returned (.bool true) ∧ Below w.heap.size w w' := by
  have hp := parse_len P
  have he := enc_len l
  have hrl : 0 < r.length := List.length_pos_iff.2 hr
  have hl8 : l.length * 8 ≤ 140737488355328 := by omega
  have hlt : (enc l).length < b.length := by omega
  clear hp he hrl
  go_enter Tryd.func6, Tryd.ntmps6
  go_wp2_with fail
  refine (read_at b l r P b.length rfl _ _ _ R T hB hcap hl8).mono ?_
  rintro e w1 ⟨_, h1, hb1⟩
  have e1 := h1 hr
  subst e1
  have T1 := T.below hb1 T.1
  clear h1 P
  go_wp2_with (go_at_call 12; refine (works_any _ T1).mono ?_; rintro e w2 ⟨rfl, hb2⟩)
  go_ret
  exact ⟨rfl, hb1.trans (hb2.mono hb1.size)⟩
set_option maxHeartbeats 2000000 in
theorem walk2 (l : List Int) (hg : ∀ z ∈ l, Good z) (a : Option Addr) (cap : Nat) (w : World) (R : Row .u8 w a (enc l)) (T : Tab w) (hcap : (enc l).length ≤ cap) (hl : (enc l).length ≤ 1048576) :
    Calls Tryd.prog 6 #[.slice a (enc l).length cap] w fun e w' => e = .returned (.bool true) ∧ Below w.heap.size w w' := by
  have P := parse_all hg
  have hB := enc_bytes hg
  have he := enc_len l
  go_enter Tryd.func6, Tryd.ntmps6
  go_wp2_with fail
  refine (read_at (enc l) l [] P (enc l).length rfl _ _ _ R T hB hcap (by omega)).mono ?_
  rintro e w1 ⟨h1, _, hb1⟩
  obtain ⟨a1, rfl, R1, _⟩ := h1 rfl
  have T1 := T.below hb1 T.1
  have Rl := R.next hb1
  clear h1 P hB
  go_wp2_with fail
  refine (write_any l l.length _ _ _ R1 T1 (by omega) (by omega) (by rw [List.take_length]; exact hg) (fun h => absurd h (by omega))).mono ?_
  rintro e w2 ⟨h2, _, hb2⟩
  obtain ⟨a2, rfl, R2, _⟩ := h2 rfl
  have T2 := T1.below hb2 T1.1
  have Rm := Rl.next hb2
  have B2 := hb1.trans (hb2.mono hb1.size)
  have s1 := str_of_row Rm (enc l).length rfl cap
  have s2 := str_of_row R2 (enc l).length rfl (enc l).length
  clear h2 R1 Rl R T T1 hb1 hb2 he
  go_wp2_with (go_at_call 12; refine (works_any _ T2).mono ?_; rintro e w4 ⟨rfl, hb4⟩)
  go_ret
  exact ⟨rfl, B2.trans (hb4.mono B2.size)⟩
theorem walk (a : Option Addr) (len cap : Nat) (zs : List Int) (w : World) (T : Tab w) (h0 : IsRow .u8 w a len cap zs) (hr : len ≤ 1048576) :
    Calls Tryd.prog 6 #[.slice a len cap] w fun e w' => e = .returned (.bool true) ∧ Below w.heap.size w w' := by
  have R := row_of h0 (by omega)
  have hB := row_bytes h0
  have hc := row_cap h0
  have hlen := row_len h0
  clear h0
  generalize zs.take len = b at R hlen hB
  subst hlen
  obtain ⟨l, r, P⟩ := parse_exists b
  by_cases h : r = []
  · subst h
    obtain ⟨hg, hb, _⟩ := P
    rw [List.append_nil] at hb
    subst hb
    exact walk2 l hg a cap w R T hc hr
  · exact walk1 b l r P h a cap w R T hB hc hr
theorem laid_met (os : Os) : laidMet Tryd.prog Rows.runesOneUptoRow.laid ((laidWorld os).forCall (fun _ _ => 0) ⟨#[], #[.slice none 0 0], []⟩).memory :=
  laidMet_of_run' 8 (by kernel_rfl) (by kernel_rfl)
theorem reads (os : Os) {H : Type} (enc : TypeId × Value → H) : ∃ places, DataW.whole enc Tryd.prog ((laidWorld os).forCall (fun _ _ => 0) ⟨#[], #[.slice none 0 0], []⟩).memory Tryd.f6.params.toList Rows.runesOneSpec.vars false #[Value.slice none 0 0].toList 8 = some ([.nil], [], places) :=
  ⟨[], by kernel_rfl⟩
set_option maxRecDepth 100000 in
theorem lifted (os : Os) (started : os.Started) (H : Type) (enc : TypeId × Value → H) (F : Stop.Interp) :
    ReturnsInHanded {} Tryd.checked os 6 .any ((Rows.OpenSpec.upto Rows.runesOneSpec).preRow enc Tryd.prog Tryd.f6 Rows.runesOneUptoRow.domain false Rows.runesOneUptoRow.laid) (((Rows.OpenSpec.upto Rows.runesOneSpec).at F).post enc Tryd.prog Tryd.f6 false true false false) := by
  obtain ⟨places, hx⟩ := reads os enc
  refine returnsInHanded_of_row (C := Tryd.checked) (s := Rows.OpenSpec.upto Rows.runesOneSpec) own started (by kernel_rfl) Tryd.func6
    (witness_row_at (enc := enc) (C := Tryd.checked) false (laidWorld os) #[.slice none 0 0] rfl (by kernel_rfl) (by kernel_rfl) (by kernel_rfl)
      (OpenSpec.preRow_of_cond 8 hx (by kernel_rfl) (fun k hk => by cases hk; kernel_rfl) (by kernel_rfl) (laid_met os))) ?_
  intro W base args ds gs before hval0 hW _ hcond hsz0 hL _ _
  have hsz : (DataW.weightsEach Tryd.prog (Tryd.f6.params.toList ++ Rows.runesOneSpec.plain.varTypes Tryd.prog) (ds ++ gs)).all (· ≤ reachBytes) = true := hsz0
  clear hsz0
  have hk := hcond _ rfl
  have hval : ∀ (j : Nat) t v, Tryd.f6.params[j]? = some t → args[j]? = some v → Value.okWide Tryd.prog W .any base t v := hval0
  have hW' := hW
  obtain ⟨p, q, hA0, hV, rfl, hfz, hnd⟩ := hW
  have hA : DataW.TrodAll enc Tryd.prog W 0 (fun _ => true) true Tryd.f6.params.toList args.toList ds p := hA0
  rw [Tryd.params6] at hA hval hsz
  obtain ⟨v0, vs0, d0, ds0, p0, q0, hargs, rfl, rfl, h0, r0⟩ := trodAll_cons hA
  obtain ⟨rfl, rfl, rfl⟩ := trodAll_nil r0
  obtain rfl : args = #[v0] := by cases args; simp_all
  obtain ⟨rfl, rfl⟩ := trodVars_none hV
  have hk' : Rows.uptoSmall H [d0] = true := by simpa using hk
  have hbulk : Rows.uptoBulkAll ([d0] : List (DataW H)) ≤ 1048576 := of_decide_eq_true hk'
  simp only [Rows.uptoBulkAll] at hbulk
  obtain ⟨a0, len0, cap0, rfl⟩ := okWide_slice Tryd.underlying23 (hval 0 23 v0 rfl rfl)
  have k0 := h0
  have lt0 : ∀ x ∈ p0, x.block < W.heap.size := by obtain ⟨m, hm⟩ := k0; exact DataW.trod_lt m _ _ _ hm
  obtain ⟨z0, w0, b0⟩ : ∃ zs, IsRow .u8 W a0 len0 cap0 zs ∧ len0 ≤ Rows.uptoBulk d0 := by
    obtain ⟨fuel, hf⟩ := h0
    rcases open_ints Tryd.underlying23 Tryd.underlying5 (by kernel_rfl) hf with ⟨hcs, hx⟩ | ⟨x, l, c, zs, hcs, _, hl, hm, hz, hx, hcell, hwz⟩
    · simp [Value.cells] at hcs
      obtain ⟨rfl, rfl, rfl⟩ := hcs
      exact ⟨[], .inl ⟨rfl, rfl, rfl, rfl⟩, Nat.zero_le _⟩
    · simp [Value.cells] at hcs
      obtain ⟨rfl, rfl, rfl⟩ := hcs
      have hd := (Prod.mk.inj hx).1
      have hz' : zs.length = cap0 := by simpa using hz
      exact ⟨zs, .inr ⟨_, rfl, hl, hm, hz', hcell, hwz⟩, by rw [hd]; exact bulk_ints _ _ _ (by omega)⟩
  clear hA0 hval0
  refine (walk a0 len0 cap0 z0 W (tab_of hL) w0 (by omega)).mono fun e W' ⟨he, bel⟩ => ?_
  subst he
  exact ⟨_, rfl, _, _, _, [], _, [], hW', trodAll_mk1 (shut_bool Tryd.underlying4 _), (trodAll_cons_mk (Below.trod laidOut (by kernel_rfl) (of_decide_eq_true (by kernel_rfl)) k0 bel lt0) trodAll_mk0), rfl, bel.frame _, fun h => by cases h⟩
theorem said : Rows.RunesOneUptoSaid :=
  OpenClaim.holds_of_cond 6 Tryd.f6 rfl rfl rfl rfl rfl rfl rfl ⟨rfl, rfl, rfl, rfl, rfl⟩ rfl rfl rfl rfl rfl (by kernel_rfl) Tryd.func6 (by kernel_rfl)
    (of_decide_eq_true (by kernel_rfl)) (by unfold Func.isWrapper; first | (rw [if_pos (by decide +kernel)]; kernel_rfl) | (rw [if_neg (by decide +kernel)]; exact ⟨rfl, rfl⟩))
    (fun os started H enc _ F => by rw [OpenClaim.pre_eq_preRow]; exact lifted os started H enc F)
theorem plain (f : FuncId) (fn : Func) (hf : Tryd.pinned.checked.prog.funcNamed "triglyph/triglyphlaw02.RunesOne" = some f) (hfn : Tryd.pinned.checked.prog.funcs[f]? = some fn) :
    false = Tryd.pinned.checked.prog.looks [] ∧ ∀ (j : Nat) t, fn.params[j]? = some t → Tryd.pinned.checked.prog.wantsStandIn t = false := by
  obtain rfl : f = 6 := Option.some.inj ((show Tryd.prog.funcNamed "triglyph/triglyphlaw02.RunesOne" = some 6 by kernel_rfl).symm.trans hf) |>.symm
  obtain rfl : fn = Tryd.f6 := (Option.some.inj (Tryd.func6.symm.trans hfn)).symm
  refine ⟨by kernel_rfl, fun j t ht => ?_⟩
  rw [Tryd.params6] at ht
  obtain rfl : t = 23 := by simpa using Array.mem_of_getElem? ht
  exact (show Tryd.prog.wantsStandIn 23 = false by kernel_rfl)
theorem proved : Rows.RunesOneUptoCardSaid :=
  Claim7.holds_tied_plain_at .later [] _ _ _ _ said (fun _ h => by cases h) (by kernel_rfl) (fun _ h => by cases h) runesOneUpto_row_tie rfl ⟨rfl, rfl⟩ (by kernel_rfl) rfl plain (by kernel_rfl)
end Go.Proofs.YtkigpbajbafpcaaDoor.runesOne
namespace Go.Proofs.YtkigpbajbafpcaaDoor
theorem runesOne_holds : Rows.RunesOneUptoCardSaid := runesOne.proved
#print axioms runesOne_holds
end Go.Proofs.YtkigpbajbafpcaaDoor
