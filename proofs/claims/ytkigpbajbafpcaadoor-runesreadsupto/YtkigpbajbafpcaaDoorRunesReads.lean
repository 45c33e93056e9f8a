/-
  For all lists of bytes that hold at most 1048576 values together, spare places counted, the statement RunesReads holds: which signs bytes are, or where they are none, and with which one they begin, is what the chapter says; the table of layer 2 is as its text lays it.
-/
import Derived.Test.YtkigpbajbafpcaaDoorOwnI
import Derived.Test.YtkigpbajbafpcaaDoorOwnN
namespace Go.Proofs.YtkigpbajbafpcaaDoor.runesReads
open Go.ChangeShapes Go.WideShapes Go.ChangeAt Go.RowKit
set_option linter.unusedVariables false
/-- What both answer of the first sign. -/
theorem one_det (b : List Int) (hB : ∀ z ∈ b, Byte z) (hl : b.length ≤ 140737488355328) : ∃ n0 k0 : Int,
    (∀ (a : Option Addr) (cap : Nat) (w : World), Row .u8 w a b → Tab w → Calls Tryd.prog 15 #[.slice a b.length cap] w fun e w' => e = .returned (.tuple #[.int .i64 n0, .int .i64 k0]) ∧ w' = w) ∧
    (∀ (a : Option Addr) (cap : Nat) (w : World), Row .u8 w a b → b.length ≤ cap → Calls Tryd.prog 16 #[.slice a b.length cap] w fun e w' => e = .returned (.tuple #[.int .i64 n0, .int .i64 k0]) ∧ Below w.heap.size w w') := by
  obtain ⟨l, r, hg, hb, hn⟩ := parse_exists b
  cases l with
  | nil =>
    rw [enc_nil, List.nil_append] at hb
    rw [← hb] at hn
    refine ⟨0, 0, fun a cap w R T => ?_, fun a cap w R hc => ?_⟩
    · rcases R.2 with h | ⟨blk, off, rfl, hlt, hcell⟩
      · rw [h]; exact one_empty a cap w
      · by_cases h0 : b.length = 0
        · rw [h0]; exact one_empty _ cap w
        · exact one_zero b hn b.length rfl (by omega) blk off cap w T hB hl hcell
    · rcases R.2 with h | ⟨blk, off, rfl, hlt, hcell⟩
      · rw [h]
        refine (oneR_empty a cap w).mono ?_
        rintro e w' ⟨rfl, rfl⟩
        exact ⟨rfl, Below.refl _ _⟩
      · exact oneR_zero b hn b.length rfl blk off cap w hB hl hlt hc hcell
  | cons z l =>
    rw [enc_cons, List.append_assoc] at hb
    have hz := hg z (by simp)
    have hne : b ≠ [] := by
      intro h
      rw [h] at hb
      have := congrArg List.length hb
      rw [List.length_append, put_length] at this
      have := wid_pos z
      simp at *
      omega
    refine ⟨z, wid z, fun a cap w R T => ?_, fun a cap w R hc => ?_⟩
    · rcases R.2 with h | ⟨blk, off, rfl, hlt, hcell⟩
      · exact absurd h hne
      · exact one_some b z _ hz hb b.length rfl blk off cap w T hB hl hcell
    · rcases R.2 with h | ⟨blk, off, rfl, hlt, hcell⟩
      · exact absurd h hne
      · exact oneR_some b z _ hz hb b.length rfl blk off cap w hB hl hlt hc hcell
theorem same_nil (w : World) : Calls Tryd.prog 17 #[.slice none 0 0, .slice none 0 0] w fun e w' => e = .returned (.bool true) ∧ Below w.heap.size w w' :=
  same_any [] none none 0 0 w ⟨by simp, Or.inl rfl⟩ ⟨by simp, Or.inl rfl⟩
set_option maxHeartbeats 2000000 in
theorem walk1 (b l r : List Int) (P : Parse b l r) (hr : r ≠ []) (a : Option Addr) (cap : Nat) (w : World) (R : Row .u8 w a b) (T : Tab w) (hB : ∀ z ∈ b, Byte z) (hcap : b.length ≤ cap) (hl : b.length ≤ 1048576) :
    Calls Tryd.prog 4 #[.slice a b.length cap] w fun e w' => e = .returned (.bool true) ∧ Below w.heap.size w w' := by
  have hp := parse_len P
  have he := enc_len l
  have hl8 : l.length * 8 ≤ 140737488355328 := by omega
  obtain ⟨n0, k0, O1, O2⟩ := one_det b hB (by omega)
  have H1 : Hid _ := O1
  have H2 : Hid _ := O2
  clear hp he O1 O2
  go_enter Tryd.func4, Tryd.ntmps4
  go_wp2_with fail
  refine (read_at b l r P b.length rfl _ _ _ R T hB hcap hl8).mono ?_
  rintro e w1 ⟨_, h1, hb1⟩
  have e1 := h1 hr
  subst e1
  have T1 := T.below hb1 T.1
  have R1 := R.next hb1
  clear h1
  go_wp2_with fail
  refine (readR_any b l r P _ _ _ R1 hB (by omega) hl8).mono ?_
  rintro e w2 ⟨_, h2, hb2⟩
  have e2 := h2 hr
  subst e2
  have T2 := T1.below hb2 T1.1
  have R2 := R1.next hb2
  have B2 := hb1.trans (hb2.mono hb1.size)
  clear h2 R1 T1 hb1 hb2 R T P hB
  go_wp2_with fail
  refine (H1.out _ _ _ R2 T2).mono ?_
  rintro e w' ⟨rfl, hw⟩
  rw [hw]
  go_wp2_with fail
  refine (H2.out _ _ _ R2 hcap).mono ?_
  rintro e w3 ⟨rfl, hb3⟩
  have T3 := T2.below hb3 T2.1
  have B3 := B2.trans (hb3.mono B2.size)
  clear B2 hb3 T2 R2
  go_wp2_with (first | (go_at_call 17; refine (same_nil _).mono ?_; rintro e w4 ⟨rfl, hb4⟩; have T4 := T3.below hb4 T3.1) | (go_at_call 12; refine (works_any _ T4).mono ?_; rintro e w5 ⟨rfl, hb5⟩))
  go_ret
  exact ⟨rfl, B3.trans ((hb4.trans (hb5.mono hb4.size)).mono B3.size)⟩
set_option maxHeartbeats 2000000 in
theorem walk2 (b l : List Int) (P : Parse b l []) (a : Option Addr) (cap : Nat) (w : World) (R : Row .u8 w a b) (T : Tab w) (hB : ∀ z ∈ b, Byte z) (hcap : b.length ≤ cap) (hl : b.length ≤ 1048576) :
    Calls Tryd.prog 4 #[.slice a b.length cap] w fun e w' => e = .returned (.bool true) ∧ Below w.heap.size w w' := by
  have hp := parse_len P
  have he := enc_len l
  have hl8 : l.length * 8 ≤ 140737488355328 := by omega
  obtain ⟨n0, k0, O1, O2⟩ := one_det b hB (by omega)
  have H1 : Hid _ := O1
  have H2 : Hid _ := O2
  clear hp he O1 O2
  go_enter Tryd.func4, Tryd.ntmps4
  go_wp2_with fail
  refine (read_at b l [] P b.length rfl _ _ _ R T hB hcap hl8).mono ?_
  rintro e w1 ⟨h1, _, hb1⟩
  obtain ⟨a1, rfl, Q1, _⟩ := h1 rfl
  have T1 := T.below hb1 T.1
  have R1 := R.next hb1
  clear h1
  go_wp2_with fail
  refine (readR_any b l [] P _ _ _ R1 hB (by omega) hl8).mono ?_
  rintro e w2 ⟨h2, _, hb2⟩
  obtain ⟨a2, c2, rfl, Q2⟩ := h2 rfl
  have T2 := T1.below hb2 T1.1
  have R2 := R1.next hb2
  have Q1' := Q1.next hb2
  have B2 := hb1.trans (hb2.mono hb1.size)
  clear h2 R1 T1 hb1 hb2 R T P hB Q1
  go_wp2_with fail
  refine (H1.out _ _ _ R2 T2).mono ?_
  rintro e w' ⟨rfl, hw⟩
  rw [hw]
  go_wp2_with fail
  refine (H2.out _ _ _ R2 hcap).mono ?_
  rintro e w3 ⟨rfl, hb3⟩
  have T3 := T2.below hb3 T2.1
  have Q3 := Q1'.next hb3
  have Q4 := Q2.next hb3
  have B3 := B2.trans (hb3.mono B2.size)
  clear B2 hb3 T2 R2 Q1' Q2
  go_wp2_with (first | (go_at_call 17; refine (same_any l _ _ _ _ _ Q3 Q4).mono ?_; rintro e w4 ⟨rfl, hb4⟩; have T4 := T3.below hb4 T3.1) | (go_at_call 12; refine (works_any _ T4).mono ?_; rintro e w5 ⟨rfl, hb5⟩))
  go_ret
  exact ⟨rfl, B3.trans ((hb4.trans (hb5.mono hb4.size)).mono B3.size)⟩
theorem walk (a : Option Addr) (len cap : Nat) (zs : List Int) (w : World) (T : Tab w) (h0 : IsRow .u8 w a len cap zs) (hr : len ≤ 1048576) :
    Calls Tryd.prog 4 #[.slice a len cap] w fun e w' => e = .returned (.bool true) ∧ Below w.heap.size w w' := by
  have R := row_of h0 (by omega)
  have hB := row_bytes h0
  have hc := row_cap h0
  have hlen := row_len h0
  clear h0
  generalize zs.take len = b at R hlen hB
  subst hlen
  obtain ⟨l, r, P⟩ := parse_exists b
  by_cases h : r = []
  · subst h
    exact walk2 b l P a cap w R T hB hc hr
  · exact walk1 b l r P h a cap w R T hB hc hr
theorem laid_met (os : Os) : laidMet Tryd.prog Rows.runesReadsUptoRow.laid ((laidWorld os).forCall (fun _ _ => 0) ⟨#[], #[.slice none 0 0], []⟩).memory :=
  laidMet_of_run' 8 (by kernel_rfl) (by kernel_rfl)
theorem reads (os : Os) {H : Type} (enc : TypeId × Value → H) : ∃ places, DataW.whole enc Tryd.prog ((laidWorld os).forCall (fun _ _ => 0) ⟨#[], #[.slice none 0 0], []⟩).memory Tryd.f4.params.toList Rows.runesReadsSpec.vars false #[Value.slice none 0 0].toList 8 = some ([.nil], [], places) :=
  ⟨[], by kernel_rfl⟩
set_option maxRecDepth 100000 in
theorem lifted (os : Os) (started : os.Started) (H : Type) (enc : TypeId × Value → H) (F : Stop.Interp) :
    ReturnsInHanded {} Tryd.checked os 4 .any ((Rows.OpenSpec.upto Rows.runesReadsSpec).preRow enc Tryd.prog Tryd.f4 Rows.runesReadsUptoRow.domain false Rows.runesReadsUptoRow.laid) (((Rows.OpenSpec.upto Rows.runesReadsSpec).at F).post enc Tryd.prog Tryd.f4 false true false false) := by
  obtain ⟨places, hx⟩ := reads os enc
  refine returnsInHanded_of_row (C := Tryd.checked) (s := Rows.OpenSpec.upto Rows.runesReadsSpec) own started (by kernel_rfl) Tryd.func4
    (witness_row_at (enc := enc) (C := Tryd.checked) false (laidWorld os) #[.slice none 0 0] rfl (by kernel_rfl) (by kernel_rfl) (by kernel_rfl)
      (OpenSpec.preRow_of_cond 8 hx (by kernel_rfl) (fun k hk => by cases hk; kernel_rfl) (by kernel_rfl) (laid_met os))) ?_
  intro W base args ds gs before hval0 hW _ hcond hsz0 hL _ _
  have hsz : (DataW.weightsEach Tryd.prog (Tryd.f4.params.toList ++ Rows.runesReadsSpec.plain.varTypes Tryd.prog) (ds ++ gs)).all (· ≤ reachBytes) = true := hsz0
  clear hsz0
  have hk := hcond _ rfl
  have hval : ∀ (j : Nat) t v, Tryd.f4.params[j]? = some t → args[j]? = some v → Value.okWide Tryd.prog W .any base t v := hval0
  have hW' := hW
  obtain ⟨p, q, hA0, hV, rfl, hfz, hnd⟩ := hW
  have hA : DataW.TrodAll enc Tryd.prog W 0 (fun _ => true) true Tryd.f4.params.toList args.toList ds p := hA0
  rw [Tryd.params4] at hA hval hsz
  obtain ⟨v0, vs0, d0, ds0, p0, q0, hargs, rfl, rfl, h0, r0⟩ := trodAll_cons hA
  obtain ⟨rfl, rfl, rfl⟩ := trodAll_nil r0
  obtain rfl : args = #[v0] := by cases args; simp_all
  obtain ⟨rfl, rfl⟩ := trodVars_none hV
  have hk' : Rows.uptoSmall H [d0] = true := by simpa using hk
  have hbulk : Rows.uptoBulkAll ([d0] : List (DataW H)) ≤ 1048576 := of_decide_eq_true hk'
  simp only [Rows.uptoBulkAll] at hbulk
  obtain ⟨a0, len0, cap0, rfl⟩ := okWide_slice Tryd.underlying23 (hval 0 23 v0 rfl rfl)
  have k0 := h0
  have lt0 : ∀ x ∈ p0, x.block < W.heap.size := by obtain ⟨m, hm⟩ := k0; exact DataW.trod_lt m _ _ _ hm
  obtain ⟨z0, w0, b0⟩ : ∃ zs, IsRow .u8 W a0 len0 cap0 zs ∧ len0 ≤ Rows.uptoBulk d0 := by
    obtain ⟨fuel, hf⟩ := h0
    rcases open_ints Tryd.underlying23 Tryd.underlying5 (by kernel_rfl) hf with ⟨hcs, hx⟩ | ⟨x, l, c, zs, hcs, _, hl, hm, hz, hx, hcell, hwz⟩
    · simp [Value.cells] at hcs
      obtain ⟨rfl, rfl, rfl⟩ := hcs
      exact ⟨[], .inl ⟨rfl, rfl, rfl, rfl⟩, Nat.zero_le _⟩
    · simp [Value.cells] at hcs
      obtain ⟨rfl, rfl, rfl⟩ := hcs
      have hd := (Prod.mk.inj hx).1
      have hz' : zs.length = cap0 := by simpa using hz
      exact ⟨zs, .inr ⟨_, rfl, hl, hm, hz', hcell, hwz⟩, by rw [hd]; exact bulk_ints _ _ _ (by omega)⟩
  clear hA0 hval0
  refine (walk a0 len0 cap0 z0 W (tab_of hL) w0 (by omega)).mono fun e W' ⟨he, bel⟩ => ?_
  subst he
  exact ⟨_, rfl, _, _, _, [], _, [], hW', trodAll_mk1 (shut_bool Tryd.underlying4 _), (trodAll_cons_mk (Below.trod laidOut (by kernel_rfl) (of_decide_eq_true (by kernel_rfl)) k0 bel lt0) trodAll_mk0), rfl, bel.frame _, fun h => by cases h⟩
theorem said : Rows.RunesReadsUptoSaid :=
  OpenClaim.holds_of_cond 4 Tryd.f4 rfl rfl rfl rfl rfl rfl rfl ⟨rfl, rfl, rfl, rfl, rfl⟩ rfl rfl rfl rfl rfl (by kernel_rfl) Tryd.func4 (by kernel_rfl)
    (of_decide_eq_true (by kernel_rfl)) (by unfold Func.isWrapper; first | (rw [if_pos (by decide +kernel)]; kernel_rfl) | (rw [if_neg (by decide +kernel)]; exact ⟨rfl, rfl⟩))
    (fun os started H enc _ F => by rw [OpenClaim.pre_eq_preRow]; exact lifted os started H enc F)
theorem plain (f : FuncId) (fn : Func) (hf : Tryd.pinned.checked.prog.funcNamed "triglyph/triglyphlaw02.RunesReads" = some f) (hfn : Tryd.pinned.checked.prog.funcs[f]? = some fn) :
    false = Tryd.pinned.checked.prog.looks [] ∧ ∀ (j : Nat) t, fn.params[j]? = some t → Tryd.pinned.checked.prog.wantsStandIn t = false := by
  obtain rfl : f = 4 := Option.some.inj ((show Tryd.prog.funcNamed "triglyph/triglyphlaw02.RunesReads" = some 4 by kernel_rfl).symm.trans hf) |>.symm
  obtain rfl : fn = Tryd.f4 := (Option.some.inj (Tryd.func4.symm.trans hfn)).symm
  refine ⟨by kernel_rfl, fun j t ht => ?_⟩
  rw [Tryd.params4] at ht
  obtain rfl : t = 23 := by simpa using Array.mem_of_getElem? ht
  exact (show Tryd.prog.wantsStandIn 23 = false by kernel_rfl)
theorem proved : Rows.RunesReadsUptoCardSaid :=
  Claim7.holds_tied_plain_at .later [] _ _ _ _ said (fun _ h => by cases h) (by kernel_rfl) (fun _ h => by cases h) runesReadsUpto_row_tie rfl ⟨rfl, rfl⟩ (by kernel_rfl) rfl plain (by kernel_rfl)
end Go.Proofs.YtkigpbajbafpcaaDoor.runesReads
namespace Go.Proofs.YtkigpbajbafpcaaDoor
theorem runesReads_holds : Rows.RunesReadsUptoCardSaid := runesReads.proved
#print axioms runesReads_holds
end Go.Proofs.YtkigpbajbafpcaaDoor
