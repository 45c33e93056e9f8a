/-
  For all int and all two cells the statement AtomicCells holds: any function of any two cells is what the chapter says; no condition (the given row speaks of what a machine of 64 bits can hold, and of the table of layer 4 as its text lays it).
-/
import Derived.Test.YtkigfmfegldhcaaDoorAtK
import Derived.Test.YtkigfmfegldhcaaDoorAtM
namespace Go.Proofs.YtkigfmfegldhcaaDoor.atomicCells
open Go.ChangeShapes Go.WideShapes Go.ChangeAt Go.RowKit
open Num (resV resE In64 sgnI absI)
set_option linter.unusedVariables false
/-- Two cells put into one array. -/
theorem pair_in {N lo : Nat} {w : World} {c d : Ce} {z0 z1 y0 y1 : Int} {e2 f2 : Option Addr} {BC m2 BD o2 : Nat} (hc : CeIn (ArIn N lo w) lo w c (.int .i64 z0) (.int .i64 z1) (.slice e2 BC m2)) (hd : CeIn (ArIn N lo w) lo w d (.int .i64 y0) (.int .i64 y1) (.slice f2 BD o2)) (hlo : lo ≤ w.heap.size) :
    ArIn (N + 1) lo (w.alloc (.cells #[.int .i64 z0, .int .i64 z1, .slice e2 BC m2, .int .i64 y0, .int .i64 y1, .slice f2 BD o2] 35)) (.mk [] [c, d]) (.agg #[.slice none 0 0, .slice (some ⟨w.heap.size, 0, none⟩) 2 2]) := by
  refine arIn_mk (x := .mk [] [c, d]) (row_nil _ _ _) (by simp [Ar.cells]) ?_ rfl rfl
  refine Or.inr ⟨w.heap.size, 0, rfl, hlo, by simp, ?_⟩
  intro i hi
  have b := one_alloc w (.cells #[.int .i64 z0, .int .i64 z1, .slice e2 BC m2, .int .i64 y0, .int .i64 y1, .slice f2 BD o2] 35)
  have hi' : i < 2 := hi
  rcases (show i = 0 ∨ i = 1 by omega) with rfl | rfl
  · exact ⟨_, _, _, cell_new0 w _ 35 0 _ rfl, cell_new0 w _ 35 1 _ rfl, cell_new0 w _ 35 2 _ rfl, hc.mono (Nat.le_refl _) b fun x v h => h.next b⟩
  · exact ⟨_, _, _, cell_new0 w _ 35 3 _ rfl, cell_new0 w _ 35 4 _ rfl, cell_new0 w _ 35 5 _ rfl, hd.mono (Nat.le_refl _) b fun x v h => h.next b⟩
theorem num_ce (n lo : Nat) (w : World) (V : Int) : CeIn (ArIn n lo w) lo w (0, V, []) (.int .i64 0) (.int .i64 V) (.slice none 0 0) := ⟨rfl, rfl, none, 0, rfl, by simp, Or.inl rfl⟩
set_option maxRecDepth 20000 in
set_option maxHeartbeats 8000000 in
theorem walk1 (op : Int) (n : Nat) (c d : Ce) (r0 r1 r2 t0 t1 t2 : Value) (w : World) (T : Tab w) (hc : CeIn (ArIn n 0 w) 0 w c r0 r1 r2) (sc : SndC c) (hd : CeIn (ArIn n 0 w) 0 w d t0 t1 t2) (sd : SndC d) :
    Calls Tryd.prog 4 #[.int .i64 op, .agg #[r0, r1, r2], .agg #[t0, t1, t2]] w fun e w' => e = .returned (.bool true) ∧ Below w.heap.size w w' := by
  have hc' := hc
  have hd' := hd
  obtain ⟨rfl, rfl, e2, m2, rfl, -⟩ := hc'
  obtain ⟨rfl, rfl, f2, o2, rfl, -⟩ := hd'
  obtain ⟨W2, eW⟩ : ∃ W2, W2 = (w.alloc (.cells #[.int .i64 c.1, .int .i64 c.2.1, .slice e2 c.2.2.length m2] 35)).alloc (.cells #[.int .i64 d.1, .int .i64 d.2.1, .slice f2 d.2.2.length o2] 35) := ⟨_, rfl⟩
  have B2 : Below w.heap.size w W2 := by rw [eW]; exact two_allocs _ _ _
  have s2 : W2.heap.size = w.heap.size + 2 := by rw [eW]; exact size_two _ _ _
  have CL := hide (light_any (pair_in (hc.mono (Nat.le_refl _) B2 fun x v h => h.next B2) (hd.mono (Nat.le_refl _) B2 fun x v h => h.next B2) (Nat.zero_le _)))
  rw [s2] at CL
  have q : ∀ W, Below W2.heap.size W2 W → (W.cell? ⟨w.heap.size, 0, none⟩ = some (.int .i64 c.1) ∧ W.cell? ⟨w.heap.size, 1, none⟩ = some (.int .i64 c.2.1) ∧ W.cell? ⟨w.heap.size, 2, none⟩ = some (.slice e2 c.2.2.length m2)) ∧ W.cell? ⟨w.heap.size + 1, 0, none⟩ = some (.int .i64 d.1) ∧ W.cell? ⟨w.heap.size + 1, 1, none⟩ = some (.int .i64 d.2.1) ∧ W.cell? ⟨w.heap.size + 1, 2, none⟩ = some (.slice f2 d.2.2.length o2) := by
    intro W h
    have t1 : ∀ i v, #[Value.int .i64 c.1, .int .i64 c.2.1, .slice e2 c.2.2.length m2][i]? = some v → W.cell? ⟨w.heap.size, i, none⟩ = some v := fun i v hv => (h.cell (p := ⟨w.heap.size, i, none⟩) (by show w.heap.size < _; omega)).trans (by rw [eW]; exact cell_new1 w _ 35 (0, 0) _ i _ hv)
    have t2 : ∀ i v, #[Value.int .i64 d.1, .int .i64 d.2.1, .slice f2 d.2.2.length o2][i]? = some v → W.cell? ⟨w.heap.size + 1, i, none⟩ = some v := fun i v hv => (h.cell (p := ⟨w.heap.size + 1, i, none⟩) (by show w.heap.size + 1 < _; omega)).trans (by rw [eW]; exact cell_new2 w _ 35 (0, 0) _ i _ hv)
    exact ⟨⟨t1 0 _ rfl, t1 1 _ rfl, t1 2 _ rfl⟩, t2 0 _ rfl, t2 1 _ rfl, t2 2 _ rfl⟩
  have HQ := hide q
  have HT := hide (fun W (h : Below w.heap.size w W) => T.next h)
  have HB := hide (fun W (h : Below W2.heap.size W2 W) => B2.trans (h.mono B2.size))
  have C1 := hide (fun W TT => cell2_any op c.1 c.2.1 d.1 d.2.1 e2 f2 c.2.2.length m2 d.2.2.length o2 c d ⟨rfl, rfl⟩ ⟨rfl, rfl⟩ sc.2.1 sd.2.1 W TT)
  have C2 := hide (fun W => rcell2_any op c.1 c.2.1 d.1 d.2.1 e2 f2 c.2.2.length m2 d.2.2.length o2 c d ⟨rfl, rfl⟩ ⟨rfl, rfl⟩ sc.2.1 sd.2.1 W)
  generalize c2V op c d = V at *
  generalize c2E op c d = U at *
  have C3 : Hid (∀ W, Calls Tryd.prog 16 #[.agg #[.int .i64 0, .int .i64 V, .slice none 0 0], .agg #[.int .i64 0, .int .i64 V, .slice none 0 0]] W fun e w' => e = .returned (.int .i64 0) ∧ Below W.heap.size W w') := by
    intro W
    have := rcell_any 1 (rcmp_any 1) (0, V, []) (0, V, []) 0 0 W _ _ _ _ _ _ (num_ce 1 0 W V) (num_ce 1 0 W V)
    rw [cmpC_self (cmpA_self 1)] at this
    exact this
  have C4 := hide (fun W => is_any op W)
  generalize c.1 = k1 at *
  generalize c.2.1 = n1 at *
  generalize c.2.2.length = BC at *
  generalize d.1 = k2 at *
  generalize d.2.1 = n2 at *
  generalize d.2.2.length = BD at *
  have HS2 := hide s2
  clear hc hd sc sd T q B2 s2
  go_enter Tryd.func4, Tryd.ntmps4
  go_wp2_with fail
  rw [← eW]
  refine CL.out.mono ?_
  rintro e w1 ⟨⟨r, rfl, -⟩, hb1⟩
  have J1 : Below W2.heap.size W2 w1 := after1 hb1
  clear CL eW hb1
  cases r with
  | false =>
    have B1 := HB.out _ J1
    clear HQ C1 C2 C3 C4 HB
    go_wp2_with fail
    refine (works_any _ (HT.out _ B1)).mono ?_
    rintro e w2 ⟨rfl, hb2⟩
    go_wp2
    go_ret
    exact ⟨rfl, B1.trans (hb2.mono B1.size)⟩
  | true =>
    obtain ⟨⟨x0, x1, x2⟩, y0, y1, y2⟩ := HQ.out _ J1
    go_wp2_with fail
    refine (C1.out _ (HT.out _ (HB.out _ J1))).mono ?_
    rintro e w2 ⟨rfl, hb2⟩
    have J2 := J1.trans (hb2.mono J1.size)
    clear x0 x1 x2 y0 y1 y2
    obtain ⟨W3, e3⟩ : ∃ W3, W3 = w2.alloc (.cells #[.int .i64 0, .int .i64 V, .slice none 0 0] 35) := ⟨_, rfl⟩
    have b3 : Below w2.heap.size w2 W3 := by rw [e3]; exact one_alloc _ _
    have s3 : W3.heap.size = w2.heap.size + 1 := by rw [e3]; simp
    have J3 := J2.trans (b3.mono J2.size)
    have HP : Hid (∀ W, Below W3.heap.size W3 W → W.cell? ⟨w2.heap.size, 0, none⟩ = some (.int .i64 0) ∧ W.cell? ⟨w2.heap.size, 1, none⟩ = some (.int .i64 V) ∧ W.cell? ⟨w2.heap.size, 2, none⟩ = some (.slice none 0 0)) := by
      intro W h
      have t1 : ∀ i v, #[Value.int .i64 0, .int .i64 V, .slice none 0 0][i]? = some v → W.cell? ⟨w2.heap.size, i, none⟩ = some v := fun i v hv => (h.cell (p := ⟨w2.heap.size, i, none⟩) (by show w2.heap.size < _; omega)).trans (by rw [e3]; exact cell_new0 w2 _ 35 i _ hv)
      exact ⟨t1 0 _ rfl, t1 1 _ rfl, t1 2 _ rfl⟩
    obtain ⟨⟨x0, x1, x2⟩, y0, y1, y2⟩ := HQ.out _ J3
    rw [e3] at x0 x1 x2 y0 y1 y2
    go_wp2_with fail
    rw [← e3]
    refine (C2.out _).mono ?_
    rintro e w4 ⟨rfl, hb4⟩
    clear x0 x1 x2 y0 y1 y2 e3 s3
    have J4 := J3.trans (hb4.mono J3.size)
    have n4 := one_alloc w4 (.cells #[.int .i64 0, .int .i64 V, .slice none 0 0] 35)
    have hb45 := hb4.trans (n4.mono hb4.size)
    obtain ⟨x0, x1, x2⟩ := HP.out _ hb45
    have J5 := J4.trans (n4.mono J4.size)
    have HB5 := hide (HB.out _ J5)
    clear C1 C2 HQ hb2 b3 hb4 n4 hb45 J1 J2 J3 J4 J5 HP HB
    go_wp2_with fail
    refine (C3.out _).mono ?_
    rintro e w6 ⟨rfl, hb6⟩
    have B6 := HB5.out.trans (hb6.mono HB5.out.size)
    have T6 := HT.out _ B6
    clear x0 x1 x2 C3 HT
    by_cases h21 : 21 ≤ op
    · by_cases h32 : op ≤ 32
      · have hi : isOp op = true := by simp [isOp, h21, h32]
        rw [hi] at C4
        clear hi
        go_wp2_with fail
        refine (C4.out _).mono ?_
        rintro e w7 ⟨rfl, hw⟩
        rw [hw]
        clear hw C4
        go_wp2_with fail
        refine (works_any _ T6).mono ?_
        rintro e w8 ⟨rfl, hb8⟩
        go_wp2
        go_ret
        exact ⟨rfl, B6.trans (hb8.mono B6.size)⟩
      · have d32 : decide (op ≤ 32) = false := decide_eq_false h32
        have hi : isOp op = false := by simp [isOp, h32]
        rw [hi] at C4
        clear hi
        go_wp2_with fail
        refine (C4.out _).mono ?_
        rintro e w7 ⟨rfl, hw⟩
        rw [hw]
        clear hw C4
        go_wp2_with fail
        refine (works_any _ T6).mono ?_
        rintro e w8 ⟨rfl, hb8⟩
        go_wp2
        go_ret
        exact ⟨rfl, B6.trans (hb8.mono B6.size)⟩
    · have hi : isOp op = false := by simp [isOp, h21]
      rw [hi] at C4
      clear hi
      go_wp2_with fail
      refine (C4.out _).mono ?_
      rintro e w7 ⟨rfl, hw⟩
      rw [hw]
      clear hw C4
      go_wp2_with fail
      refine (works_any _ T6).mono ?_
      rintro e w8 ⟨rfl, hb8⟩
      go_wp2
      go_ret
      exact ⟨rfl, B6.trans (hb8.mono B6.size)⟩
theorem walk (op : Int) (n0 : Nat) (c : Ce) (r0 r1 r2 : Value) (n1 : Nat) (d : Ce) (t0 t1 t2 : Value) (w : World) (T : Tab w) (ho : I64 op) (hc : CeIn (ArIn n0 0 w) 0 w c r0 r1 r2) (sc : SndC c) (hd : CeIn (ArIn n1 0 w) 0 w d t0 t1 t2) (sd : SndC d) :
    Calls Tryd.prog 4 #[.int .i64 op, .agg #[r0, r1, r2], .agg #[t0, t1, t2]] w fun e w' => e = .returned (.bool true) ∧ Below w.heap.size w w' :=
  walk1 op (n0 + n1) c d r0 r1 r2 t0 t1 t2 w T (hc.deeper fun x v h => h.deep (by omega)) sc (hd.deeper fun x v h => h.deep (by omega)) sd
theorem laid_met (os : Os) : laidMet Tryd.prog Rows.atomicCellsRow.laid ((laidWorld os).forCall (fun _ _ => 0) ⟨#[], #[.int .i64 0, .agg #[.int .i64 0, .int .i64 0, .slice none 0 0], .agg #[.int .i64 0, .int .i64 0, .slice none 0 0]], []⟩).memory :=
  laidMet_of_run' 8 (by kernel_rfl) (by kernel_rfl)
theorem reads (os : Os) {H : Type} (enc : TypeId × Value → H) : ∃ places, DataW.whole enc Tryd.prog ((laidWorld os).forCall (fun _ _ => 0) ⟨#[], #[.int .i64 0, .agg #[.int .i64 0, .int .i64 0, .slice none 0 0], .agg #[.int .i64 0, .int .i64 0, .slice none 0 0]], []⟩).memory Tryd.f4.params.toList Rows.atomicCellsSpec.vars false #[Value.int .i64 0, Value.agg #[.int .i64 0, .int .i64 0, .slice none 0 0], Value.agg #[.int .i64 0, .int .i64 0, .slice none 0 0]].toList 8 = some ([.lit (.int .i64 0), .agg [.lit (.int .i64 0), .lit (.int .i64 0), .nil], .agg [.lit (.int .i64 0), .lit (.int .i64 0), .nil]], [], places) :=
  ⟨[], by kernel_rfl⟩
set_option maxRecDepth 100000 in
theorem lifted (os : Os) (started : os.Started) (H : Type) (enc : TypeId × Value → H) (F : Stop.Interp) :
    ReturnsInHanded {} Tryd.checked os 4 .any ((OpenSpec.ofChange Rows.atomicCellsSpec).preRow enc Tryd.prog Tryd.f4 Rows.atomicCellsRow.domain false Rows.atomicCellsRow.laid) (((OpenSpec.ofChange Rows.atomicCellsSpec).at F).post enc Tryd.prog Tryd.f4 false true false false) := by
  obtain ⟨places, hx⟩ := reads os enc
  refine returnsInHanded_of_row (C := Tryd.checked) (s := OpenSpec.ofChange Rows.atomicCellsSpec) own started (by kernel_rfl) Tryd.func4
    (witness_row_at (enc := enc) (C := Tryd.checked) false (laidWorld os) #[.int .i64 0, .agg #[.int .i64 0, .int .i64 0, .slice none 0 0], .agg #[.int .i64 0, .int .i64 0, .slice none 0 0]] rfl (by kernel_rfl) (by kernel_rfl) (by kernel_rfl)
      (OpenSpec.preRow_of_cond 8 hx (by kernel_rfl) (fun k hk => by cases hk) (by kernel_rfl) (laid_met os))) ?_
  intro W base args ds gs before hval0 hW _ hcond hsz0 hL _ _
  have hsz : (DataW.weightsEach Tryd.prog (Tryd.f4.params.toList ++ Rows.atomicCellsSpec.plain.varTypes Tryd.prog) (ds ++ gs)).all (· ≤ reachBytes) = true := hsz0
  clear hsz0
  have hval : ∀ (j : Nat) t v, Tryd.f4.params[j]? = some t → args[j]? = some v → Value.okWide Tryd.prog W .any base t v := hval0
  have hW' := hW
  obtain ⟨p, q, hA0, hV, rfl, hfz, hnd⟩ := hW
  have hA : DataW.TrodAll enc Tryd.prog W 0 (fun _ => true) true Tryd.f4.params.toList args.toList ds p := hA0
  rw [Tryd.params4] at hA hval hsz
  obtain ⟨v0, vs0, d0, ds0, p0, q0, hargs, rfl, rfl, h0, r0⟩ := trodAll_cons hA
  obtain ⟨v1, vs1, d1, ds1, p1, q1, rfl, rfl, rfl, h1, r1⟩ := trodAll_cons r0
  obtain ⟨v2, vs2, d2, ds2, p2, q2, rfl, rfl, rfl, h2, r2⟩ := trodAll_cons r1
  obtain ⟨rfl, rfl, rfl⟩ := trodAll_nil r2
  obtain rfl : args = #[v0, v1, v2] := by cases args; simp_all
  obtain ⟨rfl, rfl⟩ := trodVars_none hV
  obtain ⟨x0, rfl, rfl, rfl, w0⟩ := open_int Tryd.underlying3 (hval 0 3 v0 rfl rfl) h0
  have k1 := h1
  have lt1 : ∀ x ∈ p1, x.block < W.heap.size := by obtain ⟨m, hm⟩ := k1; exact DataW.trod_lt m _ _ _ hm
  obtain ⟨n1, y1, c10, c11, c12, hc1, w1, s1⟩ := cell_of hsz (j := 1) rfl rfl h1
  obtain rfl := agg_three hc1
  have k2 := h2
  have lt2 : ∀ x ∈ p2, x.block < W.heap.size := by obtain ⟨m, hm⟩ := k2; exact DataW.trod_lt m _ _ _ hm
  obtain ⟨n2, y2, c20, c21, c22, hc2, w2, s2⟩ := cell_of hsz (j := 2) rfl rfl h2
  obtain rfl := agg_three hc2
  clear hA0 hval0
  refine (walk x0 n1 y1 c10 c11 c12 n2 y2 c20 c21 c22 W (tab_of hL) (bounds_i64 w0) w1 s1 w2 s2).mono fun e W' ⟨he, bel⟩ => ?_
  subst he
  exact ⟨_, rfl, _, _, _, [], _, [], hW', trodAll_mk1 (shut_bool Tryd.underlying4 _), (trodAll_cons_mk (shut_int Tryd.underlying3 w0) (trodAll_cons_mk (Below.trod laidOut (by kernel_rfl) (of_decide_eq_true (by kernel_rfl)) k1 bel lt1) (trodAll_cons_mk (Below.trod laidOut (by kernel_rfl) (of_decide_eq_true (by kernel_rfl)) k2 bel lt2) trodAll_mk0))), rfl, bel.frame _, fun h => by cases h⟩
theorem said : Rows.AtomicCellsSaid :=
  OpenClaim.holds_of_cond 4 Tryd.f4 rfl rfl rfl rfl rfl rfl rfl ⟨rfl, rfl, rfl, rfl, rfl⟩ rfl rfl rfl rfl rfl (by kernel_rfl) Tryd.func4 (by kernel_rfl)
    (of_decide_eq_true (by kernel_rfl)) (by unfold Func.isWrapper; first | (rw [if_pos (by decide +kernel)]; kernel_rfl) | (rw [if_neg (by decide +kernel)]; exact ⟨rfl, rfl⟩))
    (fun os started H enc _ F => by rw [OpenClaim.pre_eq_preRow]; exact lifted os started H enc F)
theorem plain (f : FuncId) (fn : Func) (hf : Tryd.pinned.checked.prog.funcNamed "triglyph/triglyphlaw04.AtomicCells" = some f) (hfn : Tryd.pinned.checked.prog.funcs[f]? = some fn) :
    false = Tryd.pinned.checked.prog.looks [] ∧ ∀ (j : Nat) t, fn.params[j]? = some t → Tryd.pinned.checked.prog.wantsStandIn t = false := by
  obtain rfl : f = 4 := Option.some.inj ((show Tryd.prog.funcNamed "triglyph/triglyphlaw04.AtomicCells" = some 4 by kernel_rfl).symm.trans hf) |>.symm
  obtain rfl : fn = Tryd.f4 := (Option.some.inj (Tryd.func4.symm.trans hfn)).symm
  refine ⟨by kernel_rfl, fun j t ht => ?_⟩
  rw [Tryd.params4] at ht
  have hm : t = 3 ∨ t = 35 := by simpa using Array.mem_of_getElem? ht
  rcases hm with rfl | rfl
  · exact (show Tryd.prog.wantsStandIn 3 = false by kernel_rfl)
  · exact (show Tryd.prog.wantsStandIn 35 = false by kernel_rfl)
theorem proved : Rows.AtomicCellsCardSaid :=
  Claim7.holds_tied_plain_at .later [] _ _ _ _ said (fun _ h => by cases h) (by kernel_rfl) (fun _ h => by cases h) atomicCells_row_tie rfl ⟨rfl, rfl⟩ (by kernel_rfl) rfl plain (by kernel_rfl)
end Go.Proofs.YtkigfmfegldhcaaDoor.atomicCells
namespace Go.Proofs.YtkigfmfegldhcaaDoor
theorem atomicCells_holds : Rows.AtomicCellsCardSaid := atomicCells.proved
#print axioms atomicCells_holds
end Go.Proofs.YtkigfmfegldhcaaDoor
