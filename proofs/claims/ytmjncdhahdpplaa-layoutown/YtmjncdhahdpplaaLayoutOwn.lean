/-
  For all arrays and functions the statement LayoutOwn holds: what is told shares nothing with what was handed in; no condition (the given row speaks of what a machine of 64 bits can hold).
-/
import Derived.Test.YtmjncdhahdpplaaPkF
namespace Go.Proofs.Ytmjncdhahdpplaa.layoutOwn
open Go.ChangeShapes Go.WideShapes Go.ChangeAt Go.RowKit
set_option linter.unusedVariables false
set_option maxRecDepth 100000
/-- The numbers that the loops count up. -/
def Nm (gs SA g2 CA : Nat) (W : World) : Prop := (∀ i, i < SA → ∃ z, W.cell? ⟨gs, i, none⟩ = some (.int .i64 z) ∧ W.frozen? ⟨gs, i, none⟩ = false) ∧ ∀ i, i < CA → ∃ z, W.cell? ⟨g2, i * 3 + 1, none⟩ = some (.int .i64 z) ∧ W.frozen? ⟨g2, i * 3 + 1, none⟩ = false
theorem cell_int {W : World} {a p : Addr} {z : Int} (y : Int) (h : W.cell? p = some (.int .i64 z)) : ∃ z', (W.setCell a (.int .i64 y)).cell? p = some (.int .i64 z') := by
  by_cases e : a = p
  · subst e; exact ⟨y, World.cell?_setCell_same' _ _ _ (by rw [h]; rfl)⟩
  · exact ⟨z, by rw [World.cell?_setCell_other _ _ _ _ (by simpa using fun h => e h)]; exact h⟩
theorem Nm.set {gs SA g2 CA : Nat} {W : World} (h : Nm gs SA g2 CA W) (a : Addr) (y : Int) : Nm gs SA g2 CA (W.setCell a (.int .i64 y)) := by
  refine ⟨fun i hi => ?_, fun i hi => ?_⟩
  · obtain ⟨z, h1, h2⟩ := h.1 i hi
    obtain ⟨z', h3⟩ := cell_int (a := a) y h1
    exact ⟨z', h3, frozen_set _ _ _ _ h2⟩
  · obtain ⟨z, h1, h2⟩ := h.2 i hi
    obtain ⟨z', h3⟩ := cell_int (a := a) y h1
    exact ⟨z', h3, frozen_set _ _ _ _ h2⟩
theorem Nm.next {gs SA g2 CA : Nat} {W W' : World} (h : Nm gs SA g2 CA W) (h1 : gs < W.heap.size) (h2 : g2 < W.heap.size) (hb : Below W.heap.size W W') : Nm gs SA g2 CA W' := by
  refine ⟨fun i hi => ?_, fun i hi => ?_⟩
  · obtain ⟨z, a, b⟩ := h.1 i hi
    exact ⟨z, (hb.cell (p := ⟨gs, i, none⟩) h1).trans a, (hb.frozen (p := ⟨gs, i, none⟩) h1).trans b⟩
  · obtain ⟨z, a, b⟩ := h.2 i hi
    exact ⟨z, (hb.cell (p := ⟨g2, i * 3 + 1, none⟩) h2).trans a, (hb.frozen (p := ⟨g2, i * 3 + 1, none⟩) h2).trans b⟩
set_option maxHeartbeats 8000000 in
theorem walk (op : Int) (n : Nat) (x : Ar) (c0 c1 : Value) (w : World) (hx : ArIn n 0 w x (.agg #[c0, c1])) (hcap : Caps (.agg #[c0, c1])) :
    Calls Try.prog 4 #[.int .i64 op, .agg #[c0, c1]] w fun e w' => e = .returned (.bool true) ∧ Below w.heap.size w w' := by
  cases n with
  | zero => exact hx.elim
  | succ n =>
  obtain ⟨a1, k1, a2, k2, hv, R, hc⟩ := hx.form
  simp only [Value.agg.injEq, Array.mk.injEq, List.cons.injEq, and_true] at hv
  obtain ⟨rfl, rfl⟩ := hv
  obtain ⟨i3, hi3, hz30, hz31, hz32⟩ := infoI3
  obtain ⟨i0, hi0, hz00, hz01, hz02⟩ := info33'
  obtain ⟨SA, hSA⟩ : ∃ SA, x.shape.length = SA := ⟨_, rfl⟩
  obtain ⟨CA, hCA⟩ : ∃ CA, x.cells.length = CA := ⟨_, rfl⟩
  simp only [hSA, hCA] at hx hcap ⊢
  obtain ⟨W1, e1⟩ : ∃ W1, w.alloc (.cells #[.slice a1 SA k1, .slice a2 CA k2] 25) = W1 := ⟨_, rfl⟩
  have b0 : Below w.heap.size w W1 := by rw [← e1]; exact one_alloc _ _
  have z1 : W1.heap.size = w.heap.size + 1 := by rw [← e1]; simp
  have q0 : W1.cell? ⟨w.heap.size, 0, none⟩ = some (.slice a1 SA k1) := by rw [← e1]; exact cell_new0 w _ 25 0 _ rfl
  have q1 : W1.cell? ⟨w.heap.size, 1, none⟩ = some (.slice a2 CA k2) := by rw [← e1]; exact cell_new0 w _ 25 1 _ rfl
  have HX : Hid (∀ W, Below w.heap.size w W → ArIn (n + 1) 0 W x (.agg #[.slice a1 SA k1, .slice a2 CA k2])) := fun W h => hx.next h
  have HX0 := hide hx
  have HRC := hide (And.intro R hc)
  have HSC := hide (And.intro hSA hCA)
  have HQ : Hid (∀ W, Below W1.heap.size W1 W → Below w.heap.size w W ∧ W.cell? ⟨w.heap.size, 0, none⟩ = some (.slice a1 SA k1) ∧ W.cell? ⟨w.heap.size, 1, none⟩ = some (.slice a2 CA k2)) := fun W h => ⟨b0.trans (h.mono b0.size), (h.cell (p := ⟨w.heap.size, 0, none⟩) (by show w.heap.size < _; omega)).trans q0, (h.cell (p := ⟨w.heap.size, 1, none⟩) (by show w.heap.size < _; omega)).trans q1⟩
  have HW : Hid (∀ W w', Below W1.heap.size W1 W → Below W.heap.size W w' → Below w.heap.size w w') := fun W w' h1 h2 => (HQ.out W h1).1.trans (h2.mono (HQ.out W h1).1.size)
  have C0 := light_any (HX.out _ b0)
  have HCAP := hide hcap
  have HZ1 := hide z1
  clear hx hcap hSA hCA b0 z1 R hc
  go_enter Try.func4, Try.ntmps4
  go_wp2_with fail
  clear e1
  refine C0.mono ?_
  rintro e w1 ⟨⟨r, rfl⟩, hb1⟩
  have HG1 := hide hb1
  obtain ⟨n1, t0, t1⟩ := HQ.out w1 hb1
  clear C0 hb1 q0 q1
  cases r with
  | false =>
    have CW := works_any w1
    clear n1 t0 t1
    go_wp2_with fail
    refine CW.mono ?_
    rintro e wz ⟨rfl, hbz⟩
    go_wp2
    go_ret
    exact ⟨rfl, HW.out _ _ HG1.out hbz⟩
  | true =>
  have C3 := rcheck_any (n + 1) x _ _ w1 (HX.out _ n1)
  clear n1
  obtain ⟨E3, hE3⟩ : ∃ E, chkA 8 x = E := ⟨_, rfl⟩
  rw [hE3] at C3
  go_wp2_with fail
  clear t0 t1
  refine C3.mono ?_
  rintro e w3 ⟨rfl, hb3⟩
  have HG3 := hide (HG1.out.trans (hb3.mono HG1.out.size))
  clear C3 hb3 HG1
  by_cases hE0 : E3 = 0
  case neg =>
    have hEb : (E3 == 0) = false := beq_eq_false_iff_ne.2 hE0
    have CW := works_any w3
    go_wp2_with fail
    refine CW.mono ?_
    rintro e wz ⟨rfl, hbz⟩
    go_wp2
    go_ret
    exact ⟨rfl, HW.out _ _ HG3.out hbz⟩
  subst hE0
  obtain ⟨l8, c16⟩ := chk_len hE3
  rw [HSC.out.1] at l8
  rw [HSC.out.2] at c16
  obtain ⟨n3, t0, t1⟩ := HQ.out w3 HG3.out
  obtain ⟨W4, e4⟩ : ∃ W4, w3.alloc (.cells #[] 3) = W4 := ⟨_, rfl⟩
  have B4 : Below w3.heap.size w3 W4 := by rw [← e4]; exact one_alloc _ _
  have z4 : W4.heap.size = w3.heap.size + 1 := by rw [← e4]; simp
  have OW4 : W4.ownsRow w3.heap.size 3 1 (.slice (some ⟨w3.heap.size, 0, none⟩) 0 0) 0 [] := by
    have := World.ownsRow_lit (base := w3.heap.size) (e := 3) (size := 1) w3 #[] 0 (Nat.le_refl _) (by unfold maxLen; omega) rfl
    rw [e4] at this
    exact this
  have HG4 := hide (HG3.out.trans (B4.mono HG3.out.size))
  have HLS : Hid (Lies W4 a1 (x.shape.map (Value.int .i64))) := Lies.row_next HRC.out.1 (HQ.out W4 HG4.out).1
  obtain ⟨-, t2, t3⟩ := HQ.out W4 HG4.out
  have hsl : (x.shape.map (Value.int .i64)).length = SA * 1 := by rw [List.length_map, HSC.out.1]; omega
  have HZ4 := hide z4
  have HO4 := hide OW4
  clear B4 z4 OW4 n3 hE3
  go_wp2_with (at_builtin; refine wpList_append_any rfl _ _ 22 rfl w3.heap.size 3 i3 (.int .i64 0) 1 8 Try.underlying22 hi3 hz30 hz31 hz32 rfl (by decide) (.slice (some ⟨w3.heap.size, 0, none⟩) 0 0) 0 [] rfl HO4.out a1 SA k1 (x.shape.map (Value.int .i64)) rfl hsl HLS.out ?c3 ?c4 ?c5 ?_)
  case c3 => unfold maxLen; omega
  case c4 => omega
  case c5 => have := HZ4.out; omega
  intro v' w5 hown5 hb5
  clear hsl HLS
  obtain ⟨al, cl, rfl, hcl5⟩ := owns_cap hown5
  obtain ⟨al', cl', hal, RL⟩ := owns_rowE x.shape (by rw [HSC.out.1]; omega) (by rw [HSC.out.1]; exact hown5)
  simp only [Value.slice.injEq] at hal
  obtain ⟨rfl, -, rfl⟩ := hal
  have hz4 := HZ4.out
  have hb5s := hb5.size
  have B35 : Below w3.heap.size w3 w5 := by
    have B4 : Below w3.heap.size w3 W4 := by rw [← e4]; exact one_alloc _ _
    exact B4.trans hb5
  obtain ⟨gs, hgs1, hgs2, hgs3, hgsA⟩ : ∃ gs, w3.heap.size ≤ gs ∧ gs < w5.heap.size ∧ (0 < SA → al = some ⟨gs, 0, none⟩) ∧ ∀ i, i < SA → ∃ z, w5.cell? ⟨gs, i, none⟩ = some (.int .i64 z) ∧ w5.frozen? ⟨gs, i, none⟩ = false := by
    by_cases h0 : 0 < SA
    · obtain ⟨g, cp, hg, h1, h2⟩ := owns_form1' hown5 h0
      simp only [Value.slice.injEq] at hg
      obtain ⟨rfl, -, rfl⟩ := hg
      have SC := owns_softC HSC.out.1 hown5
      exact ⟨g, h1, h2, fun _ => rfl, fun i hi => ⟨_, SC i (by rw [HSC.out.1]; exact hi)⟩⟩
    · exact ⟨w3.heap.size, Nat.le_refl _, by omega, fun h => absurd h h0, fun i hi => by omega⟩
  obtain ⟨W6, e6⟩ : ∃ W6, w5.alloc (.cells #[.slice al SA cl, .slice none 0 0] 25) = W6 := ⟨_, rfl⟩
  have B6 : Below w5.heap.size w5 W6 := by rw [← e6]; exact one_alloc _ _
  have z6 : W6.heap.size = w5.heap.size + 1 := by rw [← e6]; simp
  have m0 : W6.cell? ⟨w5.heap.size, 0, none⟩ = some (.slice al SA cl) := by rw [← e6]; exact cell_new0 w5 _ 25 0 _ rfl
  have m1 : W6.cell? ⟨w5.heap.size, 1, none⟩ = some (.slice none 0 0) := by rw [← e6]; exact cell_new0 w5 _ 25 1 _ rfl
  have mf1 : W6.frozen? ⟨w5.heap.size, 1, none⟩ = false := by rw [← e6]; exact frozen_new w5 _ 25 1
  have B36 : Below w3.heap.size w3 W6 := B35.trans (B6.mono (by omega))
  have HG6 := hide (HG3.out.trans (B36.mono HG3.out.size))
  obtain ⟨ab, cb, hcf⟩ := cells_fn HRC.out.2
  obtain ⟨T, hT⟩ : ∃ T : Nat → Value × Value × Value, T = cellT x.cells ab cb := ⟨_, rfl⟩
  have HTT := hide hT
  have HCF := hide hcf
  rw [HSC.out.2] at HCF
  have HG := hide (GrowC.new (T := T) m0 m1 mf1)
  have HRL := hide (RL.next B6)
  have HRL0 := hide RL
  have HGS := hide (And.intro hgs1 (And.intro hgs2 (And.intro hgs3 hgsA)))
  have HS := hide (And.intro z6 (And.intro hb5s (And.intro hz4 hcl5)))
  have HB6 := hide B6
  have HSZ : Hid (W1.heap.size ≤ w3.heap.size ∧ W1.heap.size = w.heap.size + 1) := ⟨HG3.out.size, HZ1.out⟩
  clear hown5 hb5 RL hgs1 hgs2 hgs3 hgsA B6 z6 m0 m1 mf1 B36 hT hcf hz4 hb5s hcl5 B35 t0 t1 t2 t3 HO4 HZ4
  have HE6 := hide e6
  clear e6
  go_wp2
  rw [HE6.out]
  clear e4 HE6
  go_loopg [6] CA (fun g i wr => ∃ (t : Nat) (v : Value), g + t = CA ∧ i = .int .i64 (t : Int) ∧ GrowC W6 w5.heap.size (.slice al SA cl) T t v wr)
  case atStart => exact ⟨0, _, rfl, rfl, HG.out⟩
  case round =>
    clear HG
    obtain ⟨t, v, hg, rfl, hgr⟩ := hrel
    have HGR := hide hgr
    have hs := HS.out
    have hsz := HSZ.out
    have BW := hgr.below (B := w5.heap.size) (Nat.le_refl _) (by omega)
    have BG : Below W1.heap.size W1 wr := HG6.out.trans (BW.mono (by have := HGS.out.1; have := HGS.out.2.1; omega))
    obtain ⟨nw, t0, t1⟩ := HQ.out wr BG
    by_cases hlt : t < CA
    · obtain ⟨bb, off, rfl, -, hbb, hcells⟩ := HCF.out (by omega)
      obtain ⟨g0, g1, g2, -⟩ := hcells t hlt
      have HTi : Hid (T t = (.int .i64 (cAt x.cells t).1, .int .i64 (cAt x.cells t).2.1, .slice (ab t) (cAt x.cells t).2.2.length (cb t))) := by unfold Hid; rw [HTT.out]; rfl
      have u0 := (nw.cell (p := ⟨bb, off + t * 3, none⟩) hbb).trans g0
      have u1 := (nw.cell (p := ⟨bb, off + t * 3 + 1, none⟩) hbb).trans g1
      have u2 := (nw.cell (p := ⟨bb, off + t * 3 + 2, none⟩) hbb).trans g2
      clear g0 g1 g2 hcells
      generalize (cAt x.cells t).1 = kk at *
      generalize (cAt x.cells t).2.1 = NN at *
      generalize (cAt x.cells t).2.2.length = nb at *
      generalize ab t = abp at *
      generalize cb t = cbp at *
      have d1' := hgr.c1
      have d2' := hgr.f1
      have BA := one_alloc wr (.cells #[.int .i64 kk, .int .i64 NN, .slice abp nb cbp] 36)
      have hs6 := hgr.io.size
      have x0 : (wr.alloc (.cells #[.int .i64 kk, .int .i64 NN, .slice abp nb cbp] 36)).cell? ⟨w5.heap.size, 1, none⟩ = some v := (BA.cell (p := ⟨w5.heap.size, 1, none⟩) (by show w5.heap.size < _; omega)).trans d1'
      have HSTEP : Hid (rowT T (t + 1) = rowT T t ++ [.int .i64 kk, .int .i64 NN, .slice abp nb cbp]) := by unfold Hid; rw [rowT_step, HTi.out]
      have HOWN : Hid ((wr.alloc (.cells #[.int .i64 kk, .int .i64 NN, .slice abp nb cbp] 36)).drew.ownsRow W6.heap.size 36 3 v t (rowT T t)) := hgr.own.alloc (.cells #[.int .i64 kk, .int .i64 NN, .slice abp nb cbp] 36)
      have HNEWS : Hid (∀ i u, [Value.int .i64 kk, .int .i64 NN, .slice abp nb cbp][i]? = some u → (wr.alloc (.cells #[.int .i64 kk, .int .i64 NN, .slice abp nb cbp] 36)).drew.cell? ((⟨wr.heap.size, 0, none⟩ : Addr).add i) = some u) := by
        intro i u hu
        rw [add_off, Nat.zero_add]
        exact cell_new0 wr _ 36 i u (by simpa using hu)
      have HONE : Hid (∀ u ∈ [Value.int .i64 kk, .int .i64 NN, .slice abp nb cbp], u.oneCell' = true) := by
        intro u hu
        simp at hu
        rcases hu with rfl | rfl | rfl <;> rfl
      have HMAX : Hid (t + 1 ≤ maxLen ∧ (t + 1) * 40 ≤ 140737488355328 ∧ W6.heap.size ≤ (wr.alloc (.cells #[.int .i64 kk, .int .i64 NN, .slice abp nb cbp] 36)).drew.heap.size) := by
        refine ⟨by unfold maxLen; omega, by omega, ?_⟩
        have : (wr.alloc (.cells #[.int .i64 kk, .int .i64 NN, .slice abp nb cbp] 36)).drew.heap.size = wr.heap.size + 1 := by simp
        omega
      have HAB : Hid (Below W6.heap.size wr (wr.alloc (.cells #[.int .i64 kk, .int .i64 NN, .slice abp nb cbp] 36)).drew) := (((Below.refl _ _).alloc (by show _ ≤ wr.heap.size; omega) _)).drew
      have hO1 : Hid (w5.heap.size < W6.heap.size) := by unfold Hid; omega
      clear nw BA hs6 HTi hbb HCF BW BG t0 hs hsz hgr HGS HRL HB6 HS
      go_wp2
      go_region_law (refine step_append_own rfl (.tmp 35) (.tmp 41) 23 rfl W6.heap.size 36 i0 (.agg #[.int .i64 0, .int .i64 0, .slice none 0 0]) 3 40 Try.underlying23 hi0 hz00 hz01 hz02 rfl (by decide) v t (rowT T t) rfl HOWN.out ⟨wr.heap.size, 0, none⟩ 1 1 [.int .i64 kk, .int .i64 NN, .slice abp nb cbp] rfl rfl HNEWS.out HONE.out HMAX.out.1 HMAX.out.2.1 HMAX.out.2.2 ?_; intro v' w1 hown1 hb1; obtain ⟨g, cp, rfl, -⟩ := owns_form hown1 (Nat.succ_pos t); have dd1 := (HAB.out.trans hb1).cell (p := ⟨w5.heap.size, 1, none⟩) hO1.out |>.trans HGR.out.c1; have dd3 := (HAB.out.trans hb1).frozen (p := ⟨w5.heap.size, 1, none⟩) hO1.out |>.trans HGR.out.f1)
      all_goals
        have hown2 : w1.ownsRow W6.heap.size 36 3 (.slice (some ⟨g, 0, none⟩) (t + 1) cp) (t + 1) (rowT T (t + 1)) := by rw [HSTEP.out]; exact hown1
        have HNX := hide (HGR.out.step hO1.out (HAB.out.trans hb1) hown2)
        clear hown1 hown2 hb1 dd1 dd3 HOWN HNEWS HONE HMAX HAB HGR HSTEP x0 u0 u1 u2 t1 d1' d2'
        go_wp2
        go_roundg (CA - (t + 1))
        case rel => exact ⟨t + 1, _, by omega, by go_num, HNX.out⟩
        case measure => omega
    · have hte : t = CA := by omega
      subst hte
      obtain ⟨ac, cc, rfl, hcc⟩ := owns_cap hgr.own
      have hs6 := hgr.io.size
      obtain ⟨g2, hg2N, hg21, hg22, hg23, hg2A⟩ : ∃ g2, (¬ 0 < t → w5.heap.size = g2 → False) ∧ w3.heap.size ≤ g2 ∧ g2 < wr.heap.size ∧ (0 < t → ac = some ⟨g2, 0, none⟩ ∧ W6.heap.size ≤ g2) ∧ ∀ i, i < t → ∃ z, wr.cell? ⟨g2, i * 3 + 1, none⟩ = some (.int .i64 z) ∧ wr.frozen? ⟨g2, i * 3 + 1, none⟩ = false := by
        have hg1 := HGS.out.1
        have hg2 := HGS.out.2.1
        by_cases h0 : 0 < t
        · have hown := hgr.own
          obtain ⟨g, cp, hg, h1, h2⟩ := owns_form hown h0
          simp only [Value.slice.injEq] at hg
          obtain ⟨rfl, -, rfl⟩ := hg
          refine ⟨g, fun h => absurd h0 h, by omega, h2, fun _ => ⟨rfl, h1⟩, fun i hi => ?_⟩
          obtain ⟨-, r1, -⟩ := rowT_at T t i hi
          have hc := hown.cellAt (i * 3 + 1) (by omega)
          rw [r1, HTT.out] at hc
          exact ⟨_, hc, hown.frozenAt _⟩
        · exact ⟨gs, fun _ e => by omega, hg1, by omega, fun h => absurd h h0, fun i hi => by omega⟩
      have HNE : Hid (¬ 0 < t → w5.heap.size = g2 → False) := hg2N
      have K6 : Keeps (w5.heap.size + 1) W6 wr := ⟨hgr.io.size, fun b h1 h2 => hgr.keep b h2 (by omega)⟩
      have RR : Row 0 wr al x.shape := by
        have h1 := HRL.out.low (Nat.zero_le w3.heap.size)
        rcases HRL.out.2 with h0 | ⟨b, o, ha, hlo, hb, hcl⟩
        · exact ⟨HRL.out.1, Or.inl h0⟩
        · refine ⟨HRL.out.1, Or.inr ⟨b, o, ha, Nat.zero_le _, Nat.lt_of_lt_of_le hb hs6, fun i hi => ?_⟩⟩
          have hbo : b ≠ w5.heap.size := by
            obtain ⟨b', o', ha', hb', -⟩ := row_at HRL0.out hi
            rw [ha] at ha'
            simp only [Option.some.injEq, Addr.mk.injEq, and_true] at ha'
            omega
          exact hgr.cell hb hbo (hcl i hi)
      have hin : ArIn (n + 1) 0 wr x (.agg #[.slice al SA cl, .slice ac t cc]) := by
        obtain ⟨a', c', he, -, HC⟩ := cells_of_own (lo := 0) (n := n) (w0 := w) (cs := x.cells) (T := T) (by rw [HSC.out.2]; exact hgr.own) nw (fun i hi => by
          rw [HSC.out.2] at hi
          obtain ⟨b, off, -, -, -, hcl⟩ := HCF.out (by omega)
          rw [HTT.out]
          exact (hcl i hi).2.2.2)
        rw [HSC.out.2] at he
        simp only [Value.slice.injEq] at he
        obtain ⟨rfl, -, rfl⟩ := he
        exact arIn_mk RR (by rw [HSC.out.2]; omega) HC HSC.out.1 HSC.out.2
      have HM := mo_any hin op (fun _ => ⟨_, _, _, _, _, _, rfl, HS.out.2.2.2, hcc⟩)
      obtain ⟨RES, hR⟩ : ∃ R, moR (n + 1) op x = R := ⟨_, rfl⟩
      rw [hR] at HM
      have HRR := hide hR
      obtain ⟨y, E⟩ := RES
      simp only at HM
      have l0 := hgr.c0
      have l1 := hgr.c1
      have HN0 : Hid (Nm gs SA g2 t wr) := by
        refine ⟨fun i hi => ?_, hg2A⟩
        obtain ⟨z, h1, h2⟩ := HGS.out.2.2.2 i hi
        have hg2 := HGS.out.2.1
        exact ⟨z, hgr.cell (b := gs) (by omega) (by omega) ((HB6.out.cell (p := ⟨gs, i, none⟩) hg2).trans h1), hgr.frozen (b := gs) (by omega) (by omega) ((HB6.out.frozen (p := ⟨gs, i, none⟩) hg2).trans h2)⟩
      have HGG := hide (And.intro hg21 (And.intro hg22 hg23))
      have HL := hide (And.intro l0 l1)
      have HBG := hide BG
      have HS6 := hide hs6
      clear hR hin RR K6 hgr hg21 hg22 hg23 hg2A nw BW BG hs hsz t0 HGR hcc hs6
      go_wp2_with fail
      clear l0 l1 t1
      refine HM.mono ?_
      clear HM
      rintro e w7 ⟨⟨v, rfl, hv⟩, hb7⟩
      obtain ⟨y1, m1, y2, m2, rfl, -, -⟩ := hv.form
      obtain ⟨SY, hSY⟩ : ∃ SY, y.shape.length = SY := ⟨_, rfl⟩
      obtain ⟨CY, hCY⟩ : ∃ CY, y.cells.length = CY := ⟨_, rfl⟩
      have HSY := hide (And.intro hSY hCY)
      simp only [hSY, hCY] at hv ⊢
      obtain ⟨W8, e8⟩ : ∃ W8, w7.alloc (.cells #[.slice y1 SY m1, .slice y2 CY m2] 25) = W8 := ⟨_, rfl⟩
      have B8 : Below w7.heap.size w7 W8 := by rw [← e8]; exact one_alloc _ _
      have z8 : W8.heap.size = w7.heap.size + 1 := by rw [← e8]; simp
      have BR8 : Below wr.heap.size wr W8 := hb7.trans (B8.mono hb7.size)
      have y0 : W8.cell? ⟨w7.heap.size, 0, none⟩ = some (.slice y1 SY m1) := by rw [← e8]; exact cell_new0 w7 _ 25 0 _ rfl
      have y1' : W8.cell? ⟨w7.heap.size, 1, none⟩ = some (.slice y2 CY m2) := by rw [← e8]; exact cell_new0 w7 _ 25 1 _ rfl
      have HG8 := hide (HBG.out.trans (BR8.mono HBG.out.size))
      obtain ⟨n8, t0, t1⟩ := HQ.out W8 HG8.out
      have CR := rmoZ_any (op := op) HX0.out n8 (fun _ => HCAP.out)
      rw [HRR.out] at CR
      have HV := hide (hv.next B8)
      have HS8 := hide (And.intro z8 hb7.size)
      have HBR8 := hide BR8
      have HY8 := hide (And.intro y0 y1')
      clear n8 hv hb7 B8 BR8 z8 hSY hCY y0 y1'
      go_wp2_with fail
      clear e8 t0 t1
      refine CR.mono ?_
      clear CR
      rintro e w9 ⟨⟨v, rfl, hv⟩, hb9⟩
      have N9 : Below w.heap.size w w9 := (HQ.out W8 HG8.out).1.trans (hb9.mono (HQ.out W8 HG8.out).1.size)
      obtain ⟨z1, j1, z2, j2, rfl, -, -⟩ := (hv w9 N9 (Keeps.refl _ _)).form
      simp only [HSY.out.1, HSY.out.2] at hv ⊢
      obtain ⟨W10, e10⟩ : ∃ W10, w9.alloc (.cells #[.slice z1 SY j1, .slice z2 CY j2] 25) = W10 := ⟨_, rfl⟩
      have B10 : Below w9.heap.size w9 W10 := by rw [← e10]; exact one_alloc _ _
      have z10 : W10.heap.size = w9.heap.size + 1 := by rw [← e10]; simp
      have o0 : W10.cell? ⟨w9.heap.size, 0, none⟩ = some (.slice z1 SY j1) := by rw [← e10]; exact cell_new0 w9 _ 25 0 _ rfl
      have o1 : W10.cell? ⟨w9.heap.size, 1, none⟩ = some (.slice z2 CY j2) := by rw [← e10]; exact cell_new0 w9 _ 25 1 _ rfl
      have BR10 : Below wr.heap.size wr W10 := HBR8.out.trans ((hb9.trans (B10.mono hb9.size)).mono HBR8.out.size)
      have B810 : Below W8.heap.size W8 W10 := hb9.trans (B10.mono hb9.size)
      have s8 := HS8.out
      have s9 := hb9.size
      have sg := HGG.out
      have sgs := HGS.out
      have sS := HS.out
      have sZ := HSZ.out
      have s6 := HS6.out
      have HT0 : Hid (Two W10 gs g2 W10 ∧ Nm gs SA g2 t W10) := ⟨Two.refl _ _ _, HN0.out.next (by omega) sg.2.1 BR10⟩
      have HTW : Hid (∀ W, Two W10 gs g2 W → Below w.heap.size w W ∧ W.cell? ⟨w5.heap.size, 0, none⟩ = some (.slice al SA cl) ∧ W.cell? ⟨w5.heap.size, 1, none⟩ = some (.slice ac t cc) ∧ (W.cell? ⟨w7.heap.size, 0, none⟩ = some (.slice y1 SY m1) ∧ W.cell? ⟨w7.heap.size, 1, none⟩ = some (.slice y2 CY m2)) ∧ (W.cell? ⟨w9.heap.size, 0, none⟩ = some (.slice z1 SY j1) ∧ W.cell? ⟨w9.heap.size, 1, none⟩ = some (.slice z2 CY j2)) ∧ ArIn (n + 2) 0 W y (.agg #[.slice y1 SY m1, .slice y2 CY m2]) ∧ ArIn (n + 2) 0 W y (.agg #[.slice z1 SY j1, .slice z2 CY j2])) := by
        intro W hW
        have hbb : Below w.heap.size w W := (N9.trans (B10.mono N9.size)).trans (hW.belowB (B := w.heap.size) (by omega) (by omega))
        have hne : w5.heap.size ≠ g2 := by
          by_cases h0 : 0 < t
          · have := (sg.2.2 h0).2; omega
          · exact fun e => HNE.out h0 e
        refine ⟨hbb, hW.cell (by omega) hne ((BR10.cell (p := ⟨w5.heap.size, 0, none⟩) (by show w5.heap.size < _; omega)).trans HL.out.1), hW.cell (by omega) hne ((BR10.cell (p := ⟨w5.heap.size, 1, none⟩) (by show w5.heap.size < _; omega)).trans HL.out.2), ⟨hW.cell (by omega) (by omega) ((B810.cell (p := ⟨w7.heap.size, 0, none⟩) (by show w7.heap.size < _; omega)).trans HY8.out.1), hW.cell (by omega) (by omega) ((B810.cell (p := ⟨w7.heap.size, 1, none⟩) (by show w7.heap.size < _; omega)).trans HY8.out.2)⟩, ⟨hW.cell (by omega) (by omega) o0, hW.cell (by omega) (by omega) o1⟩, ?_, ?_⟩
        · have hk : Keeps wr.heap.size W10 W := ⟨by rw [hW.size]; omega, fun b h1 h2 => hW.keep b (by omega) (by omega)⟩
          exact (((HV.out.next B810).keeps hk).mono (Nat.zero_le _) (Below.refl _ _))
        · refine hv W hbb ?_
          have k1 : Keeps W8.heap.size w9 W10 := ⟨B10.size, fun b h1 h2 => B10.block b h2⟩
          exact k1.trans ⟨by rw [hW.size]; omega, fun b h1 h2 => hW.keep b (by omega) (by omega)⟩
      clear hv hb9 N9 B10 z10 o0 o1 BR10 B810 s8 s9 sS sZ s6 HN0 HV HY8 HBR8
      have hgal := sgs.2.2.1
      have hgac := sg.2.2
      clear sgs sg
      go_wp2
      clear e10
      go_loopg [11] SA (fun g i wq => ∃ j : Nat, g + j = SA ∧ i = .int .i64 (j : Int) ∧ Two W10 gs g2 wq ∧ Nm gs SA g2 t wq)
      case atStart => exact ⟨0, rfl, rfl, HT0.out⟩
      case round =>
        obtain ⟨j, hgj, rfl, hTw, hNm⟩ := hrel
        obtain ⟨-, l0, l1, -⟩ := HTW.out _ hTw
        have HTN := hide (And.intro hTw hNm)
        by_cases hlj : j < SA
        · obtain rfl := hgal (by omega)
          obtain ⟨z, u0, u1⟩ := hNm.1 j hlj
          clear hTw hNm hgac hgal
          go_wp2
          go_roundg (SA - (j + 1))
          case rel => exact ⟨j + 1, by omega, by go_num, HTN.out.1.set1 _ _, HTN.out.2.set _ _⟩
          case measure => omega
        · clear hTw hNm hgal
          go_wp2
          clear l0 l1
          go_loopg [12] t (fun g i wq => ∃ j : Nat, g + j = t ∧ i = .int .i64 (j : Int) ∧ Two W10 gs g2 wq ∧ Nm gs SA g2 t wq)
          case atStart => exact ⟨0, rfl, rfl, HTN.out⟩
          case round =>
            clear HTN
            obtain ⟨j', hgj', rfl, hTw, hNm⟩ := hrel
            obtain ⟨nb, l0, l1, ⟨y0, y1'⟩, ⟨o0, o1⟩, A1, A2⟩ := HTW.out _ hTw
            have HTN := hide (And.intro hTw hNm)
            by_cases hlj' : j' < t
            · obtain ⟨rfl, -⟩ := hgac (by omega)
              obtain ⟨z, u0, u1⟩ := hNm.2 j' hlj'
              clear hTw hNm hgac A1 A2 nb y0 y1' o0 o1 l0
              go_wp2
              go_roundg (t - (j' + 1))
              case rel => exact ⟨j' + 1, by omega, by go_num, HTN.out.1.set2 _ _, HTN.out.2.set _ _⟩
              case measure => omega
            · have C4 := rsame_any A1 A2
              rw [cmpA_self] at C4
              have HNB := hide nb
              clear hTw hNm hgac A1 A2 nb l0
              go_wp2_with fail
              clear y0 y1' o0 o1 l1
              refine C4.mono ?_
              rintro e wa ⟨rfl, hba⟩
              have HNA := hide (HNB.out.trans (hba.mono HNB.out.size))
              have CW := works_any wa
              clear C4 hba
              simp only [decide_true]
              go_wp2_with fail
              refine CW.mono ?_
              rintro e wz ⟨rfl, hbz⟩
              go_wp2
              go_ret
              exact ⟨rfl, HNA.out.trans (hbz.mono HNA.out.size)⟩
set_option maxRecDepth 100000 in
theorem lifted (os : Os) (started : os.Started) (H : Type) (enc : TypeId × Value → H) :
    ReturnsInHanded {} Try.checked os 4 .any (Rows.layoutOwnSpec.pre6 enc Try.prog Try.f4 Rows.layoutOwnRow.domain false) (Rows.layoutOwnSpec.post enc Try.prog Try.f4 false true false false) := by
  refine returnsInHanded_of_change_sized (C := Try.checked) own started (by kernel_rfl) Try.func4
    (ChangeSpec.witness6 (enc := enc) (C := Try.checked) false ⟨#[], #[.int .i64 0, .agg #[.slice none 0 0, .slice none 0 0]], []⟩ 8 (by kernel_rfl) (by kernel_rfl) (by kernel_rfl) (by kernel_rfl)) ?_
  intro W base args ds gs before hval0 hW _ hsz0 _
  have hsz : (DataW.weightsEach Try.prog (Try.f4.params.toList ++ Rows.layoutOwnSpec.plain.varTypes Try.prog) (ds ++ gs)).all (· ≤ reachBytes) = true := hsz0
  clear hsz0
  have hval : ∀ (j : Nat) t v, Try.f4.params[j]? = some t → args[j]? = some v → Value.okWide Try.prog W .any base t v := hval0
  have hW' := hW
  obtain ⟨p, q, hA0, hV, rfl, hfz, hnd⟩ := hW
  have hA : DataW.TrodAll enc Try.prog W 0 (fun _ => true) true Try.f4.params.toList args.toList ds p := hA0
  rw [Try.params4] at hA hval hsz
  obtain ⟨v0, vs0, d0, ds0, p0, q0, hargs, rfl, rfl, h0, r0⟩ := trodAll_cons hA
  obtain ⟨v1, vs1, d1, ds1, p1, q1, rfl, rfl, rfl, h1, r1⟩ := trodAll_cons r0
  obtain ⟨rfl, rfl, rfl⟩ := trodAll_nil r1
  obtain rfl : args = #[v0, v1] := by cases args; simp_all
  obtain ⟨rfl, rfl⟩ := trodVars_none hV
  obtain ⟨x0, rfl, rfl, rfl, w0⟩ := open_int Try.underlying3 (hval 0 3 v0 rfl rfl) h0
  have k1 := h1
  have lt1 : ∀ x ∈ p1, x.block < W.heap.size := by obtain ⟨m, hm⟩ := k1; exact DataW.trod_lt m _ _ _ hm
  obtain ⟨n1, y1, c10, c11, hc1, w1⟩ := arr_of hsz (j := 1) rfl rfl h1
  obtain rfl := agg_two hc1
  clear hA0 hval0
  refine (walk x0 n1 y1 c10 c11 W w1.1 (arr_caps h1)).mono fun e W' ⟨he, bel⟩ => ?_
  subst he
  exact ⟨_, rfl, _, _, _, [], _, [], hW', trodAll_mk1 (shut_bool Try.underlying4 _), (trodAll_cons_mk (shut_int Try.underlying3 w0) (trodAll_cons_mk (Below.trod laidOut (by kernel_rfl) (of_decide_eq_true (by kernel_rfl)) k1 bel lt1) trodAll_mk0)), rfl, bel.frame _, fun h => by cases h⟩
theorem over : Rows.layoutOwnRow.holds Try.pinned (OpenSpec.ofChange Rows.layoutOwnSpec) :=
  OpenClaim.holds_of_wide 4 Try.f4 rfl rfl rfl rfl rfl rfl rfl ⟨rfl, rfl, rfl, rfl, rfl⟩ rfl rfl rfl rfl rfl (by kernel_rfl) Try.func4 (by kernel_rfl)
    (of_decide_eq_true (by kernel_rfl)) (by unfold Func.isWrapper; first | (rw [if_pos (by decide +kernel)]; kernel_rfl) | (rw [if_neg (by decide +kernel)]; exact ⟨rfl, rfl⟩))
    (fun os started H enc _ => lifted os started H enc)
theorem proved : Rows.LayoutOwnSaid := over
end Go.Proofs.Ytmjncdhahdpplaa.layoutOwn
namespace Go.Proofs.Ytmjncdhahdpplaa
theorem layoutOwn_holds : Rows.LayoutOwnSaid := layoutOwn.proved
#print axioms layoutOwn_holds
end Go.Proofs.Ytmjncdhahdpplaa
