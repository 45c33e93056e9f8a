/-
  The contract of the document's Dy of layer 7: whether cells stand in an array.
  The contract of the document's Dy of layer 7, whole.
  The contracts of layer 7's light and narrow; the examples of works.
  The contract of layer 7's statements' own example (works).
  An array that came in has slices that are no longer than their rows.
  Small things that layer 3's statements over arrays share: a value of two or three cells, what a call finds of its own boxed arguments later on.
  The contract of the document's from.
  To look one item up, and to take one of what is left without those ahead of it, come to the same. Mathematics.
  Items of items, each once once more, items in order. Mathematics.
  The contract of the document's From, as its Dy calls it (layer 6, for layer 7): with room.
-/
import Derived.Test.YtimkcpbgnoekcaaM8
import Derived.Test.YtimkcpbgnoekcaaChecked
import GoSem.Claim
import GoSem.ClaimJoined
import GoSem.ClaimMapViews
import Derived.JoinedTies
import Derived.KernelRfl
import Derived.WalkKit
import Derived.ProofKit
import Derived.Below
import Derived.Deep.OwnRows
import Derived.Deep.QuietTactic
import Derived.BigQuiet
import Derived.Deep.RegionWith
import Derived.Laws.MakeOwn
import Derived.Deep.RegionHeld3
import Derived.Laws.IdiomCopy
import Derived.Deep.Cut
import Derived.Deep.LoopGhost
import Derived.OpenShut
import Derived.ChangeOld
import Derived.SizedLaws
import Derived.Deep.Slices
import Derived.Deep.Strs
import Derived.Laws.AppendOwn
import Derived.BigFrame
import Derived.Deep.CutRange
import Derived.Deep.RegionLaw
import Derived.Laws.OwnMore
import Derived.Lib.SliceRun
import Derived.Laws.CopyOwn
import Derived.Lib.Mul64
import Derived.Lib.Overlaps
import Derived.Laws.EntriesVeiled
namespace Go.Proofs.Ytimkcpbgnoekcaa
open Go.ChangeShapes Go.WideShapes Go.ChangeAt Go.RowKit
set_option linter.unusedVariables false
set_option maxRecDepth 100000
set_option maxHeartbeats 8000000 in
theorem rsdy_49 {n lo lo' : Nat} {x y : Ar} {va vb : Value} {w : World} (hx : ArIn (n + 1) lo w x va) (hy : ArIn (n + 1) lo' w y vb) (hcx : chkA 8 x = 0) (hcy : chkA 8 y = 0) :
    Calls Try.prog 11 #[.int .i64 49, va, vb] w fun e w' => Gives2Z (n + 1) w (.mk x.shape (numCs 0 ((List.range x.cells.length).map fun i => memC n y.cells (cAt x.cells i)))) 0 w e w' := by
  obtain ⟨a1, c1, a2, c2, rfl, R, hc⟩ := hx.form
  obtain ⟨b1, d1, b2, d2, rfl, R', hc'⟩ := hy.form
  obtain ⟨lx8, cx16⟩ := chk_len hcx
  obtain ⟨ly8, cy16⟩ := chk_len hcy
  obtain ⟨i3, hi3, hz30, hz31, hz32⟩ := infoI3
  obtain ⟨i0, hi0, hz00, hz01, hz02⟩ := info33'
  obtain ⟨ab, cb, hcf⟩ := cells_fn hc
  obtain ⟨ab', cb', hcf'⟩ := cells_fn hc'
  have hcf1 : CellsFn n lo w x.cells a2 ab cb := hcf
  have hcf2 : CellsFn n lo' w y.cells b2 ab' cb' := hcf'
  have I := in3_new w (.slice a1 x.shape.length c1) (.slice a2 x.cells.length c2) (.slice b1 y.shape.length d1) (.slice b2 y.cells.length d2)
  obtain ⟨W3, e3⟩ : ∃ W3, ((w.alloc (.cells #[.slice a1 x.shape.length c1, .slice a2 x.cells.length c2] 25)).alloc (.cells #[.slice b1 y.shape.length d1, .slice b2 y.cells.length d2] 25)).alloc (.cells #[.slice none 0 0, .slice none 0 0] 25) = W3 := ⟨_, rfl⟩
  rw [e3] at I
  have hb3 := I.bel
  have q0 := I.q0
  have q1 := I.q1
  have r0 := I.r0
  have r1 := I.r1
  have HI := hide I
  have CK := rcheck_any (n + 1) x _ _ W3 (hx.next hb3)
  rw [hcx] at CK
  have HCK2 : Hid (∀ W, Below w.heap.size w W → Calls Try.prog 16 #[.agg #[.slice b1 y.shape.length d1, .slice b2 y.cells.length d2]] W fun e w' => e = .returned (.int .i64 0) ∧ Below W.heap.size W w') := fun W h => by
    have := rcheck_any (n + 1) y _ _ W (hy.next h)
    rw [hcy] at this
    exact this
  obtain ⟨CX, hCX⟩ : ∃ CX, x.cells.length = CX := ⟨_, rfl⟩
  obtain ⟨SX, hSX⟩ : ∃ SX, x.shape.length = SX := ⟨_, rfl⟩
  obtain ⟨SY, hSY⟩ : ∃ SY, y.shape.length = SY := ⟨_, rfl⟩
  obtain ⟨CY, hCY⟩ : ∃ CY, y.cells.length = CY := ⟨_, rfl⟩
  have HPL : Hid (∀ W, Below w.heap.size w W → ∀ i, i < CX → Calls Try.prog 28 #[.slice b2 CY d2, .agg #[.int .i64 (cAt x.cells i).1, .int .i64 (cAt x.cells i).2.1, .slice (ab i) (cAt x.cells i).2.2.length (cb i)]] W fun e w' => e = .returned (.int .i64 (plcC n y.cells (cAt x.cells i) : Int)) ∧ Below W.heap.size W w') := fun W h i hi => by
    obtain ⟨b, off, -, -, -, hcells⟩ := (hcf1.next h) (by omega)
    exact rplaceC_any (hcf2.next h) hCY (by omega) (hcells i (by omega)).2.2.2
  have HPB : Hid (∀ i, plcC n y.cells (cAt x.cells i) ≤ 16384) := fun i => by
    have := fstZ_le (fun p => cmpC (cmpA n) (cAt y.cells p) (cAt x.cells i)) y.cells.length
    unfold plcC; omega
  have HCF : Hid (CellsFn n lo w x.cells a2 ab cb) := hcf1
  have HR := hide R
  have HLEN := hide (And.intro hSX (And.intro hCX hCY))
  simp only [hCX, hSX, hSY, hCY] at e3 q0 q1 r0 r1 HI CK HCK2 cx16 lx8 cy16 ⊢
  clear hx hy R hc R' hc' hcf hcf' hcf1 hcf2 I hcx hcy hSX hSY hCY hCX ly8
  go_enter Try.func11, Try.ntmps11
  go_wp2_with fail
  clear e3
  refine CK.mono ?_
  clear CK q0 q1 r0 r1
  rintro e w1 ⟨rfl, hb1⟩
  have I1 := HI.out.next hb1
  have HI1 := hide I1
  have C2 := HCK2.out w1 I1.bel
  have r0 := I1.r0
  have r1 := I1.r1
  clear hb1 HI I1 HCK2
  go_wp2_with fail
  refine C2.mono ?_
  clear C2 r0 r1
  rintro e w2 ⟨rfl, hb2⟩
  have I2 := HI1.out.next hb2
  obtain ⟨O, hO⟩ : ∃ O, w2.heap.size = O := ⟨_, rfl⟩
  obtain ⟨W4, e4⟩ : ∃ W4, w2.alloc (.cells #[.slice none 0 0, .slice none 0 0] 25) = W4 := ⟨_, rfl⟩
  have B4 : Below w2.heap.size w2 W4 := by rw [← e4]; exact one_alloc _ _
  have z4 : W4.heap.size = O + 1 := by rw [← e4]; simp [hO]
  have o0 : W4.cell? ⟨O, 0, none⟩ = some (.slice none 0 0) := by rw [← e4, ← hO]; exact cell_new0 _ _ 25 0 _ rfl
  have o1 : W4.cell? ⟨O, 1, none⟩ = some (.slice none 0 0) := by rw [← e4, ← hO]; exact cell_new0 _ _ 25 1 _ rfl
  have of0 : W4.frozen? ⟨O, 0, none⟩ = false := by rw [← e4, ← hO]; exact frozen_new _ _ 25 0
  have of1 : W4.frozen? ⟨O, 1, none⟩ = false := by rw [← e4, ← hO]; exact frozen_new _ _ 25 1
  have I4 := I2.next B4
  have q0 := I4.q0
  have r0 := I4.r0
  have HI4 := hide I4
  have HE4 := hide (And.intro e4 hO)
  have HZ4 := hide (And.intro z4 (And.intro hO I2.size))
  clear hb2 HI1 I2 I4 B4 z4 e4 hO
  go_upto_region 19 with fail
  rw [HE4.out.1, HE4.out.2]
  clear HE4
  have HLS : Hid (Lies W4 a1 (x.shape.map (Value.int .i64))) := (HR.out.next HI4.out.bel).lies
  have hsl : (x.shape.map (Value.int .i64)).length = SX * 1 := by rw [List.length_map, HLEN.out.1]; omega
  go_wp2_with (at_builtin; refine wpList_append_any rfl _ _ 22 rfl W4.heap.size 3 i3 (.int .i64 0) 1 8 Try.underlying22 hi3 hz30 hz31 hz32 rfl (by decide) _ 0 _ rfl (World.ownsRow_nil _ _ _ _) a1 SX c1 (x.shape.map (Value.int .i64)) rfl hsl HLS.out ?c3 ?c4 (Nat.le_refl _) ?_)
  case c3 => unfold maxLen; omega
  case c4 => omega
  intro v' w5 hown5 hb5
  try simp only [Nat.zero_add, List.nil_append] at hown5
  obtain ⟨al, cl, rfl, hcl⟩ := owns_cap hown5
  obtain ⟨al', cl', hal, RL⟩ := owns_rowE x.shape (by rw [HLEN.out.1]; omega) (by rw [HLEN.out.1]; exact hown5)
  simp only [Value.slice.injEq] at hal
  obtain ⟨rfl, -, rfl⟩ := hal
  have hz := HZ4.out
  have d0 : w5.cell? ⟨O, 0, none⟩ = some (.slice none 0 0) := (hb5.cell (p := ⟨O, 0, none⟩) (by show O < _; omega)).trans o0
  have df0 : w5.frozen? ⟨O, 0, none⟩ = false := (hb5.frozen (p := ⟨O, 0, none⟩) (by show O < _; omega)).trans of0
  obtain ⟨W6, e6⟩ : ∃ W6, w5.setCell ⟨O, 0, none⟩ (.slice al SX cl) = W6 := ⟨_, rfl⟩
  have z6 : W6.heap.size = w5.heap.size := by rw [← e6]; simp
  have z56 := hb5.size
  have B46 : Below O W4 W6 := by rw [← e6]; exact Below.setCell (p := ⟨O, 0, none⟩) (hb5.mono (by omega)) (Nat.le_refl O) _
  have I6 := HI4.out.belowS B46 (by omega)
  have t0 : W6.cell? ⟨O, 0, none⟩ = some (.slice al SX cl) := by rw [← e6]; exact World.cell?_setCell_same' _ _ _ (by rw [d0]; rfl)
  have t1 : W6.cell? ⟨O, 1, none⟩ = some (.slice none 0 0) := by rw [← e6, World.cell?_setCell_other _ _ _ _ (by simp)]; exact (hb5.cell (p := ⟨O, 1, none⟩) (by show O < _; omega)).trans o1
  have tf1 : W6.frozen? ⟨O, 1, none⟩ = false := by rw [← e6]; exact frozen_set _ _ _ _ ((hb5.frozen (p := ⟨O, 1, none⟩) (by show O < _; omega)).trans of1)
  have HRL : Hid (Row (O + 1) W6 al x.shape) := by
    have K : Keeps (O + 1) w5 W6 := by rw [← e6]; exact (Keeps.refl _ _).setCell (p := ⟨O, 0, none⟩) (by show O < O + 1; omega) _
    exact (RL.low (by omega)).keeps K
  obtain ⟨T, hT⟩ : ∃ T : Nat → Value × Value × Value, T = fun i => (.int .i64 0, .int .i64 (memC n y.cells (cAt x.cells i)), .slice none 0 0) := ⟨_, rfl⟩
  have HTT := hide hT
  have HG6 := hide (GrowC.new (T := T) t0 t1 tf1)
  have HI6 := hide I6
  have hO6 : Hid (O < W6.heap.size ∧ w.heap.size + 3 ≤ O) := ⟨by omega, by have := hz.2.2; omega⟩
  clear hown5 hb5 RL B46 I6 t0 t1 tf1 hT o0 o1 of0 of1 hz z6 z56 hcl q0 r0 HLS hsl HI4
  go_wp2
  clear d0 df0
  go_loopg [12] CX (fun M i wr => ∃ (t : Nat) (v : Value), M + t = CX ∧ i = .int .i64 (t : Int) ∧ GrowC W6 O (.slice al SX cl) T t v wr)
  case atStart => exact ⟨0, _, rfl, rfl, HG6.out⟩
  case round =>
    clear HG6
    obtain ⟨t, v, hM, rfl, hgr⟩ := hrel
    obtain ⟨wo, hwo⟩ : ∃ wo, wo = wr := ⟨_, rfl⟩
    subst hwo
    have HGR := hide hgr
    have ho6 := hO6.out
    have BW := hgr.below (B := O) (Nat.le_refl _) ho6.1
    have I8 := HI6.out.belowS BW ho6.2
    have q1o := I8.q1
    by_cases hlt : t < CX
    · have hltz : (t : Int) < (CX : Int) := by omega
      obtain ⟨S, hS⟩ : ∃ S, wo.heap.size = S := ⟨_, rfl⟩
      obtain ⟨W9, e9⟩ : ∃ W9, wo.alloc (.cells #[.int .i64 0, .int .i64 0, .slice none 0 0] 39) = W9 := ⟨_, rfl⟩
      have B9 : Below wo.heap.size wo W9 := by rw [← e9]; exact one_alloc _ _
      have z9 : W9.heap.size = S + 1 := by rw [← e9]; simp [hS]
      have hsz := hgr.io.size
      have hsw := I8.size
      have I9 := I8.next B9
      have q19 := I9.q1
      have r19 := I9.r1
      have hww : Below w.heap.size w W9 := I9.bel
      obtain ⟨bb, off, rfl, -, hbb, hcells⟩ := HCF.out (by rw [HLEN.out.2.1]; omega)
      obtain ⟨g0, g1, g2, -⟩ := hcells t (by rw [HLEN.out.2.1]; exact hlt)
      have u0 := (hww.cell (p := ⟨bb, off + t * 3, none⟩) hbb).trans g0
      have u1 := (hww.cell (p := ⟨bb, off + t * 3 + 1, none⟩) hbb).trans g1
      have u2 := (hww.cell (p := ⟨bb, off + t * 3 + 2, none⟩) hbb).trans g2
      have k0 : W9.cell? ⟨S, 0, none⟩ = some (.int .i64 0) := by rw [← e9, ← hS]; exact cell_new0 _ _ 39 0 _ rfl
      have k1 : W9.cell? ⟨S, 1, none⟩ = some (.int .i64 0) := by rw [← e9, ← hS]; exact cell_new0 _ _ 39 1 _ rfl
      have k2 : W9.cell? ⟨S, 2, none⟩ = some (.slice none 0 0) := by rw [← e9, ← hS]; exact cell_new0 _ _ 39 2 _ rfl
      have kf : W9.frozen? ⟨S, 1, none⟩ = false := by rw [← e9, ← hS]; exact frozen_new _ _ 39 1
      have C9 := HPL.out W9.drew hww.drew t hlt
      have hPb := HPB.out t
      have HE9 := hide (And.intro e9 hS)
      clear e9
      by_cases hp : plcC n y.cells (cAt x.cells t) < CY
      · have hpz : (plcC n y.cells (cAt x.cells t) : Int) < (CY : Int) := by omega
        have hTt : Hid (T t = (.int .i64 0, .int .i64 1, .slice none 0 0)) := by unfold Hid; rw [HTT.out]; show (_, Value.int .i64 (memC n y.cells (cAt x.cells t)), _) = _; unfold memC; rw [HLEN.out.2.2, if_pos hp]
        clear hp
        generalize plcC n y.cells (cAt x.cells t) = PL at *
        generalize (cAt x.cells t).1 = x0 at *
        generalize (cAt x.cells t).2.1 = x1 at *
        generalize (cAt x.cells t).2.2.length = x2 at *
        generalize ab t = x3 at *
        generalize cb t = x4 at *
        have d1 := hgr.c1
        have HC9 := hide C9
        have HSTEP : Hid (rowT T (t + 1) = rowT T t ++ [.int .i64 0, .int .i64 1, .slice none 0 0]) := by unfold Hid; rw [rowT_step, hTt.out]
        have HONE : Hid (∀ u ∈ [Value.int .i64 0, .int .i64 1, .slice none 0 0], u.oneCell' = true) := by
          intro u hu
          simp at hu
          rcases hu with rfl | rfl | rfl <;> rfl
        have HMAX : Hid (t + 1 ≤ maxLen ∧ (t + 1) * 40 ≤ 140737488355328) := ⟨by unfold maxLen; omega, by omega⟩
        have HAFT : Hid (∀ W, Below wo.heap.size wo W → (W.alloc (.cells #[.int .i64 0, .int .i64 1, .slice none 0 0] 39)).ownsRow W6.heap.size 39 3 v t (rowT T t) ∧ (∀ i u, [Value.int .i64 0, .int .i64 1, .slice none 0 0][i]? = some u → (W.alloc (.cells #[.int .i64 0, .int .i64 1, .slice none 0 0] 39)).cell? ((⟨W.heap.size, 0, none⟩ : Addr).add i) = some u) ∧ W6.heap.size ≤ (W.alloc (.cells #[.int .i64 0, .int .i64 1, .slice none 0 0] 39)).heap.size ∧ Below W6.heap.size wo (W.alloc (.cells #[.int .i64 0, .int .i64 1, .slice none 0 0] 39)) ∧ W.cell? ⟨O, 1, none⟩ = some v) := fun W hb9 => by
          have h9 := hb9.size
          refine ⟨(owns_below hgr.own hb9).alloc _, fun i u hu => ?_, by simp; omega, ((hb9.mono hsz).alloc (by omega) _), (hb9.cell (p := ⟨O, 1, none⟩) (by show O < _; omega)).trans d1⟩
          rw [add_off, Nat.zero_add]
          exact cell_new0 W _ 39 i u (by simpa using hu)
        have HCB : Hid (∀ w9, Below W9.heap.size W9 w9 → w9.cell? ⟨S, 0, none⟩ = some (.int .i64 0) ∧ w9.cell? ⟨S, 1, none⟩ = some (.int .i64 0) ∧ w9.cell? ⟨S, 2, none⟩ = some (.slice none 0 0) ∧ w9.frozen? ⟨S, 1, none⟩ = false ∧ w9.cell? ⟨w.heap.size + 1, 1, none⟩ = some (.slice b2 CY d2) ∧ Below wo.heap.size wo w9) := fun w9 hb => by
          refine ⟨(hb.cell (p := ⟨S, 0, none⟩) (by show S < _; omega)).trans k0, (hb.cell (p := ⟨S, 1, none⟩) (by show S < _; omega)).trans k1, (hb.cell (p := ⟨S, 2, none⟩) (by show S < _; omega)).trans k2, (hb.frozen (p := ⟨S, 1, none⟩) (by show S < _; omega)).trans kf, (hb.cell (p := ⟨w.heap.size + 1, 1, none⟩) (by show w.heap.size + 1 < _; omega)).trans r19, B9.trans (hb.mono B9.size)⟩
        clear hcells g0 g1 g2 hww I8 I9 BW C9 hTt hbb k0 k1 k2 kf ho6 d1
        go_upto_region 24 with fail
        rw [HE9.out.1]
        clear q1o
        go_region_law (go_simp; go_at_call 28; refine HC9.out.mono ?_; rintro e w9 ⟨rfl, hb9⟩; have HA9 := hide (HCB.out w9 ((Below.refl _ _).drew.trans hb9)); have r20 := HA9.out.2.2.2.2.1)
        all_goals
          have k0 := HA9.out.1
          have k1 := HA9.out.2.1
          have k2 := HA9.out.2.2.1
          have kf := HA9.out.2.2.2.1
          obtain ⟨W10, e10⟩ : ∃ W10, w9.setCell ⟨S, 1, none⟩ (.int .i64 1) = W10 := ⟨_, rfl⟩
          have B10 : Below wo.heap.size wo W10 := by rw [← e10]; exact Below.setCell (p := ⟨S, 1, none⟩) HA9.out.2.2.2.2.2 (by show wo.heap.size ≤ S; omega) _
          have m0 : W10.cell? ⟨S, 0, none⟩ = some (.int .i64 0) := by rw [← e10, World.cell?_setCell_other _ _ _ _ (by simp)]; exact k0
          have m1 : W10.cell? ⟨S, 1, none⟩ = some (.int .i64 1) := by rw [← e10]; exact World.cell?_setCell_same' _ _ _ (by rw [k1]; rfl)
          have m2 : W10.cell? ⟨S, 2, none⟩ = some (.slice none 0 0) := by rw [← e10, World.cell?_setCell_other _ _ _ _ (by simp)]; exact k2
          have HA := hide (HAFT.out W10 B10)
          have d1 := HA.out.2.2.2.2
          clear HA9 HCB HAFT B10 hb9 r20 r19 q19 u0 u1 u2
          go_upto_region 26 with fail
          clear k0 k1 k2 kf
          go_wp2_with (at_builtin; refine wpList_append_B rfl _ _ 23 rfl W6.heap.size 39 i0 (.agg #[.int .i64 0, .int .i64 0, .slice none 0 0]) 3 40 Try.underlying23 hi0 hz00 hz01 hz02 rfl (by decide) _ _ _ rfl HA.out.1 ⟨W10.heap.size, 0, none⟩ 1 1 [.int .i64 0, .int .i64 1, .slice none 0 0] rfl rfl HA.out.2.1 HONE.out HMAX.out.1 HMAX.out.2 HA.out.2.2.1 ?_)
          intro v' w1 hown1 hb1
          obtain ⟨g, cp, rfl, -⟩ := owns_form hown1 (Nat.succ_pos t)
          have dd1 := (HA.out.2.2.2.1.trans hb1).cell (p := ⟨O, 1, none⟩) hO6.out.1 |>.trans HGR.out.c1
          have dd3 := (HA.out.2.2.2.1.trans hb1).frozen (p := ⟨O, 1, none⟩) hO6.out.1 |>.trans HGR.out.f1
          have hown2 : w1.ownsRow W6.heap.size 39 3 (.slice (some ⟨g, 0, none⟩) (t + 1) cp) (t + 1) (rowT T (t + 1)) := by rw [HSTEP.out]; exact hown1
          have HNX := hide (HGR.out.step hO6.out.1 (HA.out.2.2.2.1.trans hb1) hown2)
          clear hown1 hown2 hb1 HONE HMAX HSTEP HA d1 m0 m1 m2
          go_wp2
          go_roundg (CX - (t + 1))
          case rel => exact ⟨t + 1, _, by omega, by go_num, HNX.out⟩
          case measure => omega
      · have hpz : (CY : Int) ≤ (plcC n y.cells (cAt x.cells t) : Int) := by omega
        have hTt : Hid (T t = (.int .i64 0, .int .i64 0, .slice none 0 0)) := by unfold Hid; rw [HTT.out]; show (_, Value.int .i64 (memC n y.cells (cAt x.cells t)), _) = _; unfold memC; rw [HLEN.out.2.2, if_neg hp]
        clear hp
        generalize plcC n y.cells (cAt x.cells t) = PL at *
        generalize (cAt x.cells t).1 = x0 at *
        generalize (cAt x.cells t).2.1 = x1 at *
        generalize (cAt x.cells t).2.2.length = x2 at *
        generalize ab t = x3 at *
        generalize cb t = x4 at *
        have d1 := hgr.c1
        have HC9 := hide C9
        have HSTEP : Hid (rowT T (t + 1) = rowT T t ++ [.int .i64 0, .int .i64 0, .slice none 0 0]) := by unfold Hid; rw [rowT_step, hTt.out]
        have HONE : Hid (∀ u ∈ [Value.int .i64 0, .int .i64 0, .slice none 0 0], u.oneCell' = true) := by
          intro u hu
          simp at hu
          rcases hu with rfl | rfl | rfl <;> rfl
        have HMAX : Hid (t + 1 ≤ maxLen ∧ (t + 1) * 40 ≤ 140737488355328) := ⟨by unfold maxLen; omega, by omega⟩
        have HAFT : Hid (∀ W, Below wo.heap.size wo W → (W.alloc (.cells #[.int .i64 0, .int .i64 0, .slice none 0 0] 39)).ownsRow W6.heap.size 39 3 v t (rowT T t) ∧ (∀ i u, [Value.int .i64 0, .int .i64 0, .slice none 0 0][i]? = some u → (W.alloc (.cells #[.int .i64 0, .int .i64 0, .slice none 0 0] 39)).cell? ((⟨W.heap.size, 0, none⟩ : Addr).add i) = some u) ∧ W6.heap.size ≤ (W.alloc (.cells #[.int .i64 0, .int .i64 0, .slice none 0 0] 39)).heap.size ∧ Below W6.heap.size wo (W.alloc (.cells #[.int .i64 0, .int .i64 0, .slice none 0 0] 39)) ∧ W.cell? ⟨O, 1, none⟩ = some v) := fun W hb9 => by
          have h9 := hb9.size
          refine ⟨(owns_below hgr.own hb9).alloc _, fun i u hu => ?_, by simp; omega, ((hb9.mono hsz).alloc (by omega) _), (hb9.cell (p := ⟨O, 1, none⟩) (by show O < _; omega)).trans d1⟩
          rw [add_off, Nat.zero_add]
          exact cell_new0 W _ 39 i u (by simpa using hu)
        have HCB : Hid (∀ w9, Below W9.heap.size W9 w9 → w9.cell? ⟨S, 0, none⟩ = some (.int .i64 0) ∧ w9.cell? ⟨S, 1, none⟩ = some (.int .i64 0) ∧ w9.cell? ⟨S, 2, none⟩ = some (.slice none 0 0) ∧ w9.frozen? ⟨S, 1, none⟩ = false ∧ w9.cell? ⟨w.heap.size + 1, 1, none⟩ = some (.slice b2 CY d2) ∧ Below wo.heap.size wo w9) := fun w9 hb => by
          refine ⟨(hb.cell (p := ⟨S, 0, none⟩) (by show S < _; omega)).trans k0, (hb.cell (p := ⟨S, 1, none⟩) (by show S < _; omega)).trans k1, (hb.cell (p := ⟨S, 2, none⟩) (by show S < _; omega)).trans k2, (hb.frozen (p := ⟨S, 1, none⟩) (by show S < _; omega)).trans kf, (hb.cell (p := ⟨w.heap.size + 1, 1, none⟩) (by show w.heap.size + 1 < _; omega)).trans r19, B9.trans (hb.mono B9.size)⟩
        clear hcells g0 g1 g2 hww I8 I9 BW C9 hTt hbb k0 k1 k2 kf ho6 d1
        go_upto_region 24 with fail
        rw [HE9.out.1]
        clear q1o
        go_region_law (go_simp; go_at_call 28; refine HC9.out.mono ?_; rintro e w9 ⟨rfl, hb9⟩; have HA9 := hide (HCB.out w9 ((Below.refl _ _).drew.trans hb9)); have r20 := HA9.out.2.2.2.2.1)
        all_goals
          have k0 := HA9.out.1
          have k1 := HA9.out.2.1
          have k2 := HA9.out.2.2.1
          have kf := HA9.out.2.2.2.1
          obtain ⟨W10, e10⟩ : ∃ W10, W10 = w9 := ⟨_, rfl⟩
          subst e10
          have B10 := HA9.out.2.2.2.2.2
          have HA := hide (HAFT.out W10 B10)
          have d1 := HA.out.2.2.2.2
          clear HA9 HCB HAFT B10 hb9 r20 r19 q19 u0 u1 u2
          go_upto_region 26 with fail
          go_wp2_with (at_builtin; refine wpList_append_B rfl _ _ 23 rfl W6.heap.size 39 i0 (.agg #[.int .i64 0, .int .i64 0, .slice none 0 0]) 3 40 Try.underlying23 hi0 hz00 hz01 hz02 rfl (by decide) _ _ _ rfl HA.out.1 ⟨W10.heap.size, 0, none⟩ 1 1 [.int .i64 0, .int .i64 0, .slice none 0 0] rfl rfl HA.out.2.1 HONE.out HMAX.out.1 HMAX.out.2 HA.out.2.2.1 ?_)
          intro v' w1 hown1 hb1
          obtain ⟨g, cp, rfl, -⟩ := owns_form hown1 (Nat.succ_pos t)
          have dd1 := (HA.out.2.2.2.1.trans hb1).cell (p := ⟨O, 1, none⟩) hO6.out.1 |>.trans HGR.out.c1
          have dd3 := (HA.out.2.2.2.1.trans hb1).frozen (p := ⟨O, 1, none⟩) hO6.out.1 |>.trans HGR.out.f1
          have hown2 : w1.ownsRow W6.heap.size 39 3 (.slice (some ⟨g, 0, none⟩) (t + 1) cp) (t + 1) (rowT T (t + 1)) := by rw [HSTEP.out]; exact hown1
          have HNX := hide (HGR.out.step hO6.out.1 (HA.out.2.2.2.1.trans hb1) hown2)
          clear hown1 hown2 hb1 HONE HMAX HSTEP HA d1 k0 k1 k2 kf
          go_wp2
          go_roundg (CX - (t + 1))
          case rel => exact ⟨t + 1, _, by omega, by go_num, HNX.out⟩
          case measure => omega
    · have hte : t = CX := by omega
      subst hte
      obtain ⟨g2, cp2, rfl, hcells⟩ := owns_cellsT T hgr.own
      have d0' := hgr.c0
      have d1' := hgr.c1
      have p0 := I8.p0
      have p1 := I8.p1
      have f0 := I8.f0
      have f1 := I8.f1
      have HT := hide (I8.put (.slice al SX cl) (.slice g2 t cp2))
      obtain ⟨L, hL⟩ : ∃ L, (List.range t).map (fun i => memC n y.cells (cAt x.cells i)) = L := ⟨_, rfl⟩
      have hLl : L.length = t := by rw [← hL]; simp
      have hLv : ∀ i, i < t → L[i]?.getD 0 = memC n y.cells (cAt x.cells i) := fun i hi => by rw [← hL]; simp [hi]
      have HFIN : Hid (∀ u s, Gives2Z (n + 1) w (.mk x.shape (numCs 0 ((List.range t).map fun i => memC n y.cells (cAt x.cells i)))) 0 w (.returned (.tuple #[.agg #[.slice al SX cl, .slice g2 t cp2], .int .i64 0])) ((wo.setCell ⟨w.heap.size + 2, 0, none⟩ u).setCell ⟨w.heap.size + 2, 1, none⟩ s)) := by
        intro u s
        rw [hL]
        refine gives2z_of (R := (.mk x.shape (numCs 0 L), 0)) rfl (fun W hW hK => ?_) (I8.fin u s)
        have K3 : Keeps (w.heap.size + 3) wo W := (((Keeps.refl _ _).setCell (p := ⟨w.heap.size + 2, 0, none⟩) (by show w.heap.size + 2 < _; omega) u).setCell (p := ⟨w.heap.size + 2, 1, none⟩) (by show w.heap.size + 2 < _; omega) s).trans (hK.mono (by omega))
        have RF : Row 0 W al x.shape := by
          have K4 : Keeps (O + 1) W6 W := ⟨Nat.le_trans hgr.io.size K3.1, fun b h1 h2 => (K3.2 b (by omega) (Nat.lt_of_lt_of_le h2 hgr.io.size)).trans (hgr.keep b h2 (by omega))⟩
          exact (HRL.out.keeps K4).low (Nat.zero_le _)
        refine arIn_mk (x := .mk x.shape (numCs 0 L)) RF (by show (numCs 0 L).length ≤ _; rw [numCs_len, hLl]; omega) ?_ HLEN.out.1 (by show (numCs 0 L).length = t; rw [numCs_len, hLl])
        rcases hcells with h0 | ⟨g, rfl, hg1, hg2, hcc⟩
        · exact Or.inl (List.eq_nil_of_length_eq_zero (by show (numCs 0 L).length = 0; rw [numCs_len, hLl]; exact h0))
        · refine Or.inr ⟨g, 0, rfl, Nat.zero_le _, Nat.lt_of_lt_of_le hg2 K3.1, fun i hi => ?_⟩
          change i < (numCs 0 L).length at hi
          rw [numCs_len, hLl] at hi
          obtain ⟨e0, e1, e2⟩ := hcc i hi
          rw [Nat.zero_add]
          have ap : ∀ (o : Nat) (q : Value), wo.cell? ⟨g, o, none⟩ = some q → W.cell? ⟨g, o, none⟩ = some q := fun o q h => (K3.cell (p := ⟨g, o, none⟩) (by show w.heap.size + 3 ≤ g; omega) hg2).trans h
          refine ⟨_, _, _, ap _ _ e0, ap _ _ e1, ap _ _ e2, ?_⟩
          rw [show cAt (Ar.mk x.shape (numCs 0 L)).cells i = (0, memC n y.cells (cAt x.cells i), []) from (numCs_at 0 L i (by omega)).trans (by rw [hLv i hi]), HTT.out]
          exact ⟨rfl, rfl, none, 0, rfl, by simp, Or.inl rfl⟩
      clear I8 hgr HGR hcells BW hL hLl hLv
      go_wp2
      exact bodyPost_ret (v := .tuple #[.agg #[.slice al SX cl, .slice g2 t cp2], .int .i64 0]) (by simp [results, Try.results11, go_sem, HT.out.1, HT.out.2]) rfl (HFIN.out _ _)
end Go.Proofs.Ytimkcpbgnoekcaa
namespace Go.Proofs.Ytimkcpbgnoekcaa
open Go.ChangeShapes Go.WideShapes Go.ChangeAt Go.RowKit
set_option linter.unusedVariables false
set_option maxRecDepth 100000
set_option maxHeartbeats 4000000 in
theorem rsdy_bad1 {n lo lo' : Nat} {op : Int} {x y : Ar} {va vb : Value} {w : World} (hx : ArIn (n + 1) lo w x va) (hy : ArIn (n + 1) lo' w y vb) (hcx : ¬ chkA 8 x = 0) :
    Calls Try.prog 11 #[.int .i64 op, va, vb] w fun e w' => Gives2Z (n + 1) w zeroA (chkA 8 x) w e w' := by
  obtain ⟨a1, c1, a2, c2, rfl, -, -⟩ := hx.form
  obtain ⟨b1, d1, b2, d2, rfl, -, -⟩ := hy.form
  have I := in3_new w (.slice a1 x.shape.length c1) (.slice a2 x.cells.length c2) (.slice b1 y.shape.length d1) (.slice b2 y.cells.length d2)
  obtain ⟨W3, e3⟩ : ∃ W3, ((w.alloc (.cells #[.slice a1 x.shape.length c1, .slice a2 x.cells.length c2] 25)).alloc (.cells #[.slice b1 y.shape.length d1, .slice b2 y.cells.length d2] 25)).alloc (.cells #[.slice none 0 0, .slice none 0 0] 25) = W3 := ⟨_, rfl⟩
  rw [e3] at I
  have hb3 := I.bel
  have q0 := I.q0
  have q1 := I.q1
  have r0 := I.r0
  have r1 := I.r1
  have HI := hide I
  have CK := rcheck_any (n + 1) x _ _ W3 (hx.next hb3)
  have HCK2 : Hid (∀ W, Below w.heap.size w W → Calls Try.prog 16 #[.agg #[.slice b1 y.shape.length d1, .slice b2 y.cells.length d2]] W fun e w' => e = .returned (.int .i64 (chkA 8 y)) ∧ Below W.heap.size W w') := fun W h => rcheck_any (n + 1) y _ _ W (hy.next h)
  obtain ⟨E, hE⟩ : ∃ E, chkA 8 x = E := ⟨_, rfl⟩
  rw [hE] at CK hcx ⊢
  have hEb : (E == 0) = false := by simp [hcx]
  clear hx hy I hE HCK2
  generalize x.shape.length = SX at *
  generalize x.cells.length = CX at *
  generalize y.shape.length = SY at *
  generalize y.cells.length = CY at *
  go_enter Try.func11, Try.ntmps11
  go_wp2_with fail
  clear e3
  refine CK.mono ?_
  clear CK q0 q1 r0 r1
  rintro e w1 ⟨rfl, hb1⟩
  have I1 := HI.out.next hb1
  have HI1 := hide I1
  clear hb1 HI I1
  have HT := hide (HI1.out.put (.slice none 0 0) (.slice none 0 0))
  have p0 := HI1.out.p0
  have p1 := HI1.out.p1
  have f0 := HI1.out.f0
  have f1 := HI1.out.f1
  have HF : Hid (∀ u v, Gives2Z (n + 1) w zeroA E w (.returned (.tuple #[.agg #[.slice none 0 0, .slice none 0 0], .int .i64 E])) ((w1.setCell ⟨w.heap.size + 2, 0, none⟩ u).setCell ⟨w.heap.size + 2, 1, none⟩ v)) := fun u v => gives2z_of (R := (zeroA, E)) rfl (fun W _ _ => zeroA_in _ _ _) (HI1.out.fin u v)
  go_wp2
  exact bodyPost_ret (v := .tuple #[.agg #[.slice none 0 0, .slice none 0 0], .int .i64 E]) (by simp [results, Try.results11, go_sem, HT.out.1, HT.out.2]) rfl (HF.out _ _)
set_option maxHeartbeats 4000000 in
theorem rsdy_bad2 {n lo lo' : Nat} {op : Int} {x y : Ar} {va vb : Value} {w : World} (hx : ArIn (n + 1) lo w x va) (hy : ArIn (n + 1) lo' w y vb) (hcx : chkA 8 x = 0) (hcy : ¬ chkA 8 y = 0) :
    Calls Try.prog 11 #[.int .i64 op, va, vb] w fun e w' => Gives2Z (n + 1) w zeroA (chkA 8 y) w e w' := by
  obtain ⟨a1, c1, a2, c2, rfl, -, -⟩ := hx.form
  obtain ⟨b1, d1, b2, d2, rfl, -, -⟩ := hy.form
  have I := in3_new w (.slice a1 x.shape.length c1) (.slice a2 x.cells.length c2) (.slice b1 y.shape.length d1) (.slice b2 y.cells.length d2)
  obtain ⟨W3, e3⟩ : ∃ W3, ((w.alloc (.cells #[.slice a1 x.shape.length c1, .slice a2 x.cells.length c2] 25)).alloc (.cells #[.slice b1 y.shape.length d1, .slice b2 y.cells.length d2] 25)).alloc (.cells #[.slice none 0 0, .slice none 0 0] 25) = W3 := ⟨_, rfl⟩
  rw [e3] at I
  have hb3 := I.bel
  have q0 := I.q0
  have q1 := I.q1
  have r0 := I.r0
  have r1 := I.r1
  have HI := hide I
  have CK := rcheck_any (n + 1) x _ _ W3 (hx.next hb3)
  have HCK2 : Hid (∀ W, Below w.heap.size w W → Calls Try.prog 16 #[.agg #[.slice b1 y.shape.length d1, .slice b2 y.cells.length d2]] W fun e w' => e = .returned (.int .i64 (chkA 8 y)) ∧ Below W.heap.size W w') := fun W h => rcheck_any (n + 1) y _ _ W (hy.next h)
  rw [hcx] at CK
  obtain ⟨E, hE⟩ : ∃ E, chkA 8 y = E := ⟨_, rfl⟩
  rw [hE] at HCK2 hcy ⊢
  have hEb : (E == 0) = false := by simp [hcy]
  clear hx hy I hE
  generalize x.shape.length = SX at *
  generalize x.cells.length = CX at *
  generalize y.shape.length = SY at *
  generalize y.cells.length = CY at *
  go_enter Try.func11, Try.ntmps11
  go_wp2_with fail
  clear e3
  refine CK.mono ?_
  clear CK q0 q1 r0 r1
  rintro e w1 ⟨rfl, hb1⟩
  have I1 := HI.out.next hb1
  have HI1 := hide I1
  have C2 := HCK2.out w1 I1.bel
  have r0 := I1.r0
  have r1 := I1.r1
  clear hb1 HI I1 HCK2
  go_wp2_with fail
  refine C2.mono ?_
  clear C2 r0 r1
  rintro e w2 ⟨rfl, hb2⟩
  have I2 := HI1.out.next hb2
  have HI2 := hide I2
  clear HI1
  clear I2
  have HT := hide (HI2.out.put (.slice none 0 0) (.slice none 0 0))
  have p0 := HI2.out.p0
  have p1 := HI2.out.p1
  have f0 := HI2.out.f0
  have f1 := HI2.out.f1
  have HF : Hid (∀ u v, Gives2Z (n + 1) w zeroA E w (.returned (.tuple #[.agg #[.slice none 0 0, .slice none 0 0], .int .i64 E])) ((w2.setCell ⟨w.heap.size + 2, 0, none⟩ u).setCell ⟨w.heap.size + 2, 1, none⟩ v)) := fun u v => gives2z_of (R := (zeroA, E)) rfl (fun W _ _ => zeroA_in _ _ _) (HI2.out.fin u v)
  go_wp2
  exact bodyPost_ret (v := .tuple #[.agg #[.slice none 0 0, .slice none 0 0], .int .i64 E]) (by simp [results, Try.results11, go_sem, HT.out.1, HT.out.2]) rfl (HF.out _ _)
set_option maxHeartbeats 4000000 in
theorem rsdy_rank {n lo lo' : Nat} {x y : Ar} {va vb : Value} {w : World} (hx : ArIn (n + 1) lo w x va) (hy : ArIn (n + 1) lo' w y vb) (hcx : chkA 8 x = 0) (hcy : chkA 8 y = 0) (h1 : ¬ x.shape.length = 1) :
    Calls Try.prog 11 #[.int .i64 48, va, vb] w fun e w' => Gives2Z (n + 1) w zeroA 6 w e w' := by
  obtain ⟨a1, c1, a2, c2, rfl, -, -⟩ := hx.form
  obtain ⟨b1, d1, b2, d2, rfl, -, -⟩ := hy.form
  have I := in3_new w (.slice a1 x.shape.length c1) (.slice a2 x.cells.length c2) (.slice b1 y.shape.length d1) (.slice b2 y.cells.length d2)
  obtain ⟨W3, e3⟩ : ∃ W3, ((w.alloc (.cells #[.slice a1 x.shape.length c1, .slice a2 x.cells.length c2] 25)).alloc (.cells #[.slice b1 y.shape.length d1, .slice b2 y.cells.length d2] 25)).alloc (.cells #[.slice none 0 0, .slice none 0 0] 25) = W3 := ⟨_, rfl⟩
  rw [e3] at I
  have hb3 := I.bel
  have q0 := I.q0
  have q1 := I.q1
  have r0 := I.r0
  have r1 := I.r1
  have HI := hide I
  have CK := rcheck_any (n + 1) x _ _ W3 (hx.next hb3)
  have HCK2 : Hid (∀ W, Below w.heap.size w W → Calls Try.prog 16 #[.agg #[.slice b1 y.shape.length d1, .slice b2 y.cells.length d2]] W fun e w' => e = .returned (.int .i64 (chkA 8 y)) ∧ Below W.heap.size W w') := fun W h => rcheck_any (n + 1) y _ _ W (hy.next h)
  rw [hcx] at CK
  rw [hcy] at HCK2
  obtain ⟨lx8, -⟩ := chk_len hcx
  clear hx hy I
  generalize x.shape.length = SX at *
  generalize x.cells.length = CX at *
  generalize y.shape.length = SY at *
  generalize y.cells.length = CY at *
  have hneb : ((SX : Int) == 1) = false := by simp; omega
  go_enter Try.func11, Try.ntmps11
  go_wp2_with fail
  clear e3
  refine CK.mono ?_
  clear CK q0 q1 r0 r1
  rintro e w1 ⟨rfl, hb1⟩
  have I1 := HI.out.next hb1
  have HI1 := hide I1
  have C2 := HCK2.out w1 I1.bel
  have r0 := I1.r0
  have r1 := I1.r1
  clear hb1 HI I1 HCK2
  go_wp2_with fail
  refine C2.mono ?_
  clear C2 r0 r1
  rintro e w2 ⟨rfl, hb2⟩
  have I2 := HI1.out.next hb2
  have HI2 := hide I2
  clear HI1
  obtain ⟨W4, e4⟩ : ∃ W4, w2.alloc (.cells #[.slice none 0 0, .slice none 0 0] 25) = W4 := ⟨_, rfl⟩
  have B4 : Below w2.heap.size w2 W4 := by rw [← e4]; exact one_alloc _ _
  have I4 := I2.next B4
  have HI4 := hide I4
  have HE4 := hide e4
  have q0 := I4.q0
  clear hb2 I2 I4 B4 e4 HI2
  go_upto_region 8 with fail
  rw [HE4.out]
  clear HE4
  have HT := hide (HI4.out.put (.slice none 0 0) (.slice none 0 0))
  have p0 := HI4.out.p0
  have p1 := HI4.out.p1
  have f0 := HI4.out.f0
  have f1 := HI4.out.f1
  have HF : Hid (∀ u v, Gives2Z (n + 1) w zeroA 6 w (.returned (.tuple #[.agg #[.slice none 0 0, .slice none 0 0], .int .i64 6])) ((W4.setCell ⟨w.heap.size + 2, 0, none⟩ u).setCell ⟨w.heap.size + 2, 1, none⟩ v)) := fun u v => gives2z_of (R := (zeroA, 6)) rfl (fun W _ _ => zeroA_in _ _ _) (HI4.out.fin u v)
  go_wp2
  exact bodyPost_ret (v := .tuple #[.agg #[.slice none 0 0, .slice none 0 0], .int .i64 6]) (by simp [results, Try.results11, go_sem, HT.out.1, HT.out.2]) rfl (HF.out _ _)
set_option maxHeartbeats 4000000 in
theorem rsdy_none {n lo lo' : Nat} {op : Int} {x y : Ar} {va vb : Value} {w : World} (hx : ArIn (n + 1) lo w x va) (hy : ArIn (n + 1) lo' w y vb) (hcx : chkA 8 x = 0) (hcy : chkA 8 y = 0) (h48 : ¬ op = 48) (h49 : ¬ op = 49) :
    Calls Try.prog 11 #[.int .i64 op, va, vb] w fun e w' => Gives2Z (n + 1) w zeroA 1 w e w' := by
  obtain ⟨a1, c1, a2, c2, rfl, -, -⟩ := hx.form
  obtain ⟨b1, d1, b2, d2, rfl, -, -⟩ := hy.form
  have I := in3_new w (.slice a1 x.shape.length c1) (.slice a2 x.cells.length c2) (.slice b1 y.shape.length d1) (.slice b2 y.cells.length d2)
  obtain ⟨W3, e3⟩ : ∃ W3, ((w.alloc (.cells #[.slice a1 x.shape.length c1, .slice a2 x.cells.length c2] 25)).alloc (.cells #[.slice b1 y.shape.length d1, .slice b2 y.cells.length d2] 25)).alloc (.cells #[.slice none 0 0, .slice none 0 0] 25) = W3 := ⟨_, rfl⟩
  rw [e3] at I
  have hb3 := I.bel
  have q0 := I.q0
  have q1 := I.q1
  have r0 := I.r0
  have r1 := I.r1
  have HI := hide I
  have CK := rcheck_any (n + 1) x _ _ W3 (hx.next hb3)
  have HCK2 : Hid (∀ W, Below w.heap.size w W → Calls Try.prog 16 #[.agg #[.slice b1 y.shape.length d1, .slice b2 y.cells.length d2]] W fun e w' => e = .returned (.int .i64 (chkA 8 y)) ∧ Below W.heap.size W w') := fun W h => rcheck_any (n + 1) y _ _ W (hy.next h)
  rw [hcx] at CK
  rw [hcy] at HCK2
  clear hx hy I
  generalize x.shape.length = SX at *
  generalize x.cells.length = CX at *
  generalize y.shape.length = SY at *
  generalize y.cells.length = CY at *
  have h48b : (op == 48) = false := by simp [h48]
  have h49b : (op == 49) = false := by simp [h49]
  go_enter Try.func11, Try.ntmps11
  go_wp2_with fail
  clear e3
  refine CK.mono ?_
  clear CK q0 q1 r0 r1
  rintro e w1 ⟨rfl, hb1⟩
  have I1 := HI.out.next hb1
  have HI1 := hide I1
  have C2 := HCK2.out w1 I1.bel
  have r0 := I1.r0
  have r1 := I1.r1
  clear hb1 HI I1 HCK2
  go_wp2_with fail
  refine C2.mono ?_
  clear C2 r0 r1
  rintro e w2 ⟨rfl, hb2⟩
  have I2 := HI1.out.next hb2
  have HI2 := hide I2
  clear HI1
  obtain ⟨W4, e4⟩ : ∃ W4, w2.alloc (.cells #[.slice none 0 0, .slice none 0 0] 25) = W4 := ⟨_, rfl⟩
  have B4 : Below w2.heap.size w2 W4 := by rw [← e4]; exact one_alloc _ _
  have I4 := I2.next B4
  have HI4 := hide I4
  have HE4 := hide e4
  have q0 := I4.q0
  clear hb2 I2 I4 B4 e4 HI2
  go_upto_region 8 with fail
  rw [HE4.out]
  clear HE4
  have HT := hide (HI4.out.put (.slice none 0 0) (.slice none 0 0))
  have p0 := HI4.out.p0
  have p1 := HI4.out.p1
  have f0 := HI4.out.f0
  have f1 := HI4.out.f1
  have HF : Hid (∀ u v, Gives2Z (n + 1) w zeroA 1 w (.returned (.tuple #[.agg #[.slice none 0 0, .slice none 0 0], .int .i64 1])) ((W4.setCell ⟨w.heap.size + 2, 0, none⟩ u).setCell ⟨w.heap.size + 2, 1, none⟩ v)) := fun u v => gives2z_of (R := (zeroA, 1)) rfl (fun W _ _ => zeroA_in _ _ _) (HI4.out.fin u v)
  go_wp2
  exact bodyPost_ret (v := .tuple #[.agg #[.slice none 0 0, .slice none 0 0], .int .i64 1]) (by simp [results, Try.results11, go_sem, HT.out.1, HT.out.2]) rfl (HF.out _ _)
/-- The document's Dy of whatever arrays. -/
theorem rsdy_any {n lo lo' : Nat} {op : Int} {x y : Ar} {va vb : Value} {w : World} (hx : ArIn (n + 1) lo w x va) (hy : ArIn (n + 1) lo' w y vb) :
    Calls Try.prog 11 #[.int .i64 op, va, vb] w fun e w' => Gives2Z (n + 1) w (seekD n op x y).1 (seekD n op x y).2 w e w' := by
  unfold seekD
  by_cases hcx : chkA 8 x = 0
  · rw [if_neg (not_not_intro hcx)]
    by_cases hcy : chkA 8 y = 0
    · rw [if_neg (not_not_intro hcy)]
      unfold seekR
      by_cases h48 : op = 48
      · subst h48
        rw [if_pos rfl]
        unfold fndR
        by_cases h1 : x.shape.length = 1
        · rw [if_neg (not_not_intro h1)]
          exact rsdy_48 hx hy hcx hcy h1
        · rw [if_pos h1]
          exact rsdy_rank hx hy hcx hcy h1
      · rw [if_neg h48]
        by_cases h49 : op = 49
        · subst h49
          rw [if_pos rfl]
          exact rsdy_49 hx hy hcx hcy
        · rw [if_neg h49]
          exact rsdy_none hx hy hcx hcy h48 h49
    · rw [if_pos hcy]
      exact rsdy_bad2 hx hy hcx hcy
  · rw [if_pos hcx]
    exact rsdy_bad1 hx hy hcx
end Go.Proofs.Ytimkcpbgnoekcaa
namespace Go.Proofs.Ytimkcpbgnoekcaa
open Go.ChangeShapes Go.WideShapes Go.ChangeAt Go.RowKit
set_option linter.unusedVariables false
set_option maxRecDepth 100000
set_option maxHeartbeats 1000000 in
theorem weight400 {n lo : Nat} {x : Ar} {va : Value} {w : World} (hx : ArIn n lo w x va) : Calls Try.prog 22 #[va, .int .i64 400] w fun e w' => (∃ r : Int, e = .returned (.int .i64 r)) ∧ Below w.heap.size w w' := by
  have C := fun w' hb => weigh_any 16 (by omega) n x lo va w' 400 (hx.next hb) (by omega) (by omega)
  cases n with
  | zero => exact hx.elim
  | succ n =>
    obtain ⟨a1, c1, a2, c2, rfl, -⟩ := hx
    generalize x.shape.length = SA at *
    generalize x.cells.length = CA at *
    have C1 := C _ (one_alloc w (.cells #[.slice a1 SA c1, .slice a2 CA c2] 25))
    clear C
    go_enter Try.func22, Try.ntmps22
    go_wp2_with fail
    refine C1.mono ?_
    rintro e w1 ⟨⟨r, rfl, -, -, -⟩, hb1⟩
    go_wp2
    go_ret
    exact ⟨⟨r, rfl⟩, (one_alloc _ _).trans (hb1.mono (one_alloc _ _).size)⟩
set_option maxHeartbeats 1000000 in
theorem slight_any {n lo : Nat} {x : Ar} {va : Value} {w : World} (hx : ArIn n lo w x va) : Calls Try.prog 8 #[va] w fun e w' => (∃ r : Bool, e = .returned (.bool r)) ∧ Below w.heap.size w w' := by
  have C := fun w' hb => weight400 (w := w') (hx.next hb)
  cases n with
  | zero => exact hx.elim
  | succ n =>
    obtain ⟨a1, c1, a2, c2, rfl, R, -⟩ := hx
    have hR := R.1
    clear R
    generalize x.shape.length = SA at *
    generalize x.cells.length = CA at *
    obtain ⟨W1, e1⟩ : ∃ W1, w.alloc (.cells #[.slice a1 SA c1, .slice a2 CA c2] 25) = W1 := ⟨_, rfl⟩
    have b1 : Below w.heap.size w W1 := by rw [← e1]; exact one_alloc _ _
    have q0 : W1.cell? ⟨w.heap.size, 0, none⟩ = some (.slice a1 SA c1) := by rw [← e1]; exact cell_new0 w _ 25 0 _ rfl
    have q1 : W1.cell? ⟨w.heap.size, 1, none⟩ = some (.slice a2 CA c2) := by rw [← e1]; exact cell_new0 w _ 25 1 _ rfl
    have C1 := C _ b1
    have z1 : w.heap.size < W1.heap.size := by rw [← e1]; simp
    have HB1 := hide (And.intro b1 (And.intro q0 z1))
    clear C b1 z1
    go_enter Try.func8, Try.ntmps8
    go_wp2_with fail
    clear e1
    refine C1.mono ?_
    clear C1 q0 q1
    rintro e w1 ⟨⟨r, rfl⟩, hb1⟩
    have q0 := (hb1.cell (p := ⟨w.heap.size, 0, none⟩) HB1.out.2.2).trans HB1.out.2.1
    have HF := hide (HB1.out.1.trans (hb1.mono HB1.out.1.size))
    clear hb1
    by_cases h : r ≤ 400
    · have hb : decide (r ≤ 400) = true := by simp; exact h
      go_wp2
      go_ret
      exact ⟨⟨_, rfl⟩, HF.out⟩
    · have hb : decide (r ≤ 400) = false := by simp; omega
      go_wp2
      go_ret
      exact ⟨⟨_, rfl⟩, HF.out⟩
set_option maxHeartbeats 1000000 in
theorem narrow_any {n lo : Nat} {x : Ar} {va : Value} {w : World} (hx : ArIn n lo w x va) : Calls Try.prog 13 #[va] w fun e w' => (∃ r : Bool, e = .returned (.bool r)) ∧ Below w.heap.size w w' := by
  cases n with
  | zero => exact hx.elim
  | succ n =>
    obtain ⟨a1, c1, a2, c2, rfl, R, -⟩ := hx
    obtain ⟨W1, e1⟩ : ∃ W1, w.alloc (.cells #[.slice a1 x.shape.length c1, .slice a2 x.cells.length c2] 25) = W1 := ⟨_, rfl⟩
    have b1 : Below w.heap.size w W1 := by rw [← e1]; exact one_alloc _ _
    have q0 : W1.cell? ⟨w.heap.size, 0, none⟩ = some (.slice a1 x.shape.length c1) := by rw [← e1]; exact cell_new0 w _ 25 0 _ rfl
    have HB1 := hide b1
    by_cases h0 : x.shape.length = 0
    · simp only [h0] at e1 q0 ⊢
      generalize x.cells.length = CA at *
      clear R b1 h0
      go_enter Try.func13, Try.ntmps13
      go_wp2
      go_ret
      exact ⟨⟨_, rfl⟩, HB1.out⟩
    · obtain ⟨b, off, rfl, hb, hcl⟩ := row_at R (j := 0) (by omega)
      have n0 := (b1.cell (p := ⟨b, off, none⟩) hb).trans hcl
      have hb01 : ((x.shape.length : Int) == 0) = false := beq_eq_false_iff_ne.2 (by omega)
      have hSz : (0 : Int) < (x.shape.length : Int) := by omega
      generalize x.shape[0]?.getD 0 = z0 at *
      generalize x.shape.length = SA at *
      generalize x.cells.length = CA at *
      clear R b1 h0 hb hcl
      go_enter Try.func13, Try.ntmps13
      go_wp2
      go_ret
      exact ⟨⟨_, rfl⟩, HB1.out⟩
theorem chk_3121 : chkA 8 (numsA [3, 1, 2, 1]) = 0 := chk_nums _ (by decide)
theorem w_up : gradR false 0 (numsA [3, 1, 2, 1]) = (numsA [1, 3, 2, 0], 0) := by
  have h : sortL (byD false 0 (numsA [3, 1, 2, 1])) (nW (numsA [3, 1, 2, 1])) = [1, 3, 2, 0] := by decide
  unfold gradR
  rw [if_neg (by decide), if_neg (by decide), h]
theorem w_uniq : (onceR 0 (numsA [3, 1, 2, 1])).cells.length = 3 := by decide
theorem w_find : seekD 0 48 (numsA [3, 1, 2, 1]) (atomA 2) = (.mk [] (numCs 0 [2]), 0) := by
  have h : (List.range 1).map (fun i => (plcC 0 (numsA [3, 1, 2, 1]).cells (cAt (atomA 2).cells i) : Int)) = [2] := by decide
  unfold seekD seekR fndR
  rw [if_neg (by rw [chk_3121]; simp), if_neg (by rw [chk_atom]; simp), if_pos rfl, if_neg (by decide)]
  show (Ar.mk [] (numCs 0 ((List.range 1).map _)), (0 : Int)) = _
  rw [h]
theorem w_rank : gradR false 0 (atomA 2) = (zeroA, 6) := by unfold gradR; rw [if_pos (by decide)]
end Go.Proofs.Ytimkcpbgnoekcaa
namespace Go.Proofs.Ytimkcpbgnoekcaa
open Go.ChangeShapes Go.WideShapes Go.ChangeAt Go.RowKit
set_option linter.unusedVariables false
set_option maxRecDepth 100000
/-- A number of a list in memory. -/
theorem num_at {n lo : Nat} {w : World} {l : List Int} {s : List Int} {u1 u2 : Option Addr} {k1 k2 m1 m2 : Nat} (h : ArIn (n + 1) lo w (.mk s (numCs 0 l)) (.agg #[.slice u1 k1 m1, .slice u2 k2 m2])) (i : Nat) (hi : i < l.length) : ∃ b off, u2 = some ⟨b, off, none⟩ ∧ b < w.heap.size ∧ w.cell? ⟨b, off + i * 3 + 1, none⟩ = some (.int .i64 (l[i]?.getD 0)) := by
  obtain ⟨a1, c1, a2, c2, hv, -, hc⟩ := h.form
  simp only [Value.agg.injEq, Array.mk.injEq, List.cons.injEq, Value.slice.injEq, and_true] at hv
  obtain ⟨-, rfl, -⟩ := hv
  have hl : (Ar.mk s (numCs 0 l)).cells.length = l.length := numCs_len 0 l
  rcases hc with hc | ⟨b, off, ha, -, hb, hcs⟩
  · rw [hc] at hl; simp at hl; omega
  · obtain ⟨v0, v1, v2, -, e1, -, -, e, -⟩ := hcs i (by rw [hl]; exact hi)
    refine ⟨b, off, ha, hb, ?_⟩
    rw [e1, e]
    show some (Value.int .i64 (cAt (numCs 0 l) i).2.1) = _
    rw [numCs_at 0 l i hi]
set_option maxHeartbeats 8000000 in
theorem sworks_any (w : World) : Calls Try.prog 9 #[] w fun e w' => e = .returned (.bool true) ∧ Below w.heap.size w w' := by
  have R := row_new w [3, 1, 2, 1] 2 (0, 0) (by simp)
  have C0 := rnumsK_any 0 [3, 1, 2, 1] _ 4 _ R (by simp)
  have HB0 : Hid (Below w.heap.size w (w.alloc (.cells ([3, 1, 2, 1].map (Value.int .i64)).toArray 2))) := one_alloc _ _
  have HCK := hide chk_3121
  clear R
  go_enter Try.func9, Try.ntmps9
  go_wp2_with fail
  refine C0.mono ?_
  clear C0
  rintro e w2 ⟨⟨v, rfl, kc, hv⟩, hb2⟩
  obtain ⟨z1, l1, z2, l2, rfl, -, -⟩ := hv.form
  rw [show (numsA [3, 1, 2, 1]).shape.length = 1 from rfl, show (numsA [3, 1, 2, 1]).cells.length = 4 from rfl] at kc hv ⊢
  have g2 : Below w.heap.size w w2 := HB0.out.trans (hb2.mono HB0.out.size)
  obtain ⟨g3, V3⟩ := var_new g2 hv kc
  obtain ⟨B1, hB1⟩ : ∃ B1, w2.heap.size = B1 := ⟨_, rfl⟩
  obtain ⟨W3, e3⟩ : ∃ W3, w2.alloc (.cells #[.slice z1 1 l1, .slice z2 4 l2] 25) = W3 := ⟨_, rfl⟩
  rw [e3] at g3 V3
  rw [hB1] at V3
  have HE3 := hide (And.intro e3 hB1)
  have HV3 := hide V3
  have HG3 := hide g3
  have C1 := smo_12 (op := 0) V3.ar HCK.out V3.cap
  rw [w_up] at C1
  have q0 := V3.c0
  have q1 := V3.c1
  clear hv kc hb2 g2 g3 V3 e3 hB1 HB0
  go_upto_region 2 with fail
  rw [HE3.out.1, HE3.out.2]
  clear HE3
  go_wp2_with fail
  refine C1.mono ?_
  clear C1 q0 q1
  rintro e w4 ⟨⟨v, rfl, hv⟩, hb4⟩
  obtain ⟨y1, m1, y2, m2, rfl, -, -⟩ := hv.form
  simp only [show (numsA [1, 3, 2, 0]).shape.length = 1 from rfl, show (numsA [1, 3, 2, 0]).cells.length = 4 from rfl] at hv ⊢
  obtain ⟨bb, fo, rfl, hbb, d0⟩ := num_at (l := [1, 3, 2, 0]) hv 0 (by simp)
  obtain ⟨bb', fo', he, -, d1⟩ := num_at (l := [1, 3, 2, 0]) hv 1 (by simp)
  simp only [Option.some.injEq, Addr.mk.injEq, and_true] at he
  obtain ⟨rfl, rfl⟩ := he
  rw [Nat.zero_mul, Nat.add_zero] at d0
  obtain ⟨B2, hB2⟩ : ∃ B2, w4.heap.size = B2 := ⟨_, rfl⟩
  obtain ⟨W5, e5⟩ : ∃ W5, w4.alloc (.cells #[.slice y1 1 m1, .slice (some ⟨bb, fo, none⟩) 4 m2] 25) = W5 := ⟨_, rfl⟩
  have b45 : Below w4.heap.size w4 W5 := by rw [← e5]; exact one_alloc _ _
  have z5 : B2 < W5.heap.size := by rw [← e5, ← hB2]; simp
  have r2 : W5.cell? ⟨B2, 1, none⟩ = some (.slice (some ⟨bb, fo, none⟩) 4 m2) := by rw [← e5, ← hB2]; exact cell_new0 w4 _ 25 1 _ rfl
  have hb35 : Below W3.heap.size W3 W5 := hb4.trans (b45.mono hb4.size)
  have V5 := HV3.out.next hb35
  have HD5 : Hid (∀ W, Below W5.heap.size W5 W → Below w.heap.size w W ∧ W.cell? ⟨B2, 1, none⟩ = some (.slice (some ⟨bb, fo, none⟩) 4 m2) ∧ W.cell? ⟨bb, fo + 1, none⟩ = some (.int .i64 1) ∧ W.cell? ⟨bb, fo + 3 + 1, none⟩ = some (.int .i64 3)) := fun W h => by
    have hw : Below w.heap.size w W5 := HG3.out.trans (hb35.mono HG3.out.size)
    have h4 : Below w4.heap.size w4 W := b45.trans (h.mono b45.size)
    exact ⟨hw.trans (h.mono hw.size), (h.cell (p := ⟨B2, 1, none⟩) z5).trans r2, (h4.cell (p := ⟨bb, fo + 1, none⟩) hbb).trans d0, (h4.cell (p := ⟨bb, fo + 3 + 1, none⟩) hbb).trans d1⟩
  have HE5 := hide (And.intro e5 hB2)
  have HV5 := hide V5
  have C2 := smo_14 (op := 0) V5.ar HCK.out V5.cap
  have q0 := V5.c0
  have q1 := V5.c1
  clear hv hb4 hbb d0 d1 e5 hB2 b45 z5 r2 hb35 V5 HV3 HG3
  go_upto_region 3 with fail
  rw [HE5.out.1, HE5.out.2]
  clear HE5
  go_wp2_with fail
  refine C2.mono ?_
  clear C2 q0 q1
  rintro e w6 ⟨⟨v, rfl, kc, hv⟩, hb6⟩
  obtain ⟨x1, n1, x2, n2, rfl, -, -⟩ := hv.form
  rw [w_uniq] at kc hv ⊢
  generalize (onceR 0 (numsA [3, 1, 2, 1])).shape.length = SU at *
  obtain ⟨B4, hB4⟩ : ∃ B4, w6.heap.size = B4 := ⟨_, rfl⟩
  obtain ⟨W7, e7⟩ : ∃ W7, w6.alloc (.cells #[.slice x1 SU n1, .slice x2 3 n2] 25) = W7 := ⟨_, rfl⟩
  have b67 : Below w6.heap.size w6 W7 := by rw [← e7]; exact one_alloc _ _
  have z7 : B4 < W7.heap.size := by rw [← e7, ← hB4]; simp
  have r4 : W7.cell? ⟨B4, 1, none⟩ = some (.slice x2 3 n2) := by rw [← e7, ← hB4]; exact cell_new0 w6 _ 25 1 _ rfl
  have hb57 : Below W5.heap.size W5 W7 := hb6.trans (b67.mono hb6.size)
  have V7 := HV5.out.next hb57
  have HD7 : Hid (∀ W, Below W7.heap.size W7 W → (Below w.heap.size w W ∧ W.cell? ⟨B2, 1, none⟩ = some (.slice (some ⟨bb, fo, none⟩) 4 m2) ∧ W.cell? ⟨bb, fo + 1, none⟩ = some (.int .i64 1) ∧ W.cell? ⟨bb, fo + 3 + 1, none⟩ = some (.int .i64 3)) ∧ W.cell? ⟨B4, 1, none⟩ = some (.slice x2 3 n2)) := fun W h => ⟨HD5.out W (hb57.trans (h.mono hb57.size)), (h.cell (p := ⟨B4, 1, none⟩) z7).trans r4⟩
  have HE7 := hide (And.intro e7 hB4)
  have CQ : Hid (∀ W, Below W7.heap.size W7 W → Calls Try.prog 24 #[.int .i64 2] W fun e w' => (∃ y1 n1 y2 n2, e = .returned (.agg #[.slice y1 0 n1, .slice y2 1 n2]) ∧ Caps (.agg #[.slice y1 0 n1, .slice y2 1 n2]) ∧ ArIn (0 + 1) 0 w' (atomA 2) (.agg #[.slice y1 0 n1, .slice y2 1 n2])) ∧ Below W7.heap.size W7 w' ∧ Below W.heap.size W w') := fun W h => atom_at 0 2 W7 W h
  have CD : Hid (∀ W, Below W7.heap.size W7 W → ∀ (y1 : Option Addr) (n1 : Nat) (y2 : Option Addr) (n2 : Nat), Caps (.agg #[.slice y1 0 n1, .slice y2 1 n2]) → ArIn (0 + 1) 0 W (atomA 2) (.agg #[.slice y1 0 n1, .slice y2 1 n2]) → Calls Try.prog 10 #[.int .i64 48, .agg #[.slice z1 1 l1, .slice z2 4 l2], .agg #[.slice y1 0 n1, .slice y2 1 n2]] W fun e w' => (∃ z1 l1 z2 l2, e = .returned (.tuple #[.agg #[.slice z1 0 l1, .slice z2 1 l2], .int .i64 0]) ∧ Caps (.agg #[.slice z1 0 l1, .slice z2 1 l2]) ∧ ArIn (0 + 1) W.heap.size w' (Ar.mk [] (numCs 0 [2])) (.agg #[.slice z1 0 l1, .slice z2 1 l2])) ∧ Below W7.heap.size W7 w' ∧ Below W.heap.size W w') := fun W h y1 n1 y2 n2 kc hy => by
    refine (sdy_any (n := 0) (op := 48) ((V7.ar).next h) hy).mono ?_
    rw [w_find]
    rintro e w' ⟨⟨v, rfl, kv, hv⟩, hb⟩
    obtain ⟨u1, t1, u2, t2, rfl, -, -⟩ := hv.form
    exact ⟨⟨u1, t1, u2, t2, rfl, kv, hv⟩, h.trans (hb.mono h.size), hb⟩
  have KS : Hid (∀ W, Below W7.heap.size W7 W → Below W7.heap.size W7 W ∧ W.cell? ⟨B1, 0, none⟩ = some (.slice z1 1 l1) ∧ W.cell? ⟨B1, 1, none⟩ = some (.slice z2 4 l2)) := fun W h => ⟨h, (V7.next h).c0, (V7.next h).c1⟩
  clear hv kc hb6 e7 hB4 b67 z7 r4 hb57 V7 HV5 HD5
  go_upto_region 4 with fail
  rw [HE7.out.1, HE7.out.2]
  clear HE7
  go_cut [6, 7] from 22 to 27 (fun sx sy wx => ∃ B z1 l1 z2 l2, sx = .pointer (some ⟨B, 0, none⟩) ∧ sy = .int .i64 0 ∧ Below W7.heap.size W7 wx ∧ Var (0 + 1) wx B (Ar.mk [] (numCs 0 [2])) (.slice z1 0 l1) (.slice z2 1 l2))
  case first =>
    have HD0 : Hid (Below W7.heap.size W7 W7.drew) := (Below.refl _ _).drew
    have HD1 : Hid (Below W7.heap.size W7 (W7.alloc (.cells #[.slice none 0 0, .slice none 0 0] 25)).drew) := (one_alloc _ _).drew
    have HD2 : Hid (Below W7.heap.size W7 (W7.drew.alloc (.cells #[.slice none 0 0, .slice none 0 0] 25))) := (Below.refl _ _).drew.alloc (Nat.le_refl _) _
    have HAL : Hid (∀ W o, Below W7.heap.size W7 W → Below W7.heap.size W7 (W.alloc o)) := fun W o h => h.alloc h.size o
    have HSET : Hid (∀ W b u v, Below W7.heap.size W7 W → W7.heap.size ≤ b → Below W7.heap.size W7 ((W.setCell ⟨b, 0, none⟩ u).setCell ⟨b, 1, none⟩ v)) := fun W b u v h hb => (h.setCell (p := ⟨b, 0, none⟩) hb u).setCell (p := ⟨b, 1, none⟩) hb v
    have HLE : Hid (W7.heap.size ≤ W7.heap.size) := Nat.le_refl _
    go_region_held3 (fun W => Below W7.heap.size W7 W ∧ W.cell? ⟨B1, 0, none⟩ = some (.slice z1 1 l1) ∧ W.cell? ⟨B1, 1, none⟩ = some (.slice z2 4 l2))
      (first | with_reducible exact KS.out _ HD0.out | with_reducible exact KS.out _ HD1.out | with_reducible exact KS.out _ HD2.out | with_reducible exact KS.out _ (by with_reducible assumption) | with_reducible exact KS.out _ (HAL.out _ _ (by with_reducible assumption)) | with_reducible exact KS.out _ (HSET.out _ _ _ _ (by with_reducible assumption) (by with_reducible assumption)) | with_reducible exact KS.out _ (HSET.out _ _ _ _ (by with_reducible assumption) HLE.out))
      (first
        | (go_at_call 24; first
            | ((with_reducible refine (CQ.out _ HD0.out).mono ?_); rintro e w4 ⟨⟨y1, n1, y2, n2, rfl, kc, hy⟩, g4, hb4⟩; have s4 := g4.size; clear hb4)
            | ((with_reducible refine (CQ.out _ HD1.out).mono ?_); rintro e w4 ⟨⟨y1, n1, y2, n2, rfl, kc, hy⟩, g4, hb4⟩; have t4 := (Zb.new W7).drew.next hb4; clear hb4)
            | ((with_reducible refine (CQ.out _ HD2.out).mono ?_); rintro e w4 ⟨⟨y1, n1, y2, n2, rfl, kc, hy⟩, g4, hb4⟩; have t4 := (Zb.new W7.drew).next hb4; clear hb4))
        | (go_at_call 10; first
            | ((with_reducible refine (CD.out w4 g4 y1 n1 y2 n2 kc hy).mono ?_); rintro e w5 ⟨⟨z1, l1, z2, l2, rfl, hc, hz⟩, g5, hb5⟩; first | (obtain ⟨k0, k1, k2, k3, -⟩ := t4.next hb5) | skip)
            | ((with_reducible refine (CD.out (w4.alloc (.cells #[.slice none 0 0, .slice none 0 0] 25)) (g4.alloc g4.size _) y1 n1 y2 n2 kc (hy.next (one_alloc _ _))).mono ?_); rintro e w5 ⟨⟨z1, l1, z2, l2, rfl, hc, hz⟩, g5, hb5⟩; obtain ⟨k0, k1, k2, k3, -⟩ := (Zb.new w4).next hb5)))
    all_goals
      go_wp2
      go_meet
    all_goals
      case rel =>
        first
          | exact ⟨_, _, _, _, _, rfl, rfl, var_new g5 hz hc⟩
          | exact ⟨_, _, _, _, _, rfl, rfl, var_old (Zb.new w4) g4.size g5 hb5 hz hc⟩
          | exact ⟨_, _, _, _, _, rfl, rfl, var_old t4 (Nat.le_refl _) g5 hb5 hz hc⟩
  case rest =>
  obtain ⟨B6, s1, t1, s2, t2, rfl, rfl, g8, V8⟩ := hcut
  clear CQ CD KS
  obtain ⟨bd, fd, rfl, hbd, d2⟩ := num_at (l := [2]) V8.ar 0 (by simp)
  rw [Nat.zero_mul, Nat.add_zero] at d2
  have r6 := V8.c1
  have l6 := V8.lt
  obtain ⟨W8, hW8⟩ : ∃ W8, W8 = wc := ⟨_, rfl⟩
  rw [← hW8] at g8 d2 hbd r6 l6 ⊢
  have HD8 : Hid (∀ W, Below W8.heap.size W8 W → ((Below w.heap.size w W ∧ W.cell? ⟨B2, 1, none⟩ = some (.slice (some ⟨bb, fo, none⟩) 4 m2) ∧ W.cell? ⟨bb, fo + 1, none⟩ = some (.int .i64 1) ∧ W.cell? ⟨bb, fo + 3 + 1, none⟩ = some (.int .i64 3)) ∧ W.cell? ⟨B4, 1, none⟩ = some (.slice x2 3 n2)) ∧ W.cell? ⟨B6, 1, none⟩ = some (.slice (some ⟨bd, fd, none⟩) 1 t2) ∧ W.cell? ⟨bd, fd + 1, none⟩ = some (.int .i64 2)) := fun W h => ⟨HD7.out W (g8.trans (h.mono g8.size)), (h.cell (p := ⟨B6, 1, none⟩) l6).trans r6, (h.cell (p := ⟨bd, fd + 1, none⟩) hbd).trans d2⟩
  have C5 := ratomK_any 0 2 W8
  clear g8 V8 hbd d2 r6 l6 HD7 hW8
  go_wp2_with fail
  refine C5.mono ?_
  clear C5
  rintro e w9 ⟨⟨v, rfl, kc, hv⟩, hb9⟩
  have C6 := smo_12 (op := 0) hv (chk_atom 2) kc
  rw [w_rank] at C6
  have HB9 := hide hb9
  clear hv kc hb9
  go_wp2_with fail
  refine C6.mono ?_
  clear C6
  rintro e w10 ⟨⟨v, rfl, hv⟩, hb10⟩
  obtain ⟨q1, j1, q2, j2, rfl, -, -⟩ := hv.form
  have hb8 : Below W8.heap.size W8 w10 := HB9.out.trans (hb10.mono HB9.out.size)
  generalize zeroA.shape.length = SZ at *
  generalize zeroA.cells.length = CZ at *
  obtain ⟨W11, e11⟩ : ∃ W11, w10.alloc (.cells #[.slice q1 SZ j1, .slice q2 CZ j2] 25) = W11 := ⟨_, rfl⟩
  have hb11 : Below W8.heap.size W8 W11 := by rw [← e11]; exact hb8.alloc hb8.size _
  obtain ⟨⟨⟨hw, i0, i1, i2⟩, i3⟩, i4, i5⟩ := HD8.out W11 hb11
  have HE11 := hide e11
  have HFW := hide hw
  clear hv hb10 HB9 hb8 e11 hb11 HD8 hw
  go_upto_region 6 with fail
  rw [HE11.out]
  clear HE11
  go_wp2
  go_ret
  exact ⟨rfl, HFW.out⟩
end Go.Proofs.Ytimkcpbgnoekcaa
namespace Go.Proofs.Ytimkcpbgnoekcaa
open Go.ChangeShapes Go.WideShapes Go.ChangeAt Go.RowKit Go.Deep
set_option linter.unusedVariables false
set_option maxRecDepth 100000
theorem arr_caps {H : Type} {enc : TypeId × Value → H} {W : World} {sp : Nat → Bool} {held : Bool} {d : DataW H} {c0 c1 : Value} {p : List MemPlace} (h : DataW.Trod enc Try.prog W 0 sp held 25 (.agg #[c0, c1]) d p) : Caps (.agg #[c0, c1]) := by
  obtain ⟨fuel, h⟩ := h
  obtain ⟨y0, y1, m, hx, hl, h0, h1⟩ := trod_struct2 Try.underlying25 h
  have hcs : (Value.agg #[c0, c1]).cells.toList = [c0, c1] := rfl
  rw [hcs] at h0 h1
  simp only [cells22, cells23, List.drop_zero, List.take_succ_cons, List.take_zero, List.drop_succ_cons] at h0 h1
  obtain ⟨a1, n1, k1, rfl, hk1⟩ : ∃ a1 n1 k1, c0 = .slice a1 n1 k1 ∧ n1 ≤ k1 := by
    rcases open_ints Try.underlying22 Try.underlying3 cells3 h0 with ⟨hcs, hx⟩ | ⟨a, l, c, zs, hcs, _, hlc, hm, hz, hx, hcell, hwz⟩
    · simp only [List.cons.injEq, and_true] at hcs
      exact ⟨none, 0, 0, hcs, Nat.le_refl _⟩
    · simp only [List.cons.injEq, and_true] at hcs
      exact ⟨_, _, _, hcs, hlc⟩
  obtain ⟨a2, n2, k2, rfl, hk2⟩ : ∃ a2 n2 k2, c1 = .slice a2 n2 k2 ∧ n2 ≤ k2 := by
    rcases open_slice Try.underlying23 h1 with ⟨hcs, hx⟩ | ⟨a, len, cap, mm, n, D, Pl, hcs, _, hlc, hm, hmm, hx, hel⟩
    · simp only [List.cons.injEq, and_true] at hcs
      exact ⟨none, 0, 0, hcs, Nat.le_refl _⟩
    · simp only [List.cons.injEq, and_true] at hcs
      exact ⟨_, _, _, hcs, hlc⟩
  exact ⟨a1, n1, k1, a2, n2, k2, rfl, hk1, hk2⟩
end Go.Proofs.Ytimkcpbgnoekcaa
namespace Go.Proofs.Ytimkcpbgnoekcaa
open Go.ChangeShapes Go.WideShapes Go.ChangeAt Go.RowKit Go.Deep
set_option linter.unusedVariables false
set_option maxRecDepth 100000
theorem agg_two {v c0 c1 : Value} (h : v.cells.toList = [c0, c1]) : v = .agg #[c0, c1] := by
  cases v with
  | agg cs =>
    obtain ⟨l⟩ := cs
    simp [Value.cells] at h
    rw [h]
  | _ => simp [Value.cells] at h
end Go.Proofs.Ytimkcpbgnoekcaa
namespace Go.Proofs.Ytimkcpbgnoekcaa
open Go.ChangeShapes Go.WideShapes Go.ChangeAt Go.RowKit
set_option linter.unusedVariables false
set_option maxRecDepth 100000
theorem lkL_step (x : Ar) (c : Nat) : (List.range (c + 1)).map (fun i => (cAt x.cells i).2.1) = (List.range c).map (fun i => (cAt x.cells i).2.1) ++ [(cAt x.cells c).2.1] := by simp [List.range_succ]
theorem lookR_rank {x y : Ar} (h : y.shape.length = 0 ∨ 9 < x.shape.length + y.shape.length) : lookR x y = (zeroA, 6) := if_pos h
theorem lookR_up {x y : Ar} {E : Int} (h : ¬ (y.shape.length = 0 ∨ 9 < x.shape.length + y.shape.length)) (hE : firstUp (lkF x y) x.cells.length = E) (hn : ¬ E = 0) : lookR x y = (zeroA, E) := by
  unfold lookR; rw [if_neg h, hE, if_pos hn]
theorem lookR_size {x y : Ar} (h : ¬ (y.shape.length = 0 ∨ 9 < x.shape.length + y.shape.length)) (hE : firstUp (lkF x y) x.cells.length = 0) (hn : ¬ sizeE (x.shape ++ y.shape.tail) = 0) : lookR x y = (zeroA, sizeE (x.shape ++ y.shape.tail)) := by
  unfold lookR; rw [if_neg h, hE, if_neg (by simp), if_pos hn]
theorem lookR_ok {x y : Ar} {m : Nat} (hx : chkA 8 x = 0) (hy : chkA 8 y = 0) (h : ¬ (y.shape.length = 0 ∨ 9 < x.shape.length + y.shape.length)) (hE : firstUp (lkF x y) x.cells.length = 0) (hs : sizeE (x.shape ++ y.shape.tail) = 0) (hm : sizeV y.shape.tail = (m : Int)) : lookR x y = (.mk (x.shape ++ y.shape.tail) (itmsA y m (lkL x) 0 0).cells, 0) ∧ (∀ i, i < (lkL x).length → 0 ≤ gI (lkL x) i ∧ gI (lkL x) i < gI y.shape 0) ∧ sizeE (((lkL x).length : Int) :: y.shape.tail) = 0 := by
  have hin : ∀ i, i < (lkL x).length → 0 ≤ gI (lkL x) i ∧ gI (lkL x) i < gI y.shape 0 := fun i hi => by
    rw [lkL_len] at hi
    have h0 := firstUp_none hE i hi
    rw [lkL_at x i hi]
    unfold lkF at h0
    by_cases h1 : (cAt x.cells i).1 = 0
    · rw [if_neg (by simp [h1])] at h0
      by_cases h2 : (cAt x.cells i).2.1 < 0 ∨ gI y.shape 0 ≤ (cAt x.cells i).2.1
      · rw [if_pos h2] at h0; omega
      · omega
    · rw [if_pos h1] at h0; omega
  have hS : 0 < y.shape.length := by omega
  have hsz : sizeE (((lkL x).length : Int) :: y.shape.tail) = 0 := by
    have := look_size hx hy hS hs
    rw [lkL_len]
    cases hsh : y.shape with
    | nil => rw [hsh] at hS; simp at hS
    | cons d t => rw [hsh] at this; exact this
  refine ⟨?_, hin, hsz⟩
  rw [items_along (D := 0) hS hm (fun i hi => (hin i hi).1) hsz 0 0]
  unfold lookR
  rw [if_neg h, hE, if_neg (by simp), if_neg (by rw [hs]; simp)]
end Go.Proofs.Ytimkcpbgnoekcaa
namespace Go.Proofs.Ytimkcpbgnoekcaa
open Go.ChangeShapes Go.WideShapes Go.ChangeAt Go.RowKit
set_option linter.unusedVariables false
set_option maxRecDepth 100000
theorem lstA_id {y : Ar} (hS : 0 < y.shape.length) : lstA y = y := by unfold lstA; rw [if_neg (by omega)]
end Go.Proofs.Ytimkcpbgnoekcaa
namespace Go.Proofs.Ytimkcpbgnoekcaa
set_option linter.unusedVariables false
set_option maxRecDepth 100000
theorem ce_ext {l m : List Ce} (h : l.length = m.length) (he : ∀ i, i < l.length → cAt l i = cAt m i) : l = m := by
  refine List.ext_getElem h fun i h1 h2 => ?_
  have := he i h1
  unfold cAt at this
  rw [List.getElem?_eq_getElem h1, List.getElem?_eq_getElem h2, Option.getD_some, Option.getD_some] at this
  exact this
theorem cAt_part (cs : List Ce) (a m q : Nat) (h : a + m ≤ cs.length) (hq : q < m) : cAt ((cs.drop a).take m) q = cAt cs (a + q) := by
  unfold cAt
  rw [List.getElem?_take, if_pos hq, List.getElem?_drop]
theorem items_wid (y : Ar) (wh : List Int) : mW (itmsA y (mW y) wh 0 0) = mW y ∧ nW (itmsA y (mW y) wh 0 0) = wh.length ∧ (itmsA y (mW y) wh 0 0).cells.length = wh.length * mW y ∧ 0 < (itmsA y (mW y) wh 0 0).shape.length := by
  refine ⟨rfl, by simp [nW, itmsA, Ar.shape, gI], ?_, by simp [itmsA, Ar.shape]⟩
  show (mkCs _ _).length = _
  rw [mkCs_len]
theorem item_items {y : Ar} (hy : chkA 8 y = 0) (hS : 0 < y.shape.length) {wh : List Int} (hw : ∀ t, t < wh.length → 0 ≤ gI wh t ∧ gI wh t < (nW y : Int)) {t : Nat} (ht : t < wh.length) : itemAt (itmsA y (mW y) wh 0 0) t (mW y) = itemAt y (gI wh t).toNat (mW y) := by
  obtain ⟨h1, h2⟩ := hw t ht
  have hlt : (gI wh t).toNat < nW y := by omega
  obtain ⟨l1, l2, -⟩ := item_len hy hS hlt
  have hcl := (items_wid y wh).2.2.1
  have htm : t * mW y + mW y ≤ wh.length * mW y := by
    have := Nat.mul_le_mul_right (mW y) (show t + 1 ≤ wh.length from ht)
    rw [Nat.succ_mul] at this
    exact this
  unfold itemAt
  have e : (itmsA y (mW y) wh 0 0).shape.tail = y.shape.tail := rfl
  rw [e]
  congr 1
  refine ce_ext ?_ fun q hq => ?_
  · rw [List.length_take, List.length_drop, List.length_take, List.length_drop, hcl]; omega
  · have hq' : q < mW y := by rw [List.length_take] at hq; omega
    rw [cAt_part _ _ _ _ (by rw [hcl]; exact htm) hq', cAt_part _ _ _ _ l1 hq']
    show cAt (mkCs _ _) _ = _
    rw [mkCs_at _ _ _ (by omega)]
    unfold itC
    rw [(div_at hq').1, (div_at hq').2, if_pos h1]
theorem items_all {y : Ar} (hy : chkA 8 y = 0) (hS : 0 < y.shape.length) {wh : List Int} (hl : wh.length = nW y) (hw : ∀ t, t < nW y → gI wh t = (t : Int)) : itmsA y (mW y) wh 0 0 = y := by
  obtain ⟨e1, e2, e3, e4, e5⟩ := wid hy hS
  have hcl := (items_wid y wh).2.2.1
  obtain ⟨s, cs⟩ := y
  have es : (Ar.mk s cs).shape = s := rfl
  obtain ⟨d, t, hdt⟩ : ∃ d t, s = d :: t := by
    cases s with
    | nil => simp [Ar.shape] at hS
    | cons d t => exact ⟨d, t, rfl⟩
  have hd : d = ((nW (.mk s cs) : Nat) : Int) := by rw [← e1, es, hdt]; rfl
  have hc : (itmsA (.mk s cs) (mW (.mk s cs)) wh 0 0).cells = cs := by
    refine ce_ext (by rw [hcl, hl]; exact e3) fun i hi => ?_
    rw [hcl] at hi
    show cAt (mkCs _ _) i = _
    rw [mkCs_at _ _ _ hi]
    have hm0 : 0 < mW (.mk s cs) := by
      rcases Nat.eq_zero_or_pos (mW (.mk s cs)) with h | h
      · rw [h] at hi; simp at hi
      · exact h
    have hdl : i / mW (.mk s cs) < wh.length := Nat.div_lt_of_lt_mul (by rw [Nat.mul_comm]; exact hi)
    unfold itC
    rw [hw _ (by rw [← hl]; exact hdl), if_pos (Int.natCast_nonneg _), Int.toNat_natCast]
    show cAt cs _ = _
    congr 1
    have := Nat.div_add_mod i (mW (.mk s cs))
    rw [Nat.mul_comm]
    exact this
  have hsh : (itmsA (.mk s cs) (mW (.mk s cs)) wh 0 0).shape = s := by
    show ((wh.length : Int) :: (Ar.mk s cs).shape.tail) = s
    rw [es, hl, ← hd, hdt]
    rfl
  have : itmsA (.mk s cs) (mW (.mk s cs)) wh 0 0 = .mk (itmsA (.mk s cs) (mW (.mk s cs)) wh 0 0).shape (itmsA (.mk s cs) (mW (.mk s cs)) wh 0 0).cells := rfl
  rw [this, hc, hsh]
theorem fstL_true {p : Nat → Bool} {m : Nat} (h : ∀ i, i < m → p i = true) : fstL p m = (List.range m).map fun i : Nat => (i : Int) := by
  induction m with
  | zero => rfl
  | succ m ih =>
    simp only [fstL]
    rw [if_pos (h m (by omega)), ih fun i hi => h i (by omega), List.range_succ, List.map_append]
    rfl
theorem byI_items {n : Nat} {y : Ar} (hy : chkA 8 y = 0) (hS : 0 < y.shape.length) {wh : List Int} (hw : ∀ t, t < wh.length → 0 ≤ gI wh t ∧ gI wh t < (nW y : Int)) (hU : chkA 8 (itmsA y (mW y) wh 0 0) = 0) {s t : Nat} (hs : s < wh.length) (ht : t < wh.length) : byI n (itmsA y (mW y) wh 0 0).cells (mW y) (s : Int) (t : Int) = byI n y.cells (mW y) (gI wh s) (gI wh t) := by
  obtain ⟨a1, a2, a3, a4⟩ := items_wid y wh
  have e := same_byI (n := n) hU a4 (i := s) (k := t) (by rw [a2]; exact hs) (by rw [a2]; exact ht)
  rw [a1, item_items hy hS hw hs, item_items hy hS hw ht, same_byI hy hS (by have := hw s hs; omega) (by have := hw t ht; omega)] at e
  rw [← e, Int.toNat_of_nonneg (hw s hs).1, Int.toNat_of_nonneg (hw t ht).1]
theorem fst_uniq {c : Int → Int → Int} (F : Ord c) {j k : Nat} (hj : fstB c j = true) (hk : fstB c k = true) (h : c (j : Int) (k : Int) = 0) : j = k := by
  unfold fstB at hj hk
  rw [decide_eq_true_eq] at hj hk
  rcases Nat.lt_trichotomy j k with h1 | h1 | h1
  · exact absurd h (hk j h1)
  · exact h1
  · exact absurd (by have := F.anti (j : Int) (k : Int); omega) (hj k h1)
theorem fstL_inc (p : Nat → Bool) (m : Nat) : ∀ s t, s < t → t < (fstL p m).length → gI (fstL p m) s < gI (fstL p m) t := by
  induction m with
  | zero => intro s t _ h; simp [fstL] at h
  | succ m ih =>
    intro s t hst ht
    simp only [fstL] at ht ⊢
    split at ht
    · rename_i hp
      rw [if_pos hp]
      rw [List.length_append, List.length_singleton] at ht
      have e : ∀ u, u < (fstL p m).length → gI (fstL p m ++ [(m : Int)]) u = gI (fstL p m) u := fun u hu => by
        unfold gI; rw [List.getElem?_append_left hu]
      by_cases h : t = (fstL p m).length
      · rw [e s (by omega)]
        obtain ⟨j, hj, e2, -⟩ := fstL_at p (m := m) (t := s) (by omega)
        rw [e2]
        have : gI (fstL p m ++ [(m : Int)]) t = (m : Int) := by unfold gI; rw [h, List.getElem?_append_right (Nat.le_refl _)]; simp
        rw [this]
        omega
      · rw [e s (by omega), e t (by omega)]
        exact ih s t hst (by omega)
    · rename_i hp
      rw [if_neg hp]
      exact ih s t hst ht
/-- Once more nothing goes. -/
theorem once_once {n : Nat} {y : Ar} (hy : chkA 8 y = 0) (hS : 0 < y.shape.length) : onceR n (onceR n y) = onceR n y := by
  have hly : lstA y = y := lstA_id hS
  have hU := onceR_chk (n := n) hy
  unfold onceR at hU ⊢
  rw [hly] at hU ⊢
  obtain ⟨a1, a2, a3, a4⟩ := items_wid y (onceW n y)
  rw [lstA_id a4]
  refine items_all hU a4 ?_ ?_
  · have : onceW n (itmsA y (mW y) (onceW n y) 0 0) = (List.range (nW (itmsA y (mW y) (onceW n y) 0 0))).map fun i : Nat => (i : Int) := by
      show fstL _ _ = _
      refine fstL_true fun i hi => ?_
      rw [a2] at hi
      unfold fstB
      rw [decide_eq_true_eq, a1]
      intro j hj hz
      rw [byI_items hy hS (fun t ht => onceW_at n y ht) hU (by omega) hi] at hz
      obtain ⟨j', hj1, e1, f1⟩ := fstL_at _ (show j < (fstL (fstB (byI n y.cells (mW y))) (nW y)).length from by have : i < (onceW n y).length := hi; unfold onceW at this; omega)
      obtain ⟨i', hi1, e2, f2⟩ := fstL_at _ (show i < (fstL (fstB (byI n y.cells (mW y))) (nW y)).length from hi)
      have e1' : gI (onceW n y) j = (j' : Int) := e1
      have e2' : gI (onceW n y) i = (i' : Int) := e2
      rw [e1', e2'] at hz
      have := fst_uniq (byI_full n y.cells (mW y)) f1 f2 hz
      have hinc := fstL_inc (fstB (byI n y.cells (mW y))) (nW y) j i hj hi
      have hinc' : gI (onceW n y) j < gI (onceW n y) i := hinc
      omega
    rw [this, List.length_map, List.length_range]
  · intro t ht
    have : onceW n (itmsA y (mW y) (onceW n y) 0 0) = (List.range (nW (itmsA y (mW y) (onceW n y) 0 0))).map fun i : Nat => (i : Int) := by
      show fstL _ _ = _
      refine fstL_true fun i hi => ?_
      rw [a2] at hi
      unfold fstB
      rw [decide_eq_true_eq, a1]
      intro j hj hz
      rw [byI_items hy hS (fun t ht => onceW_at n y ht) hU (by omega) hi] at hz
      obtain ⟨j', hj1, e1, f1⟩ := fstL_at _ (show j < (fstL (fstB (byI n y.cells (mW y))) (nW y)).length from by have : i < (onceW n y).length := hi; unfold onceW at this; omega)
      obtain ⟨i', hi1, e2, f2⟩ := fstL_at _ (show i < (fstL (fstB (byI n y.cells (mW y))) (nW y)).length from hi)
      have e1' : gI (onceW n y) j = (j' : Int) := e1
      have e2' : gI (onceW n y) i = (i' : Int) := e2
      rw [e1', e2'] at hz
      have := fst_uniq (byI_full n y.cells (mW y)) f1 f2 hz
      have hinc := fstL_inc (fstB (byI n y.cells (mW y))) (nW y) j i hj hi
      have hinc' : gI (onceW n y) j < gI (onceW n y) i := hinc
      omega
    rw [this]
    unfold gI
    simp [ht]
theorem countP_one {p : Nat → Bool} {m k : Nat} (hk : k < m) (hp : p k = true) (hu : ∀ j, j < m → p j = true → j = k) : (List.range m).countP p = 1 := by
  induction m with
  | zero => omega
  | succ m ih =>
    rw [countP_step]
    by_cases h : k = m
    · have h0 : (List.range m).countP p = 0 := by
        rw [List.countP_eq_zero]
        intro j hj hpj
        have hj : j < m := by simpa using hj
        have := hu j (by omega) hpj
        omega
      rw [h0, ← h, if_pos hp]
    · have hm : ¬ p m = true := fun hpm => h (hu m (by omega) hpm).symm
      rw [if_neg hm, ih (by omega) fun j hj hpj => hu j (by omega) hpj]
/-- Each item is just once among those that are each once. -/
theorem once_count {n : Nat} {y : Ar} {i : Nat} (hi : i < nW y) : (List.range (onceW n y).length).countP (fun k => decide (byI n y.cells (mW y) (i : Int) (gI (onceW n y) k) = 0)) = 1 := by
  have F := byI_full n y.cells (mW y)
  obtain ⟨k, h1, h2, h3⟩ := first_of F i i (Nat.le_refl _) (F.self _)
  obtain ⟨t, ht, e⟩ := mem_gI ((fstL_mem (fstB (byI n y.cells (mW y))) (nW y) (k : Int)).2 ⟨k, by omega, rfl, h3⟩)
  have e' : gI (onceW n y) t = (k : Int) := e
  refine countP_one (k := t) ht ?_ fun j hj hp => ?_
  · rw [decide_eq_true_eq, e']
    have := F.anti (k : Int) (i : Int)
    omega
  · rw [decide_eq_true_eq] at hp
    obtain ⟨j', hj1, e1, f1⟩ := fstL_at _ (show j < (fstL (fstB (byI n y.cells (mW y))) (nW y)).length from hj)
    have e1' : gI (onceW n y) j = (j' : Int) := e1
    rw [e1'] at hp
    have hz : byI n y.cells (mW y) (j' : Int) (k : Int) = 0 := by
      have a := F.anti (i : Int) (j' : Int)
      have b : byI n y.cells (mW y) (j' : Int) (i : Int) = 0 := by omega
      rw [F.alike b]
      have := F.anti (k : Int) (i : Int)
      omega
    have hjk := fst_uniq F f1 h3 hz
    rcases Nat.lt_trichotomy j t with h4 | h4 | h4
    · have : gI (onceW n y) j < gI (onceW n y) t := fstL_inc _ _ j t h4 ht
      omega
    · exact h4
    · have : gI (onceW n y) t < gI (onceW n y) j := fstL_inc _ _ t j h4 hj
      omega
/-- Items looked up by their order. -/
theorem look_sort {x : Ar} (hx : chkA 8 x = 0) (hS : 0 < x.shape.length) {g : Nat → Int} (hg : ∀ s, s < nW x → 0 ≤ g s ∧ g s < (nW x : Int)) : lookR (numsA ((List.range (nW x)).map g)) x = (itmsA x (mW x) ((List.range (nW x)).map g) 0 0, 0) := by
  obtain ⟨e1, e2, e3, e4, e5⟩ := wid hx hS
  have hL : ((List.range (nW x)).map g).length = nW x := by simp
  have hgI : ∀ s, s < nW x → gI ((List.range (nW x)).map g) s = g s := fun s hs => by unfold gI; simp [hs]
  have hcs : (numsA ((List.range (nW x)).map g)).cells.length = nW x := by show (numCs 0 _).length = _; rw [numCs_len, hL]
  have hca : ∀ i, i < nW x → cAt (numsA ((List.range (nW x)).map g)).cells i = (0, g i, []) := fun i hi => by
    show cAt (numCs 0 _) i = _
    rw [numCs_at 0 _ i (by rw [hL]; exact hi)]
    simp [hi]
  have hlk : lkL (numsA ((List.range (nW x)).map g)) = (List.range (nW x)).map g := by
    unfold lkL
    rw [hcs]
    refine List.map_congr_left fun i hi => ?_
    rw [hca i (by simpa using hi)]
  have hchk := chk_nums ((List.range (nW x)).map g) (by rw [hL]; exact e4)
  obtain ⟨d, t, hdt⟩ : ∃ d t, x.shape = d :: t := by
    cases h : x.shape with
    | nil => rw [h] at hS; simp at hS
    | cons d t => exact ⟨d, t, rfl⟩
  have hd : d = (nW x : Int) := by rw [← e1, hdt]; rfl
  have hsh : (numsA ((List.range (nW x)).map g)).shape ++ x.shape.tail = x.shape := by
    show [(((List.range (nW x)).map g).length : Int)] ++ x.shape.tail = x.shape
    rw [hL, hdt, hd]
    rfl
  have l8 := (chk_len hx).1
  obtain ⟨h1, -, -⟩ := lookR_ok (m := mW x) hchk hx (by
      show ¬ (x.shape.length = 0 ∨ 9 < 1 + x.shape.length)
      omega) (by
      refine firstUp_all fun i hi => ?_
      rw [hcs] at hi
      unfold lkF
      rw [hca i hi]
      have := hg i hi
      rw [if_neg (by simp), if_neg (by rw [e1]; show ¬ (g i < 0 ∨ (nW x : Int) ≤ g i); omega)]) (by rw [hsh]; exact ((chkA_iff 8 x).1 hx).1) e2
  rw [h1, hlk]
  have : itmsA x (mW x) ((List.range (nW x)).map g) 0 0 = .mk (((((List.range (nW x)).map g).length : Nat) : Int) :: x.shape.tail) (itmsA x (mW x) ((List.range (nW x)).map g) 0 0).cells := rfl
  rw [this]
  rfl
end Go.Proofs.Ytimkcpbgnoekcaa
namespace Go.Proofs.Ytimkcpbgnoekcaa
open Go.ChangeShapes Go.WideShapes Go.ChangeAt Go.RowKit
set_option linter.unusedVariables false
set_option maxRecDepth 100000
set_option maxHeartbeats 8000000 in
theorem ritemsK {n lo lo' m : Nat} {x : Ar} {va : Value} {wh : List Int} {aw : Option Addr} {cw : Nat} {w0 w : World} (fk fN : Int) (hx : ArIn (n + 1) lo w0 x va) (hb0 : Below w0.heap.size w0 w) (Rw : Row lo' w aw wh) (hs : 0 < x.shape.length) (h8 : x.shape.length ≤ 8) (hE : sizeV x.shape.tail = (m : Int)) (hc16 : x.cells.length ≤ 16384) (hcap : Caps va) (hL : wh.length ≤ 16384) (hLm : wh.length * m ≤ 16384) (hm16 : m ≤ 16384)
    (hj : ∀ t, t < wh.length → 0 ≤ gI wh t → (gI wh t).toNat * m + m ≤ x.cells.length ∧ (gI wh t).toNat ≤ 16384) :
    Calls Try.prog 34 #[va, .slice aw wh.length cw, .agg #[.int .i64 fk, .int .i64 fN, .slice none 0 0]] w fun e w' => GivesK (n + 1) w0 (itmsA x m wh fk fN) w e w' := by
  obtain ⟨a1, c1, a2, c2, rfl, R, hc⟩ := hx.form
  obtain ⟨hc1, hc2⟩ := caps_form hcap
  obtain ⟨i3, hi3, hz30, hz31, hz32⟩ := infoI3
  obtain ⟨i0, hi0, hz00, hz01, hz02⟩ := info33'
  obtain ⟨ab, cb, hcf⟩ := cells_fn hc
  have I := inF_new w (.slice a1 x.shape.length c1) (.slice a2 x.cells.length c2) fk fN
  obtain ⟨W3, e3⟩ : ∃ W3, ((w.alloc (.cells #[.slice a1 x.shape.length c1, .slice a2 x.cells.length c2] 25)).alloc (.cells #[.int .i64 fk, .int .i64 fN, .slice none 0 0] 39)).alloc (.cells #[.slice none 0 0, .slice none 0 0] 25) = W3 := ⟨_, rfl⟩
  rw [e3] at I
  have z3 : W3.heap.size = w.heap.size + 3 := by rw [← e3]; simp
  obtain ⟨B, hB⟩ : ∃ B, W3.heap.size = B := ⟨_, rfl⟩
  obtain ⟨L, hLL⟩ : ∃ L, wh.length = L := ⟨_, rfl⟩
  obtain ⟨W5, e5⟩ : ∃ W5, (W3.alloc (.cells #[.int .i64 (L : Int)] 3)).alloc (.cells #[.slice (some ⟨B, 0, none⟩) 1 1, .slice none 0 0] 25) = W5 := ⟨_, rfl⟩
  have z4 : (W3.alloc (.cells #[.int .i64 (L : Int)] 3)).heap.size = B + 1 := by simp [hB]
  have z5 : W5.heap.size = B + 2 := by rw [← e5]; simp [hB]
  have B5 : Below W3.heap.size W3 W5 := by rw [← e5]; exact (two_allocs W3 _ _)
  have I5 := I.next B5
  have o0 : W5.cell? ⟨B + 1, 0, none⟩ = some (.slice (some ⟨B, 0, none⟩) 1 1) := by rw [← e5, ← z4]; exact cell_new0 _ _ 25 0 _ rfl
  have o1 : W5.cell? ⟨B + 1, 1, none⟩ = some (.slice none 0 0) := by rw [← e5, ← z4]; exact cell_new0 _ _ 25 1 _ rfl
  have of0 : W5.frozen? ⟨B + 1, 0, none⟩ = false := by rw [← e5, ← z4]; exact frozen_new _ _ 25 0
  have of1 : W5.frozen? ⟨B + 1, 1, none⟩ = false := by rw [← e5, ← z4]; exact frozen_new _ _ 25 1
  have ob : W5.heap[B + 1]? = some (.cells #[.slice (some ⟨B, 0, none⟩) 1 1, .slice none 0 0] 25) := by rw [← e5, ← z4]; exact heap_top _ _
  have ow : W5.ownsRow B 3 1 (.slice (some ⟨B, 0, none⟩) 1 1) 1 [.int .i64 (L : Int)] := by
    refine ⟨rfl, Or.inr ⟨B, 1, #[.int .i64 (L : Int)], rfl, Nat.le_refl _, ?_, Nat.le_refl _, by unfold maxLen; omega, rfl, rfl⟩⟩
    rw [← e5, ← hB]
    exact ((one_alloc (W3.alloc (.cells #[.int .i64 (L : Int)] 3)) _).block W3.heap.size (by rw [z4]; omega)).trans (heap_top _ _)
  have HP1 := hide fun W => part_l (P := Try.prog) Try.underlying22 size3 a1 x.shape.length c1 1 1 rfl hs W
  have hp1 := HP1.out
  have ht : ((x.shape.drop 1).take (x.shape.length - 1)) = x.shape.tail := by rw [List.take_of_length_le (by rw [List.length_drop]; omega), List.drop_one]
  have RT : Row lo w0 (subA a1 1 c1 1) x.shape.tail := by have := R.part 1 c1 (x.shape.length - 1) (by omega) hc1; rw [ht] at this; exact this
  have tl : x.shape.tail.length = x.shape.length - 1 := by rw [List.length_tail]
  have HR := hide RT
  have HX := hide hx
  have HCF : Hid (CellsFn n lo w0 x.cells a2 ab cb) := hcf
  have HB0 := hide hb0
  have HRW := hide Rw
  have HJ := hide hj
  have HK := hide (And.intro hs (And.intro h8 (And.intro hc16 (And.intro hc1 hc2))))
  have HE := hide hE
  have HLL := hide hLL
  have HI5 := hide I5
  have HZ := hide (And.intro z3 (And.intro hB z5))
  have HE5 := hide e5
  have HOW := hide (And.intro ow ob)
  obtain ⟨SA, hSA⟩ : ∃ SA, x.shape.length = SA := ⟨_, rfl⟩
  obtain ⟨CA, hCA⟩ : ∃ CA, x.cells.length = CA := ⟨_, rfl⟩
  have HSC := hide (And.intro hSA hCA)
  obtain ⟨SM, hSM⟩ : ∃ SM, SA - 1 = SM := ⟨_, rfl⟩
  have HTL : Hid (x.shape.tail.length = SM) := by unfold Hid; rw [tl, hSA, hSM]
  obtain ⟨at', hat⟩ : ∃ at', subA a1 1 c1 1 = at' := ⟨_, rfl⟩
  obtain ⟨ct, hct⟩ : ∃ ct, c1 - 1 = ct := ⟨_, rfl⟩
  simp only [hSA, hCA, hLL] at e3 HI5 hp1 hL hLm hc16 h8 hs ⊢
  rw [hat] at HR
  simp only [hat, hct, hSM] at hp1
  have hSM8 : SM ≤ 8 := by omega
  clear RT ht tl hE hx R hc I hcap HP1 hSA hCA hat hct hSM hcf hb0 Rw hj hc1 hc2 hLL I5 B5 z3 z4 z5 e5 ow ob
  go_enter Try.func34, Try.ntmps34
  go_wp2
  rw [HE5.out]
  clear HE5 e3 hB
  have q0 := HI5.out.base.q0
  have HLS : Hid (Lies W5.drew at' (x.shape.tail.map (Value.int .i64))) := (Lies.row_next HR.out (HB0.out.trans (HI5.out.base.bel.mono HB0.out.size))).drew
  have hsl : (x.shape.tail.map (Value.int .i64)).length = SM * 1 := by rw [List.length_map, HTL.out]; omega
  have HMX : Hid (1 + SM ≤ maxLen ∧ (1 + SM) * 8 ≤ 140737488355328 ∧ B ≤ W5.drew.heap.size) := ⟨by unfold maxLen; omega, by omega, by have := HZ.out.2.2; show B ≤ W5.heap.size; omega⟩
  have hBn : Hid (some (B + 1) ≠ some B) := by unfold Hid; simp
  have hBl : Hid (B + 1 < W5.drew.heap.size) := by have := HZ.out.2.2; show B + 1 < W5.heap.size; omega
  go_cut [7] from 16 to 22 (fun s7 wx => s7 = .pointer (some ⟨B + 1, 0, none⟩) ∧ ∃ gb cl w6, w6.ownsRow B 3 1 (.slice (some ⟨gb, 0, none⟩) (1 + SM) cl) (1 + SM) ([.int .i64 (L : Int)] ++ x.shape.tail.map (Value.int .i64)) ∧ W5.grownBy w6 (some B) ∧ wx = w6.setCell ⟨B + 1, 0, none⟩ (.slice (some ⟨gb, 0, none⟩) (1 + SM) cl))
  case first =>
    go_region_law (refine step_append_grown rfl (.tmp 17) (.tmp 20) 22 rfl B 3 i3 (.int .i64 0) 1 8 Try.underlying22 hi3 hz30 hz31 hz32 rfl (by decide) (.slice (some ⟨B, 0, none⟩) 1 1) 1 [.int .i64 (L : Int)] rfl HOW.out.1 at' SM ct (x.shape.tail.map (Value.int .i64)) rfl hsl HLS.out HMX.out.1 HMX.out.2.1 HMX.out.2.2 ?_; intro v' w4 hown4 hg4; obtain ⟨gb, cl, rfl, -, -⟩ := owns_form1' hown4 (by omega); have d0 := hg4.cell (a := ⟨B + 1, 0, none⟩) o0 hBn.out; have df0 := (World.frozen?_of_block (a := ⟨B + 1, 0, none⟩) (hg4.block (B + 1) hBl.out hBn.out)).trans of0)
    all_goals
      have HF4 := hide (And.intro hown4 hg4)
      clear hown4 hg4
      go_wp2
      go_meet
    all_goals
      case rel => exact ⟨rfl, _, _, _, HF4.out.1, ⟨HF4.out.2.os, HF4.out.2.tape, HF4.out.2.output, HF4.out.2.size, HF4.out.2.block⟩, rfl⟩
  case rest =>
  obtain ⟨rfl, gb, cl, w4, hown4, hg4, rfl⟩ := hcut
  clear q0 HLS hsl HMX
  have hz := HZ.out
  have HCL1 : Hid (1 + SM ≤ cl) := by
    obtain ⟨_, _, he, hle⟩ := owns_cap hown4
    simp only [Value.slice.injEq, true_and] at he
    rw [he.2]
    exact hle
  have hne : gb ≠ B + 1 := own_ne hown4 ((hg4.block (B + 1) (by omega) (by simp)).trans HOW.out.2)
  obtain ⟨gb', cl', hge, hgl, hgs⟩ := owns_form1' hown4 (by omega)
  simp only [Value.slice.injEq, Option.some.injEq, Addr.mk.injEq, and_true, true_and] at hge
  obtain ⟨rfl, rfl⟩ := hge
  have SC4 : SoftC w4 gb ((L : Int) :: x.shape.tail) := owns_softC (by rw [List.length_cons, HTL.out]; omega) hown4
  have d0 : w4.cell? ⟨B + 1, 0, none⟩ = some (.slice (some ⟨B, 0, none⟩) 1 1) := hg4.cell (a := ⟨B + 1, 0, none⟩) o0 (by simp)
  have d1 : w4.cell? ⟨B + 1, 1, none⟩ = some (.slice none 0 0) := hg4.cell (a := ⟨B + 1, 1, none⟩) o1 (by simp)
  have df1 : w4.frozen? ⟨B + 1, 1, none⟩ = false := (World.frozen?_of_block (a := ⟨B + 1, 1, none⟩) (hg4.block (B + 1) (by omega) (by simp))).trans of1
  have B54 : Below B W5 w4 := ⟨hg4.os, hg4.tape, hg4.output, hg4.size, fun b hb => hg4.block b (by omega) (by simp; omega)⟩
  obtain ⟨w6, e6⟩ : ∃ w6, w4.setCell ⟨B + 1, 0, none⟩ (.slice (some ⟨gb, 0, none⟩) (1 + SM) cl) = w6 := ⟨_, rfl⟩
  have z6 : w6.heap.size = w4.heap.size := by rw [← e6]; simp
  have B6 : Below B W5 w6 := by rw [← e6]; exact B54.setCell (p := ⟨B + 1, 0, none⟩) (by show B ≤ B + 1; omega) _
  have I6 := HI5.out.belowS B6 (by omega)
  have t0 : w6.cell? ⟨B + 1, 0, none⟩ = some (.slice (some ⟨gb, 0, none⟩) (1 + SM) cl) := by rw [← e6]; exact World.cell?_setCell_same' _ _ _ (by rw [d0]; rfl)
  have t1 : w6.cell? ⟨B + 1, 1, none⟩ = some (.slice none 0 0) := by rw [← e6, World.cell?_setCell_other _ _ _ _ (by simp)]; exact d1
  have tf1 : w6.frozen? ⟨B + 1, 1, none⟩ = false := by rw [← e6]; exact frozen_set _ _ _ _ df1
  have HSF : Hid (SoftC w6 gb ((L : Int) :: x.shape.tail) ∧ gb ≠ B + 1 ∧ B ≤ gb ∧ gb < w6.heap.size) := by
    refine ⟨fun i hi => ?_, hne, hgl, by rw [z6]; exact hgs⟩
    obtain ⟨s1, s2⟩ := SC4 i hi
    rw [← e6]
    exact ⟨by rw [World.cell?_setCell_other _ _ _ _ (by simp)]; exact s1, frozen_set _ _ _ _ s2⟩
  have HO6 : Hid (B + 1 < w6.heap.size) := by unfold Hid; rw [z6]; have := hg4.size; omega
  have C := rsize_any x.shape.tail at' ct w6 (HR.out.next (HB0.out.trans (I6.base.bel.mono HB0.out.size)))
  rw [HTL.out, HE.out] at C
  generalize sizeE x.shape.tail = EE at *
  obtain ⟨T, hT⟩ : ∃ T, T = itT x.cells ab cb m wh fk fN := ⟨_, rfl⟩
  have HTT := hide hT
  have HG6 := hide (GrowC.new (T := T) t0 t1 tf1)
  have HI6 := hide I6
  have q0 := I6.base.q0
  have HBZ : Hid (B = w.heap.size + 3) := by unfold Hid; omega
  rw [e6]
  clear hne hgl hgs SC4 d0 d1 df1 B54 B6 I6 e6 hown4 hg4 z6 hz t0 t1 tf1 HOW HI5 HZ o0 o1 of0 of1 hBn hBl hT
  go_wp2_with fail
  refine C.mono ?_
  clear C q0
  rintro e w7 ⟨rfl, rfl⟩
  go_wp2
  go_loopg [10] L (fun g i wr => ∃ (t : Nat) (v : Value), g + t = L ∧ i = .int .i64 (t : Int) ∧ GrowC w7 (B + 1) (.slice (some ⟨gb, 0, none⟩) (1 + SM) cl) T (t * m) v wr)
  case atStart => exact ⟨0, _, rfl, rfl, by rw [Nat.zero_mul]; exact HG6.out⟩
  case round =>
    clear HG6
    obtain ⟨t, v, hg, rfl, hgr⟩ := hrel
    obtain ⟨wo, hwo⟩ : ∃ wo, wo = wr := ⟨_, rfl⟩
    subst hwo
    have HGR := hide hgr
    have hBz := HBZ.out
    have BW := hgr.below (B := B) (by omega) HO6.out
    have I6 := HI6.out.belowS BW (by omega)
    by_cases hlt : t < L
    · obtain ⟨wb, wf, rfl, hwb, hwc⟩ := row_at HRW.out (j := t) (by rw [HLL.out]; exact hlt)
      have hwc' : w.cell? ⟨wb, wf + t, none⟩ = some (.int .i64 (gI wh t)) := hwc
      have k0 := (I6.base.bel.cell (p := ⟨wb, wf + t, none⟩) hwb).trans hwc'
      have hLz : (t : Int) < (L : Int) := by omega
      have hJ := HJ.out t (by rw [HLL.out]; exact hlt)
      have HTS : Hid (∀ q, q < m → T (t * m + q) = if 0 ≤ gI wh t then cellT x.cells ab cb ((gI wh t).toNat * m + q) else (.int .i64 fk, .int .i64 fN, .slice none 0 0)) := fun q hq => by
        rw [HTT.out]; unfold itT; rw [(div_at hq).1, (div_at hq).2]
      have htm : t * m + m ≤ 16384 := by
        have := Nat.mul_le_mul_right m (show t + 1 ≤ L by omega)
        rw [Nat.succ_mul] at this; omega
      have HTM := hide htm
      have d1 := hgr.c1
      have df1 := hgr.f1
      have hO := HO6.out
      have hsz := hgr.io.size
      clear hwc hwc' hwb
      by_cases hz0 : 0 ≤ gI wh t
      · obtain ⟨j, hjz⟩ : ∃ j : Nat, gI wh t = (j : Int) := ⟨(gI wh t).toNat, by omega⟩
        obtain ⟨hj1, hj2⟩ := hJ hz0
        have HTI : Hid (rowT T (t * m + m) = rowT T (t * m) ++ rowT (fun q => cellT x.cells ab cb (j * m + q)) m) := by
          unfold Hid
          rw [rowT_add]
          congr 1
          exact rowT_congr fun q hq => by rw [HTS.out q hq, if_pos hz0, hjz, Int.toNat_natCast]
        rw [hjz] at k0 hj1 hj2
        rw [Int.toNat_natCast] at hj1 hj2
        have hkk := HK.out
        have HX' := HX.out
        have C9 := ritem_cells (i := j) (m := m) (w := wo.drew) HX' HCF.out (HB0.out.trans (I6.base.bel.mono HB0.out.size)).drew hkk.1 hkk.2.1 HE.out hj1 hkk.2.2.1 hj2 hkk.2.2.2.1 hkk.2.2.2.2
        rw [HSC.out.1, HSC.out.2] at C9
        have HC9 := hide C9
        have q0 := I6.base.q0
        have q1 := I6.base.q1
        have hjn : (0 : Int) ≤ (j : Int) := by omega
        have hfld := field25
        have HWS : Hid (B + 1 < wo.drew.heap.size ∧ w7.heap.size ≤ wo.drew.heap.size) := ⟨by show B + 1 < wo.heap.size; omega, by show _ ≤ wo.heap.size; omega⟩
        have HMX : Hid (t * m + m ≤ maxLen ∧ (t * m + m) * 40 ≤ 140737488355328) := ⟨by unfold maxLen; omega, by omega⟩
        have HRL : Hid ((rowT (fun q => cellT x.cells ab cb (j * m + q)) m).length = m * 3) := rowT_len _ _
        clear hj1 hj2 hJ hkk HX' C9 I6 BW HTS hz0 hjz hgr htm hsz hO hBz
        go_wp2
        go_region_law (first
          | (refine step_append_any rfl (.tmp 42) (.tmp 49) 23 rfl w7.heap.size 39 i0 (.agg #[.int .i64 0, .int .i64 0, .slice none 0 0]) 3 40 Try.underlying23 hi0 hz00 hz01 hz02 rfl (by decide) v (t * m) (rowT T (t * m)) (by first | rfl | go_simp) HO9.out a3 m c3 (rowT (fun q => cellT x.cells ab cb (j * m + q)) m) (by first | rfl | go_simp) HRL.out HL9.out HMX.out.1 HMX.out.2 HS9.out ?_; intro v' w1 hown1 hb1; obtain ⟨a4, c4, rfl, -⟩ := owns_cap hown1; have dd1 := (hb1.cell (p := ⟨B + 1, 1, none⟩) HO6.out).trans d9; have dd3 := (hb1.frozen (p := ⟨B + 1, 1, none⟩) HO6.out).trans df9)
          | (go_simp; go_at_call 19; refine HC9.out.mono ?_; rintro e w9 ⟨⟨sa9, sn9, sc9, a3, c3, rfl, hl9⟩, hb9⟩; have HO9 := hide (owns_below HGR.out.own ((Below.refl wo.heap.size wo).drew.trans hb9)); have HL9 := hide hl9; have HS9 := hide (Nat.le_trans HWS.out.2 hb9.size); have HB9 := hide hb9; have d9 := (hb9.cell (p := ⟨B + 1, 1, none⟩) HWS.out.1).trans d1; have df9 := (hb9.frozen (p := ⟨B + 1, 1, none⟩) HWS.out.1).trans df1))
        all_goals
          have hown2 : w1.ownsRow w7.heap.size 39 3 (.slice a4 (t * m + m) c4) (t * m + m) (rowT T (t * m + m)) := by rw [HTI.out]; exact hown1
          have HNX := hide (HGR.out.stepN HO6.out (((Below.refl w7.heap.size wo).drew.trans (HB9.out.mono HWS.out.2)).trans hb1) hown2)
          clear hown1 hown2 hb1 dd1 dd3 HB9 HL9 HO9 HS9 hb9 hl9 d9 df9 HC9 HTI HMX HRL hfld
          go_wp2
          go_roundg (L - (t + 1))
          case rel => exact ⟨t + 1, _, by omega, by go_num, by rw [Nat.succ_mul]; exact HNX.out⟩
          case measure => omega
      · have hzn : ¬ (0 : Int) ≤ gI wh t := hz0
        have hzl : gI wh t < 0 := by omega
        have HT2 : Hid (∀ q, q < m → T (t * m + q) = (.int .i64 fk, .int .i64 fN, .slice none 0 0)) := fun q hq => by rw [HTS.out q hq, if_neg hz0]
        have HG0 := hide hgr
        generalize gI wh t = z at *
        clear hJ HTS hz0 hgr htm hsz hO hBz I6 BW d1 df1
        go_wp2
        go_loopg [11] m (fun g i wr => ∃ (k : Nat) (v : Value), g + k = m ∧ i = .int .i64 (k : Int) ∧ GrowC w7 (B + 1) (.slice (some ⟨gb, 0, none⟩) (1 + SM) cl) T (t * m + k) v wr)
        case atStart => exact ⟨0, _, rfl, rfl, HG0.out⟩
        case round =>
          clear HG0 k0 HGR
          obtain ⟨k, v2, hgk, rfl, hgr⟩ := hrel
          obtain ⟨wq, hwq⟩ : ∃ wq, wq = wr := ⟨_, rfl⟩
          subst hwq
          have HGR := hide hgr
          by_cases hk : k < m
          · have hBz := HBZ.out
            have hO := HO6.out
            have hsz := hgr.io.size
            have htm := HTM.out
            have I8 := HI6.out.belowS (hgr.below (B := B) (by omega) HO6.out) (by omega)
            have r0 := I8.base.r0
            have r1 := I8.base.r1
            have r2 := I8.r2
            have d1 := hgr.c1
            have df1 := hgr.f1
            have hkm : (k : Int) < (m : Int) := by omega
            have HSTEP : Hid (rowT T (t * m + k + 1) = rowT T (t * m + k) ++ [.int .i64 fk, .int .i64 fN, .slice none 0 0]) := by unfold Hid; rw [rowT_step, HT2.out k hk]
            have OWN := hgr.own.alloc (.cells #[.int .i64 fk, .int .i64 fN, .slice none 0 0] 39)
            have x0 : (wq.alloc (.cells #[.int .i64 fk, .int .i64 fN, .slice none 0 0] 39)).cell? ⟨B + 1, 1, none⟩ = some v2 := ((one_alloc wq _).cell (p := ⟨B + 1, 1, none⟩) (by show B + 1 < _; omega)).trans d1
            have HNW : Hid (∀ i u, [Value.int .i64 fk, .int .i64 fN, .slice none 0 0][i]? = some u → (wq.alloc (.cells #[.int .i64 fk, .int .i64 fN, .slice none 0 0] 39)).cell? ((⟨wq.heap.size, 0, none⟩ : Addr).add i) = some u) := by
              intro i u hu
              rw [add_off, Nat.zero_add]
              exact cell_new0 wq _ 39 i u (by simpa using hu)
            have HMX : Hid (t * m + k + 1 ≤ maxLen ∧ (t * m + k + 1) * 40 ≤ 140737488355328 ∧ w7.heap.size ≤ (wq.alloc (.cells #[.int .i64 fk, .int .i64 fN, .slice none 0 0] 39)).heap.size) := ⟨by unfold maxLen; omega, by omega, Nat.le_trans hsz (one_alloc _ _).size⟩
            have HAB : Hid (Below w7.heap.size wq (wq.alloc (.cells #[.int .i64 fk, .int .i64 fN, .slice none 0 0] 39))) := (one_alloc wq _).mono hsz
            have HONE : Hid (∀ u ∈ [Value.int .i64 fk, .int .i64 fN, .slice none 0 0], u.oneCell' = true) := by
              intro u hu
              simp at hu
              rcases hu with rfl | rfl | rfl <;> rfl
            clear hgr I8 hBz hO hsz htm
            go_wp2_with (at_builtin; refine wpList_append_B rfl _ _ 23 rfl w7.heap.size 39 i0 (.agg #[.int .i64 0, .int .i64 0, .slice none 0 0]) 3 40 Try.underlying23 hi0 hz00 hz01 hz02 rfl (by decide) _ _ _ rfl OWN ⟨wq.heap.size, 0, none⟩ 1 1 [.int .i64 fk, .int .i64 fN, .slice none 0 0] rfl rfl HNW.out HONE.out HMX.out.1 HMX.out.2.1 HMX.out.2.2 ?_)
            intro v' w1 hown1 hb1
            obtain ⟨a4, c4, rfl, -⟩ := owns_cap hown1
            have hown2 : w1.ownsRow w7.heap.size 39 3 (.slice a4 (t * m + k + 1) c4) (t * m + k + 1) (rowT T (t * m + k + 1)) := by rw [HSTEP.out]; exact hown1
            have dd1 := (HAB.out.trans hb1).cell (p := ⟨B + 1, 1, none⟩) HO6.out |>.trans d1
            have dd3 := (HAB.out.trans hb1).frozen (p := ⟨B + 1, 1, none⟩) HO6.out |>.trans df1
            have HNX := hide (HGR.out.step HO6.out (HAB.out.trans hb1) hown2)
            clear hown1 hown2 hb1 OWN HNW HMX HAB HONE HSTEP x0 d1 df1 r0 r1 r2
            go_wp2
            go_roundg (m - (k + 1))
            case rel => exact ⟨k + 1, _, by omega, by go_num, HNX.out⟩
            case measure => omega
          · have hke : k = m := by omega
            subst hke
            have hkm : ¬ (k : Int) < (k : Int) := by omega
            clear hgr
            go_wp2
            go_roundg (L - (t + 1))
            case rel => exact ⟨t + 1, _, by omega, by go_num, by rw [Nat.succ_mul]; exact HGR.out⟩
            case measure => omega
    · have hte : t = L := by omega
      subst hte
      obtain ⟨g2, cp2, rfl, hcells⟩ := owns_cellsT T hgr.own
      have HCL2 : Hid (t * m ≤ cp2) := by
        obtain ⟨_, _, he, hle⟩ := owns_cap hgr.own
        simp only [Value.slice.injEq, true_and] at he
        rw [he.2]
        exact hle
      have d0' := hgr.c0
      have d1' := hgr.c1
      have p0 := I6.base.p0
      have p1 := I6.base.p1
      have f0 := I6.base.f0
      have f1 := I6.base.f1
      have HT := hide (I6.base.put (.slice (some ⟨gb, 0, none⟩) (1 + SM) cl) (.slice g2 (t * m) cp2))
      have HFIN : Hid (∀ u v, GivesK (n + 1) w0 (itmsA x m wh fk fN) w (.returned (.agg #[.slice (some ⟨gb, 0, none⟩) (1 + SM) cl, .slice g2 (t * m) cp2])) ((wo.setCell ⟨w.heap.size + 2, 0, none⟩ u).setCell ⟨w.heap.size + 2, 1, none⟩ v)) := by
        intro u v
        refine ⟨⟨_, rfl, ⟨_, _, _, _, _, _, rfl, HCL1.out, HCL2.out⟩, fun W hW hK => ?_⟩, I6.base.fin u v⟩
        obtain ⟨SC, hne, hgl, hgs⟩ := HSF.out
        have hsz := hgr.io.size
        have hO := HO6.out
        have K2 : Keeps B wo ((wo.setCell ⟨w.heap.size + 2, 0, none⟩ u).setCell ⟨w.heap.size + 2, 1, none⟩ v) := ((Keeps.refl _ _).setCell (p := ⟨w.heap.size + 2, 0, none⟩) (by show w.heap.size + 2 < _; omega) u).setCell (p := ⟨w.heap.size + 2, 1, none⟩) (by show w.heap.size + 2 < _; omega) v
        have K3 := K2.trans (hK.mono (show w.heap.size ≤ B by omega))
        have RF : Row 0 W (some ⟨gb, 0, none⟩) ((t : Int) :: x.shape.tail) := by
          refine ⟨by rw [List.length_cons, HTL.out]; omega, Or.inr ⟨gb, 0, rfl, Nat.zero_le _, by have := K3.1; omega, fun i hi => ?_⟩⟩
          rw [Nat.zero_add]
          exact (K3.cell (p := ⟨gb, i, none⟩) hgl (by show gb < _; omega)).trans (hgr.cell hgs hne (SC i hi).1)
        have hcl : (itmsA x m wh fk fN).cells.length = t * m := by show (mkCs _ _).length = _; rw [mkCs_len, HLL.out]
        refine arIn_mk (x := itmsA x m wh fk fN) (by show Row 0 W _ ((wh.length : Int) :: x.shape.tail); rw [HLL.out]; exact RF) (by rw [hcl]; omega) ?_ (by show (List.cons _ x.shape.tail).length = _; rw [List.length_cons, HTL.out]; omega) hcl
        rcases hcells with h0 | ⟨g, rfl, hg1, hg2, hcc⟩
        · exact Or.inl (List.eq_nil_of_length_eq_zero (by rw [hcl]; exact h0))
        · refine Or.inr ⟨g, 0, rfl, Nat.zero_le _, Nat.lt_of_lt_of_le hg2 K3.1, fun i hi => ?_⟩
          rw [hcl] at hi
          obtain ⟨e0, e1, e2⟩ := hcc i hi
          rw [Nat.zero_add]
          have ap : ∀ (o : Nat) (q : Value), wo.cell? ⟨g, o, none⟩ = some q → W.cell? ⟨g, o, none⟩ = some q := fun o q h => (K3.cell (p := ⟨g, o, none⟩) (by show B ≤ g; omega) hg2).trans h
          refine ⟨_, _, _, ap _ _ e0, ap _ _ e1, ap _ _ e2, ?_⟩
          have hm0 : 0 < m := by
            rcases Nat.eq_zero_or_pos m with h | h
            · rw [h] at hi; simp at hi
            · exact h
          have hd : i / m < t := Nat.div_lt_of_lt_mul (by rw [Nat.mul_comm]; exact hi)
          have hr := Nat.mod_lt i hm0
          have ec : cAt (itmsA x m wh fk fN).cells i = itC x m wh fk fN i := mkCs_at _ _ _ (by rw [HLL.out]; exact hi)
          rw [ec, HTT.out]
          unfold itC itT
          by_cases hz : 0 ≤ gI wh (i / m)
          · rw [if_pos hz, if_pos hz]
            obtain ⟨hj1, -⟩ := HJ.out (i / m) (by rw [HLL.out]; exact hd) hz
            obtain ⟨b, off, -, -, hb, hcl2⟩ := HCF.out (by omega)
            obtain ⟨-, -, -, hce⟩ := hcl2 ((gI wh (i / m)).toNat * m + i % m) (by omega)
            exact hce.mono (Nat.zero_le _) hW fun x v h => h.mono (Nat.zero_le _) hW
          · rw [if_neg hz, if_neg hz]
            exact ⟨rfl, rfl, none, 0, rfl, by simp, Or.inl rfl⟩
      clear I6 hgr HGR HCF hcells BW HSF HJ HSC HTT hBz HI6 HX HBZ
      go_wp2
      exact bodyPost_ret (v := .agg #[.slice (some ⟨gb, 0, none⟩) (1 + SM) cl, .slice g2 (t * m) cp2]) (by simp [results, Try.results34, go_sem, HT.out.1, HT.out.2]) rfl (HFIN.out _ _)
set_option maxHeartbeats 4000000 in
theorem rfromK {n lo lo' : Nat} {x y : Ar} {va vb : Value} {w0 w : World} (hx : ArIn (n + 1) lo w0 x va) (hy : ArIn (n + 1) lo' w0 y vb) (hb0 : Below w0.heap.size w0 w) (hcx : chkA 8 x = 0) (hcy : chkA 8 y = 0) (hcap : Caps vb) :
    Calls Try.prog 37 #[va, vb] w fun e w' => Gives2K (n + 1) w0 (lookR x y).1 (lookR x y).2 w e w' := by
  obtain ⟨a1, c1, a2, c2, rfl, R, hc⟩ := hx.form
  obtain ⟨b1, d1, b2, d2, rfl, RY, hcY⟩ := hy.form
  obtain ⟨hd1, hd2⟩ := caps_form hcap
  obtain ⟨i3, hi3, hz30, hz31, hz32⟩ := infoI3
  obtain ⟨l8, c16⟩ := chk_len hcx
  obtain ⟨l8y, c16y⟩ := chk_len hcy
  obtain ⟨ab, cb, hcf⟩ := cells_fn hc
  have I := in3_new w (.slice a1 x.shape.length c1) (.slice a2 x.cells.length c2) (.slice b1 y.shape.length d1) (.slice b2 y.cells.length d2)
  obtain ⟨W3, e3⟩ : ∃ W3, ((w.alloc (.cells #[.slice a1 x.shape.length c1, .slice a2 x.cells.length c2] 25)).alloc (.cells #[.slice b1 y.shape.length d1, .slice b2 y.cells.length d2] 25)).alloc (.cells #[.slice none 0 0, .slice none 0 0] 25) = W3 := ⟨_, rfl⟩
  rw [e3] at I
  have q0 := I.q0
  have q1 := I.q1
  have r0 := I.r0
  have r1 := I.r1
  have p0 := I.p0
  have p1 := I.p1
  have f0 := I.f0
  have f1 := I.f1
  have HI := hide I
  have HB0 := hide hb0
  have HX := hide hx
  have HY := hide (And.intro hy hcap)
  have HCK := hide (And.intro hcx hcy)
  have HRR := hide (And.intro R RY)
  have HCF : Hid (CellsFn n lo w0 x.cells a2 ab cb) := hcf
  have HDD := hide hd1
  obtain ⟨SX, hSX⟩ : ∃ SX, x.shape.length = SX := ⟨_, rfl⟩
  obtain ⟨CX, hCX⟩ : ∃ CX, x.cells.length = CX := ⟨_, rfl⟩
  obtain ⟨SY, hSY⟩ : ∃ SY, y.shape.length = SY := ⟨_, rfl⟩
  obtain ⟨CY, hCY⟩ : ∃ CY, y.cells.length = CY := ⟨_, rfl⟩
  have HSC := hide (And.intro hSX (And.intro hCX (And.intro hSY hCY)))
  simp only [hSX, hCX, hSY, hCY] at e3 q0 q1 r0 r1 HI HX HY l8 c16 l8y c16y ⊢
  clear I R RY hc hcY hx hy hcap hb0 hcx hcy hSX hCX hSY hCY hcf hd1 hd2
  by_cases hb : SY = 0 ∨ 9 < SX + SY
  · have HE5 : Hid (lookR x y = (zeroA, 6)) := lookR_rank (by rw [HSC.out.1, HSC.out.2.2.1]; exact hb)
    have HT := hide (HI.out.put (.slice none 0 0) (.slice none 0 0))
    have HF : Hid (∀ u v, Gives2K (n + 1) w0 (lookR x y).1 (lookR x y).2 w (.returned (.tuple #[.agg #[.slice none 0 0, .slice none 0 0], .int .i64 6])) ((W3.setCell ⟨w.heap.size + 2, 0, none⟩ u).setCell ⟨w.heap.size + 2, 1, none⟩ v)) := fun u v => gives2k_of HE5.out ⟨_, _, _, _, _, _, rfl, Nat.le_refl _, Nat.le_refl _⟩ (fun W _ _ => zeroA_in _ _ _) (HI.out.fin u v)
    clear HCF HE5
    by_cases hb1 : SY = 0
    · have hb2 : ((SY : Int) == 0) = true := by simp [hb1]
      clear hb hb1
      go_enter Try.func37, Try.ntmps37
      go_wp2
      exact bodyPost_ret (v := .tuple #[.agg #[.slice none 0 0, .slice none 0 0], .int .i64 6]) (by simp [results, Try.results37, go_sem, HT.out.1, HT.out.2]) rfl (HF.out _ _)
    · have hb2 : ((SY : Int) == 0) = false := by simp [hb1]
      have hb3 : (9 : Int) < (SX : Int) + (SY : Int) := by omega
      clear hb hb1
      go_enter Try.func37, Try.ntmps37
      go_wp2
      exact bodyPost_ret (v := .tuple #[.agg #[.slice none 0 0, .slice none 0 0], .int .i64 6]) (by simp [results, Try.results37, go_sem, HT.out.1, HT.out.2]) rfl (HF.out _ _)
  have HNB : Hid (¬ (y.shape.length = 0 ∨ 9 < x.shape.length + y.shape.length)) := by unfold Hid; rw [HSC.out.1, HSC.out.2.2.1]; exact hb
  have hb1 : 0 < SY := by omega
  have hb2 : ((SY : Int) == 0) = false := by simp; omega
  have hb3 : ¬ (9 : Int) < (SX : Int) + (SY : Int) := by omega
  have hb9 : SX + SY ≤ 9 := by omega
  clear hb
  obtain ⟨yb, yo, rfl, hyb, hyc⟩ := row_at HRR.out.2 (j := 0) (by rw [HSC.out.2.2.1]; exact hb1)
  have hDb := (chk_axes HCK.out.2).1 (gI y.shape 0) (getD_mem (by rw [HSC.out.2.2.1]; exact hb1))
  obtain ⟨D, hD⟩ : ∃ D : Nat, gI y.shape 0 = (D : Int) := ⟨(gI y.shape 0).toNat, by omega⟩
  have hD16 : D ≤ 16384 := by omega
  have eg : y.shape[0]?.getD 0 = (D : Int) := hD
  rw [eg, Nat.add_zero] at hyc
  have HYC := hide (And.intro hyb hyc)
  have HD := hide hD
  clear hDb hD eg hyb hyc
  go_enter Try.func37, Try.ntmps37
  go_wp2
  clear e3 q0 q1 r0 r1 p0 p1 f0 f1
  go_loopg [6, 7] CX (fun g wv i wr => ∃ t : Nat, g + t = CX ∧ i = .int .i64 (t : Int) ∧ firstUp (lkF x y) t = 0 ∧ Below W3.heap.size W3 wr ∧ wr.ownsRow W3.heap.size 3 1 wv t (((List.range t).map fun i => (cAt x.cells i).2.1).map (Value.int .i64)))
  case atStart => exact ⟨0, rfl, rfl, rfl, Below.refl _ _, World.ownsRow_nil _ _ _ _⟩
  case round =>
    obtain ⟨t, hg, rfl, hfu, hnx, hown⟩ := hrel
    have I6 := HI.out.next hnx
    have q0 := I6.q0
    have q1 := I6.q1
    have r0 := I6.r0
    have hNB := HB0.out.trans (I6.bel.mono HB0.out.size)
    by_cases hlt : t < CX
    · have hltz : (t : Int) < (CX : Int) := by omega
      obtain ⟨bb, off, rfl, -, hbb, hcells⟩ := HCF.out (by rw [HSC.out.2.1]; omega)
      obtain ⟨g0, g1, -, -⟩ := hcells t (by rw [HSC.out.2.1]; exact hlt)
      have u0 := (hNB.cell (p := ⟨bb, off + t * 3, none⟩) hbb).trans g0
      have u1 := (hNB.cell (p := ⟨bb, off + t * 3 + 1, none⟩) hbb).trans g1
      have u2 := (hNB.cell (p := ⟨yb, yo, none⟩) HYC.out.1).trans HYC.out.2
      have HLF : Hid (lkF x y t = if ¬ (cAt x.cells t).1 = 0 then 5 else if (cAt x.cells t).2.1 < 0 ∨ (D : Int) ≤ (cAt x.cells t).2.1 then 8 else 0) := by unfold Hid lkF; rw [HD.out]
      have HST := hide (lkL_step x t)
      have HUP : Hid (∀ E : Int, lkF x y t = E → ¬ E = 0 → lookR x y = (zeroA, E)) := fun E hE hn => lookR_up HNB.out (by rw [HSC.out.2.1, firstUp_hit hfu (by rw [hE]; exact hn) CX hlt, hE]) hn
      have HFU := hide hfu
      have HI6 := hide I6
      generalize (cAt x.cells t).1 = kd at *
      generalize hNN : (cAt x.cells t).2.1 = NN at *
      clear hNN g0 g1 hcells hbb hNB I6 hfu
      by_cases hk : kd = 0
      · by_cases hn : NN < 0 ∨ (D : Int) ≤ NN
        · have HE5 : Hid (lookR x y = (zeroA, 8)) := HUP.out 8 (by rw [HLF.out, if_neg (by simp [hk]), if_pos hn]) (by decide)
          have p0 := HI6.out.p0
          have p1 := HI6.out.p1
          have f0 := HI6.out.f0
          have f1 := HI6.out.f1
          have HT := hide fun q => (HI6.out.next (belowN (Below.refl _ _) q)).put (.slice none 0 0) (.slice none 0 0)
          have HF : Hid (∀ q u v, Gives2K (n + 1) w0 (lookR x y).1 (lookR x y).2 w (.returned (.tuple #[.agg #[.slice none 0 0, .slice none 0 0], .int .i64 8])) (((wr.drewN q).setCell ⟨w.heap.size + 2, 0, none⟩ u).setCell ⟨w.heap.size + 2, 1, none⟩ v)) := fun q u v => gives2k_of HE5.out ⟨_, _, _, _, _, _, rfl, Nat.le_refl _, Nat.le_refl _⟩ (fun W _ _ => zeroA_in _ _ _) ((HI6.out.next (belowN (Below.refl _ _) q)).fin u v)
          rw [hk] at u0
          clear hk HCF HE5 HUP HLF HST hown hnx
          by_cases hn1 : NN < 0
          · clear hn
            go_wp2
            go_quiet (fail)
            go_wp2
            exact bodyPost_ret (v := .tuple #[.agg #[.slice none 0 0, .slice none 0 0], .int .i64 8]) (by simp [results, Try.results37, go_sem, (HT.out _).1, (HT.out _).2]) rfl (HF.out _ _ _)
          · have hn2 : (D : Int) ≤ NN := by omega
            clear hn
            go_wp2
            go_quiet (fail)
            go_wp2
            exact bodyPost_ret (v := .tuple #[.agg #[.slice none 0 0, .slice none 0 0], .int .i64 8]) (by simp [results, Try.results37, go_sem, (HT.out _).1, (HT.out _).2]) rfl (HF.out _ _ _)
        · have HF1 : Hid (firstUp (lkF x y) (t + 1) = 0) := by unfold Hid; rw [firstUp_step HFU.out, HLF.out, if_neg (by simp [hk]), if_neg hn]
          have hn1 : ¬ NN < 0 := by omega
          have hn2 : ¬ (D : Int) ≤ NN := by omega
          rw [hk] at u0
          clear hk HUP HLF hn
          go_wp2
          go_quiet (fail)
          go_upto_region 11 with fail
          obtain ⟨wq, hwq⟩ : ∃ wq, wr.drewN nq = wq := ⟨_, rfl⟩
          have hnx := belowN hnx nq
          have hown : (wr.drewN nq).ownsRow W3.heap.size 3 1 _ t _ := hown
          rw [hwq] at hown hnx ⊢
          have q1 : wq.cell? ⟨w.heap.size, 1, none⟩ = some (.slice (some ⟨bb, off, none⟩) CX c2) := by rw [← hwq]; exact q1
          have u1 : wq.cell? ⟨bb, off + t * 3 + 1, none⟩ = some (.int .i64 NN) := by rw [← hwq]; exact u1
          clear hwq q0 r0 u0 u2 HI6
          have OWN := hown.alloc (.cells #[.int .i64 NN] 3)
          have HNW : Hid (∀ i u, [Value.int .i64 NN][i]? = some u → (wq.alloc (.cells #[.int .i64 NN] 3)).cell? ((⟨wq.heap.size, 0, none⟩ : Addr).add i) = some u) := by
            intro i u hu
            rw [add_off, Nat.zero_add]
            exact cell_new0 wq _ 3 i u (by simpa using hu)
          have HZZ : Hid (W3.heap.size ≤ (wq.alloc (.cells #[.int .i64 NN] 3)).heap.size) := Nat.le_trans hnx.size (one_alloc _ _).size
          have HNX := hide (hnx.trans ((one_alloc wq (.cells #[.int .i64 NN] 3)).mono hnx.size))
          clear hown hnx
          go_wp2_with (at_builtin; refine wpList_append_B rfl _ _ 22 rfl W3.heap.size 3 i3 (.int .i64 0) 1 8 Try.underlying22 hi3 hz30 hz31 hz32 rfl (by decide) _ _ _ rfl OWN ⟨wq.heap.size, 0, none⟩ 1 1 [.int .i64 NN] rfl rfl HNW.out ?c2 ?c3 ?c4 HZZ.out ?_)
          case c2 => first | rfl | (intro u hu; simp at hu; subst hu; rfl)
          case c3 => unfold maxLen; omega
          case c4 => omega
          intro v' w1 hown1 hb1
          have hown2 : w1.ownsRow W3.heap.size 3 1 v' (t + 1) (((List.range (t + 1)).map fun i => (cAt x.cells i).2.1).map (Value.int .i64)) := by rw [HST.out]; simpa using hown1
          have HF := hide (And.intro (HNX.out.trans hb1) hown2)
          clear hown1 hown2 hb1 OWN HNW HZZ HNX HST
          clear hltz
          go_wp2
          go_roundg (CX - (t + 1))
          case rel => exact ⟨t + 1, by omega, by go_num, HF1.out, HF.out.1, HF.out.2⟩
          case measure => omega
      · have HE5 : Hid (lookR x y = (zeroA, 5)) := HUP.out 5 (by rw [HLF.out, if_pos hk]) (by decide)
        have p0 := HI6.out.p0
        have p1 := HI6.out.p1
        have f0 := HI6.out.f0
        have f1 := HI6.out.f1
        have HT := hide (HI6.out.put (.slice none 0 0) (.slice none 0 0))
        have HF : Hid (∀ u v, Gives2K (n + 1) w0 (lookR x y).1 (lookR x y).2 w (.returned (.tuple #[.agg #[.slice none 0 0, .slice none 0 0], .int .i64 5])) ((wr.setCell ⟨w.heap.size + 2, 0, none⟩ u).setCell ⟨w.heap.size + 2, 1, none⟩ v)) := fun u v => gives2k_of HE5.out ⟨_, _, _, _, _, _, rfl, Nat.le_refl _, Nat.le_refl _⟩ (fun W _ _ => zeroA_in _ _ _) (HI6.out.fin u v)
        have hkb : (kd == 0) = false := by simp [hk]
        clear HCF HE5 HUP HLF HST hown hnx
        go_wp2
        exact bodyPost_ret (v := .tuple #[.agg #[.slice none 0 0, .slice none 0 0], .int .i64 5]) (by simp [results, Try.results37, go_sem, HT.out.1, HT.out.2]) rfl (HF.out _ _)
    · have hte : t = CX := by omega
      subst hte
      have hll : (lkL x).length = t := by rw [lkL_len, HSC.out.2.1]
      have HLK : (List.range t).map (fun i => (cAt x.cells i).2.1) = lkL x := by unfold lkL; rw [HSC.out.2.1]
      rw [HLK] at hown
      obtain ⟨aw, cw, rfl, RW⟩ := owns_rowE (lkL x) (by rw [hll]; omega) (by rw [hll]; exact hown)
      rw [hll]
      have HFE : Hid (firstUp (lkF x y) x.cells.length = 0) := by unfold Hid; rw [HSC.out.2.1]; exact hfu
      have HRW := hide RW
      have HI6 := hide I6
      obtain ⟨SM, hSM⟩ : ∃ SM, SY - 1 = SM := ⟨_, rfl⟩
      have HTL : Hid (y.shape.tail.length = SM) := by unfold Hid; rw [List.length_tail, HSC.out.2.2.1, hSM]
      have HP1 := hide fun W => part_l (P := Try.prog) Try.underlying22 size3 (some ⟨yb, yo, none⟩) SY d1 1 1 rfl hb1 W
      have hp1 := HP1.out
      have RT : Row lo' w0 (subA (some ⟨yb, yo, none⟩) 1 d1 1) y.shape.tail := by
        have := HRR.out.2.part 1 d1 (y.shape.length - 1) (by have := HSC.out.2.2.1; omega) HDD.out
        rw [List.take_of_length_le (by rw [List.length_drop]; omega), List.drop_one] at this; exact this
      obtain ⟨at', hat⟩ : ∃ at', subA (some ⟨yb, yo, none⟩) 1 d1 1 = at' := ⟨_, rfl⟩
      obtain ⟨ct, hct⟩ : ∃ ct, d1 - 1 = ct := ⟨_, rfl⟩
      simp only [hat, hct, hSM] at hp1 RT
      have HL1 : Hid (Lies wr a1 (x.shape.map (Value.int .i64))) := Lies.row_next HRR.out.1 hNB
      have hsl1 : (x.shape.map (Value.int .i64)).length = SX * 1 := by rw [List.length_map, HSC.out.1]; omega
      have hsl2 : (y.shape.tail.map (Value.int .i64)).length = SM * 1 := by rw [List.length_map, HTL.out]; omega
      have HMX : Hid (0 + SX ≤ maxLen ∧ (0 + SX) * 8 ≤ 140737488355328 ∧ SX + SM ≤ maxLen ∧ (SX + SM) * 8 ≤ 140737488355328) := ⟨by unfold maxLen; omega, by omega, by unfold maxLen; omega, by omega⟩
      have HRT := hide RT
      have hS9 : SX + SM ≤ 8 := by omega
      clear hown RW hfu I6 hnx HLK HP1 RT hat hct hSM hll
      go_wp2_with (at_builtin; refine wpList_append_any rfl _ _ 22 rfl wr.heap.size 3 i3 (.int .i64 0) 1 8 Try.underlying22 hi3 hz30 hz31 hz32 rfl (by decide) (.slice none 0 0) 0 [] (by first | rfl | go_simp) (World.ownsRow_nil _ _ _ _) a1 SX c1 (x.shape.map (Value.int .i64)) (by first | rfl | go_simp) hsl1 HL1.out HMX.out.1 HMX.out.2.1 (Nat.le_refl _) ?_)
      intro v1 w4 hown4 hb4
      obtain ⟨al, cl, rfl, -⟩ := owns_cap hown4
      have I7 := HI6.out.next hb4
      have r0' := I7.r0
      have HL2 : Hid (Lies w4 at' (y.shape.tail.map (Value.int .i64))) := Lies.row_next HRT.out (HB0.out.trans (I7.bel.mono HB0.out.size))
      have HO4 := hide hown4
      have HS4 := hide hb4.size
      have HB4 := hide hb4
      clear hown4 hb4 I7 q0 q1 r0 HL1
      go_wp2_with (at_builtin; refine wpList_append_any rfl _ _ 22 rfl wr.heap.size 3 i3 (.int .i64 0) 1 8 Try.underlying22 hi3 hz30 hz31 hz32 rfl (by decide) (.slice al SX cl) SX (x.shape.map (Value.int .i64)) (by first | rfl | go_simp) HO4.out at' SM ct (y.shape.tail.map (Value.int .i64)) (by first | rfl | go_simp) hsl2 HL2.out HMX.out.2.2.1 HMX.out.2.2.2 HS4.out ?_)
      intro v2 w5 hown5 hb5
      have hlen : (x.shape ++ y.shape.tail).length = SX + SM := by rw [List.length_append, HSC.out.1, HTL.out]
      obtain ⟨al2, cl2, rfl, RL⟩ := owns_rowE (x.shape ++ y.shape.tail) (by rw [hlen]; omega) (by rw [hlen]; simpa using hown5)
      have HCL1 : Hid (SX + SM ≤ cl2) := by
        obtain ⟨_, _, he, hle⟩ := owns_cap hown5
        simp only [Value.slice.injEq] at he
        rw [he.2.2]
        exact hle
      have hb45 := HB4.out.trans hb5
      have I8 := HI6.out.next hb45
      have C := rsize_any (x.shape ++ y.shape.tail) al2 cl2 w5 RL
      rw [hlen] at C ⊢
      have HRL := hide RL
      have HI8 := hide I8
      have HB45 := hide hb45
      clear hown5 hb5 RL hb45 I8 HO4 HS4 HB4 HL2 r0' HMX hsl1 hsl2
      generalize sizeV (x.shape ++ y.shape.tail) = SV at C
      by_cases hsN : ¬ sizeE (x.shape ++ y.shape.tail) = 0
      · have HE5 : Hid (lookR x y = (zeroA, sizeE (x.shape ++ y.shape.tail))) := lookR_size HNB.out HFE.out hsN
        have HT := hide (HI8.out.put (.slice none 0 0) (.slice none 0 0))
        have HF : Hid (∀ u v, Gives2K (n + 1) w0 (lookR x y).1 (lookR x y).2 w (.returned (.tuple #[.agg #[.slice none 0 0, .slice none 0 0], .int .i64 (sizeE (x.shape ++ y.shape.tail))])) ((w5.setCell ⟨w.heap.size + 2, 0, none⟩ u).setCell ⟨w.heap.size + 2, 1, none⟩ v)) := fun u v => gives2k_of HE5.out ⟨_, _, _, _, _, _, rfl, Nat.le_refl _, Nat.le_refl _⟩ (fun W _ _ => zeroA_in _ _ _) (HI8.out.fin u v)
        generalize sizeE (x.shape ++ y.shape.tail) = EE at *
        have hEb : (EE == 0) = false := by simp [hsN]
        have p0 := HI8.out.p0
        have p1 := HI8.out.p1
        have f0 := HI8.out.f0
        have f1 := HI8.out.f1
        clear HCF HE5
        go_wp2_with fail
        refine C.mono ?_
        clear C
        rintro e w6 ⟨rfl, rfl⟩
        go_wp2
        exact bodyPost_ret (v := .tuple #[.agg #[.slice none 0 0, .slice none 0 0], .int .i64 EE]) (by simp [results, Try.results37, go_sem, HT.out.1, HT.out.2]) rfl (HF.out _ _)
      have hsE : sizeE (x.shape ++ y.shape.tail) = 0 := Classical.not_not.1 hsN
      rw [hsE] at C
      clear hsN
      obtain ⟨m, hm, hm16⟩ := sizeV_nat y.shape.tail
      obtain ⟨hok, hin, hsz⟩ := lookR_ok HCK.out.1 HCK.out.2 HNB.out HFE.out hsE hm
      have HE5 := hide hok
      have hll : (lkL x).length = t := by rw [lkL_len, HSC.out.2.1]
      have hS0 : 0 < y.shape.length := by rw [HSC.out.2.2.1]; exact hb1
      have HNm : t * m ≤ 16384 := by
        rcases Nat.eq_zero_or_pos t with h | h
        · rw [h]; omega
        · rw [hll] at hsz
          have h1 := size_cons hsz (by omega)
          have h2 := (sizeV_le hsz).2
          rw [h1, hm, ← Int.natCast_mul] at h2
          omega
      have hY := HY.out
      rw [← HSC.out.2.2.1, ← HSC.out.2.2.2] at hY
      have CI := ritemsK (w := w5) (cw := cw) 0 0 hY.1 (HB0.out.trans (HI8.out.bel.mono HB0.out.size)) (HRW.out.next HB45.out) hS0 (by rw [HSC.out.2.2.1]; exact l8y) hm (by rw [HSC.out.2.2.2]; exact c16y) hY.2 (by rw [hll]; omega) (by rw [hll]; exact HNm) hm16 (fun i hi h0 => by
        have hi2 := (hin i hi).2
        rw [HD.out] at hi2
        exact ⟨(item_le HCK.out.2 hS0 HD.out hm (j := (gI (lkL x) i).toNat) (by omega)).1, by omega⟩)
      rw [HSC.out.2.2.1, HSC.out.2.2.2, hll] at CI
      have HCI := hide CI
      have r0 := HI8.out.r0
      have r1 := HI8.out.r1
      clear hok hin hsz hll HNm hY CI hsE hm
      go_wp2_with (go_at_call 44; refine C.mono ?_; rintro e w6 ⟨rfl, rfl⟩)
      clear C
      refine HCI.out.mono ?_
      clear HCI
      rintro e w9 ⟨⟨vr, rfl, kvr, hv⟩, hb9'⟩
      have I9 := HI8.out.next hb9'
      obtain ⟨o1, k1, o2, k2, rfl, -, -⟩ := (hv w9 (HB0.out.trans (I9.bel.mono HB0.out.size)) (Keeps.refl _ _)).form
      have p0 := I9.p0
      have p1 := I9.p1
      have f0 := I9.f0
      have f1 := I9.f1
      obtain ⟨CO, hCO⟩ : ∃ CO, (itmsA y m (lkL x) 0 0).cells.length = CO := ⟨_, rfl⟩
      have HCL2 : Hid (CO ≤ k2) := by rw [← hCO]; exact (caps_form kvr).2
      have HT := hide (I9.put (.slice al2 (SX + SM) cl2) (.slice o2 CO k2))
      have HFIN : Hid (∀ u v, Gives2K (n + 1) w0 (lookR x y).1 (lookR x y).2 w (.returned (.tuple #[.agg #[.slice al2 (SX + SM) cl2, .slice o2 CO k2], .int .i64 0])) ((w9.setCell ⟨w.heap.size + 2, 0, none⟩ u).setCell ⟨w.heap.size + 2, 1, none⟩ v)) := by
        intro u v
        refine gives2k_of HE5.out ⟨_, _, _, _, _, _, rfl, HCL1.out, HCL2.out⟩ (fun W hW hK => ?_) (I9.fin u v)
        have hs := HI6.out.size
        have hs5 := HB45.out.size
        have K2 : Keeps (w.heap.size + 3) w9 W := (((Keeps.refl _ _).setCell (p := ⟨w.heap.size + 2, 0, none⟩) (by show w.heap.size + 2 < _; omega) u).setCell (p := ⟨w.heap.size + 2, 1, none⟩) (by show w.heap.size + 2 < _; omega) v).trans (hK.mono (by omega))
        have hA := hv W hW (K2.mono (by omega))
        obtain ⟨o1', k1', o2', k2', he, -, hcc⟩ := hA.form
        simp only [Value.agg.injEq, Array.mk.injEq, List.cons.injEq, Value.slice.injEq, and_true, true_and] at he
        obtain ⟨-, rfl, rfl⟩ := he
        obtain ⟨-, -, -, -, -, -, hcl, -⟩ := hA
        have RF := (((HRL.out.next hb9').low (show w.heap.size + 3 ≤ wr.heap.size by omega)).keeps K2).low (Nat.zero_le _)
        exact arIn_mk (x := .mk (x.shape ++ y.shape.tail) (itmsA y m (lkL x) 0 0).cells) RF hcl hcc (by rw [← hlen]; rfl) hCO
      rw [hCO]
      clear I9 hv hb9' kvr
      have hfld := field25
      go_wp2
      exact bodyPost_ret (v := .tuple #[.agg #[.slice al2 (SX + SM) cl2, .slice o2 CO k2], .int .i64 0]) (by simp [results, Try.results37, go_sem, HT.out.1, HT.out.2]) rfl (HFIN.out _ _)
set_option maxHeartbeats 4000000 in
theorem rdy_52 {n lo lo' : Nat} {x y : Ar} {va vb : Value} {w : World} (hx : ArIn (n + 1) lo w x va) (hy : ArIn (n + 1) lo' w y vb) (hcx : chkA 8 x = 0) (hcy : chkA 8 y = 0) (hcap : Caps vb) :
    Calls Try.prog 17 #[.int .i64 52, va, vb] w fun e w' => Gives2K (n + 1) w (lookR x y).1 (lookR x y).2 w e w' := by
  obtain ⟨a1, c1, a2, c2, rfl, -, -⟩ := hx.form
  obtain ⟨b1, d1, b2, d2, rfl, -, -⟩ := hy.form
  have I := in3_new w (.slice a1 x.shape.length c1) (.slice a2 x.cells.length c2) (.slice b1 y.shape.length d1) (.slice b2 y.cells.length d2)
  obtain ⟨W3, e3⟩ : ∃ W3, ((w.alloc (.cells #[.slice a1 x.shape.length c1, .slice a2 x.cells.length c2] 25)).alloc (.cells #[.slice b1 y.shape.length d1, .slice b2 y.cells.length d2] 25)).alloc (.cells #[.slice none 0 0, .slice none 0 0] 25) = W3 := ⟨_, rfl⟩
  rw [e3] at I
  have hb3 := I.bel
  have q0 := I.q0
  have q1 := I.q1
  have r0 := I.r0
  have r1 := I.r1
  have HI := hide I
  have z3 : w.heap.size + 3 ≤ W3.heap.size := by rw [← e3]; simp
  have HZ3 := hide z3
  have CK := rcheck_any (n + 1) x _ _ W3 (hx.next hb3)
  have HCK2 : Hid (∀ W, Below w.heap.size w W → Calls Try.prog 16 #[.agg #[.slice b1 y.shape.length d1, .slice b2 y.cells.length d2]] W fun e w' => e = .returned (.int .i64 (chkA 8 y)) ∧ Below W.heap.size W w') := fun W h => rcheck_any (n + 1) y _ _ W (hy.next h)
  rw [hcx] at CK
  rw [hcy] at HCK2
  have HC : Hid (∀ W, Below w.heap.size w W → Calls Try.prog 37 #[.agg #[.slice a1 x.shape.length c1, .slice a2 x.cells.length c2], .agg #[.slice b1 y.shape.length d1, .slice b2 y.cells.length d2]] W fun e w' => Gives2K (n + 1) w (lookR x y).1 (lookR x y).2 W e w') := fun W h => rfromK hx hy h hcx hcy hcap
  obtain ⟨⟨Y, EY⟩, hR⟩ : ∃ p, lookR x y = p := ⟨_, rfl⟩
  rw [hR] at HC ⊢
  simp only at HC ⊢
  clear hx hy I hR hcap z3
  generalize x.shape.length = SX at *
  generalize x.cells.length = CX at *
  generalize y.shape.length = SY at *
  generalize y.cells.length = CY at *
  go_enter Try.func17, Try.ntmps17
  go_wp2_with fail
  clear e3
  refine CK.mono ?_
  clear CK q0 q1 r0 r1
  rintro e w1 ⟨rfl, hb1⟩
  have I1 := HI.out.next hb1
  have hs1 := hb1.size
  have HI1 := hide I1
  have C2 := HCK2.out w1 I1.bel
  have r0 := I1.r0
  have r1 := I1.r1
  clear hb1 HI I1 HCK2
  go_wp2_with fail
  refine C2.mono ?_
  clear C2 r0 r1
  rintro e w2 ⟨rfl, hb2⟩
  have I2 := HI1.out.next hb2
  have hs2 := hb2.size
  have HI2 := hide I2
  have C := HC.out w2 I2.bel
  have q0 := I2.q0
  have q1 := I2.q1
  have r0 := I2.r0
  have r1 := I2.r1
  have HZ2 : Hid (w.heap.size + 3 ≤ w2.heap.size) := by have := HZ3.out; show _ ≤ _; omega
  clear hb2 HI1 I2 HC hcx hcy hs1 hs2 HZ3
  go_wp2_with fail
  refine C.mono ?_
  clear C q0 q1 r0 r1
  rintro e w4 ⟨⟨v, rfl, kv, hv⟩, hb4⟩
  have I4 := HI2.out.next hb4
  obtain ⟨z1, m1, z2, m2, rfl, -, -⟩ := (hv w4 I4.bel (Keeps.refl _ _)).form
  have p0 := I4.p0
  have p1 := I4.p1
  have f0 := I4.f0
  have f1 := I4.f1
  have HT := hide (I4.put (.slice z1 Y.shape.length m1) (.slice z2 Y.cells.length m2))
  have HF : Hid (∀ u v, Gives2K (n + 1) w Y EY w (.returned (.tuple #[.agg #[.slice z1 Y.shape.length m1, .slice z2 Y.cells.length m2], .int .i64 EY])) ((w4.setCell ⟨w.heap.size + 2, 0, none⟩ u).setCell ⟨w.heap.size + 2, 1, none⟩ v)) := fun u v => by
    refine ⟨⟨_, rfl, kv, fun W hW hK => hv W hW ?_⟩, I4.fin u v⟩
    have hz := HZ2.out
    have K2 : Keeps w2.heap.size w4 ((w4.setCell ⟨w.heap.size + 2, 0, none⟩ u).setCell ⟨w.heap.size + 2, 1, none⟩ v) := ((Keeps.refl _ _).setCell (p := ⟨w.heap.size + 2, 0, none⟩) (by show w.heap.size + 2 < _; omega) u).setCell (p := ⟨w.heap.size + 2, 1, none⟩) (by show w.heap.size + 2 < _; omega) v
    exact K2.trans (hK.mono (by omega))
  generalize Y.shape.length = SZ at *
  generalize Y.cells.length = CZ at *
  clear hv hb4 HI2 I4 HZ2 kv
  go_wp2
  exact bodyPost_ret (v := .tuple #[.agg #[.slice z1 SZ m1, .slice z2 CZ m2], .int .i64 EY]) (by simp [results, Try.results17, go_sem, HT.out.1, HT.out.2]) rfl (HF.out _ _)
end Go.Proofs.Ytimkcpbgnoekcaa
