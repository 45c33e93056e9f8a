/-
  The contract of layer 7's onceEach.
  The contract of layer 7's inOrder.
  The contracts of layer 7's finder and of the functions that number a cell by it.
  What layer 6's joined leans on: two boxes written, cells in turn as an array's.
-/
import Derived.Test.YtimkcpbgnoekcaaM6
import Derived.Test.YtimkcpbgnoekcaaChecked
import GoSem.Claim
import GoSem.ClaimJoined
import GoSem.ClaimMapViews
import Derived.JoinedTies
import Derived.KernelRfl
import Derived.WalkKit
import Derived.ProofKit
import Derived.Below
import Derived.Deep.OwnRows
import Derived.Deep.QuietTactic
import Derived.BigQuiet
import Derived.Deep.RegionWith
import Derived.Laws.MakeOwn
import Derived.Deep.RegionHeld3
import Derived.Laws.IdiomCopy
import Derived.Deep.Cut
import Derived.Deep.LoopGhost
import Derived.OpenShut
import Derived.ChangeOld
import Derived.SizedLaws
import Derived.Deep.Slices
import Derived.Deep.Strs
import Derived.Laws.AppendOwn
import Derived.BigFrame
import Derived.Deep.CutRange
import Derived.Deep.RegionLaw
import Derived.Laws.OwnMore
import Derived.Lib.SliceRun
import Derived.Laws.CopyOwn
import Derived.Lib.Mul64
import Derived.Lib.Overlaps
import Derived.Laws.EntriesVeiled
namespace Go.Proofs.Ytimkcpbgnoekcaa
open Go.ChangeShapes Go.WideShapes Go.ChangeAt Go.RowKit
set_option linter.unusedVariables false
set_option maxRecDepth 100000
set_option maxHeartbeats 4000000 in
theorem once32_many {n lo : Nat} {x : Ar} {va : Value} {w : World} (hx : ArIn (n + 1) lo w x va) (hcx : chkA 8 x = 0) (hcap : Caps va) (h0 : 0 < x.shape.length) :
    Calls Try.prog 32 #[va] w fun e w' => (∃ v, e = .returned v ∧ Caps v ∧ ArIn (n + 1) w.heap.size w' (onceR n x) v) ∧ Below w.heap.size w w' := by
  obtain ⟨i0, hi0, hz00, hz01, hz02⟩ := info33'
  obtain ⟨a1, c1, a2, c2, rfl, R, hc⟩ := hx.form
  obtain ⟨hc1, hc2⟩ := caps_form hcap
  obtain ⟨lx8, cx16⟩ := chk_len hcx
  obtain ⟨ab, cb, hcf⟩ := cells_fn hc
  have hcf1 : CellsFn n lo w x.cells a2 ab cb := hcf
  obtain ⟨hcy, hyc, hS⟩ := lst_facts hcx
  obtain ⟨wdA, wdB, wdC, wdD, wdE⟩ := wid hcy hS
  rw [hyc] at wdC
  have ly8 := (chk_len hcy).1
  obtain ⟨y, hy⟩ : ∃ y, lstA x = y := ⟨_, rfl⟩
  have HOD : Hid (onceR n x = itmsA y (mW y) (onceW n y) 0 0) := by unfold Hid onceR; rw [hy]
  rw [hy] at hcy hyc hS wdA wdB wdC wdD wdE ly8
  have hOC : chkA 8 (itmsA y (mW y) (onceW n y) 0 0) = 0 := by rw [← HOD.out]; exact onceR_chk (n := n) hcx
  have hIA : ∀ t, t < (onceW n y).length → 0 ≤ gI (onceW n y) t ∧ gI (onceW n y) t < (nW y : Int) := fun t ht => onceW_at n _ ht
  have hOW : onceW n y = fstL (fstB (byI n x.cells (mW y))) (nW y) := by unfold onceW; rw [hyc]
  have hWL : (onceW n y).length ≤ nW y := fstL_len _ _
  have hl1 : y = x := by rw [← hy]; unfold lstA; rw [if_neg (by omega)]
  have I2 := in2_new w (.slice a1 x.shape.length c1) (.slice a2 x.cells.length c2)
  obtain ⟨W2, e2⟩ : ∃ W2, (w.alloc (.cells #[.slice a1 x.shape.length c1, .slice a2 x.cells.length c2] 25)).alloc (.cells #[.slice none 0 0, .slice none 0 0] 25) = W2 := ⟨_, rfl⟩
  rw [e2] at I2
  obtain ⟨b1, o1, rfl, hb1, -⟩ := row_at R (j := 0) h0
  have R2 : Row 0 W2 (some ⟨b1, o1, none⟩) y.shape := by rw [hl1]; exact (R.low (Nat.zero_le _)).next I2.bel
  obtain ⟨SX, hSX⟩ : ∃ SX, y.shape.length = SX := ⟨_, rfl⟩
  have hSX' : x.shape.length = SX := by rw [← hl1]; exact hSX
  simp only [hSX'] at I2 e2 ⊢
  have hbl : b1 < W2.heap.size := Nat.lt_of_lt_of_le hb1 I2.bel.size
  have n0 : W2.cell? ⟨b1, o1, none⟩ = some (.int .i64 (nW y : Int)) := by
    obtain ⟨b', o', he, -, hcl⟩ := row_at R2 (j := 0) hS
    simp only [Option.some.injEq, Addr.mk.injEq, and_true] at he
    obtain ⟨rfl, rfl⟩ := he
    rw [← wdA]
    exact hcl
  have q0 := I2.q0
  have q1 := I2.q1
  have hb01 : ((SX : Int) == 0) = false := by simp; omega
  clear hb1
  -- the common road: W2, the shape at b1, o1, of SX axes
  obtain ⟨CA, hCA⟩ : ∃ CA, x.cells.length = CA := ⟨_, rfl⟩
  obtain ⟨M, hM⟩ : ∃ M, mW y = M := ⟨_, rfl⟩
  obtain ⟨N, hN⟩ : ∃ N, nW y = N := ⟨_, rfl⟩
  obtain ⟨wh, hwh⟩ : ∃ wh, onceW n y = wh := ⟨_, rfl⟩
  have hSXp : 0 < SX := by omega
  have hSX8 : SX ≤ 8 := by omega
  rw [hwh, hM] at HOD hOC
  rw [hwh, hN] at hIA hWL
  rw [hwh, hM, hN] at hOW
  rw [hM, hN, hCA] at wdC
  rw [hM] at wdB wdE
  rw [hN] at wdA wdD n0
  rw [hCA] at cx16 hc2
  simp only [hCA] at I2 q1 e2 ⊢
  have HCF := hide hcf1
  have C0 := items53 (SX := SX) (c1 := c1) (c2 := c2) (a2 := a2) n0 hbl hSXp wdD wdC cx16 hc2
  have HR2 := hide R2
  have HI2 := hide I2
  have HK := hide (And.intro hcy (And.intro hS (And.intro ly8 hSX)))
  have HW := hide (And.intro hOW (And.intro hIA hWL))
  have HCA := hide (And.intro hCA (And.intro hyc hOC))
  have HN3 := hide (And.intro wdA (And.intro wdB wdC))
  have hLm : wh.length * M ≤ 16384 := by
    have := Nat.mul_le_mul_right M hWL
    omega
  clear hx hcap R hc hcf hcf1 hcx lx8 hcy hyc hS ly8 hSX hOC hIA hOW hWL hCA hM hN hwh hl1 R2 I2 n0 hbl wdA wdB wdC hc1 hy
  go_enter Try.func32, Try.ntmps32
  go_wp2_with fail
  clear e2
  clear q0 q1
  refine C0.mono ?_
  clear C0
  rintro e w3 ⟨⟨bi, rfl, hbi1, hbi2, hri⟩, hb3⟩
  have I3 := HI2.out.next hb3
  have R3 := HR2.out.next hb3
  have C1 := clone_any y.shape _ c1 w3 R3 (by have := HK.out.2.2.1; omega)
  rw [HK.out.2.2.2] at C1
  have HI3 := hide I3
  have HRI := hide (And.intro hbi1 (And.intro hbi2 hri))
  have q0 := I3.q0
  have q1 := I3.q1
  clear I3 R3 hri hb3 HI2 HR2 hbi1 hbi2
  go_wp2_with fail
  refine C1.mono ?_
  clear C1 q0 q1
  rintro e w4 ⟨⟨a', cp, rfl, ho1, ho2, -⟩, hb4⟩
  obtain ⟨bs, rfl, hbs1, hbs2, hsc⟩ := ho2 HK.out.2.1
  rw [HK.out.2.2.2] at ho1
  obtain ⟨o, ho⟩ : ∃ o, w4.heap.size = o := ⟨_, rfl⟩
  obtain ⟨W5, e5⟩ : ∃ W5, w4.alloc (.cells #[.slice (some ⟨bs, 0, none⟩) SX cp, .slice none 0 0] 25) = W5 := ⟨_, rfl⟩
  have v0 : W5.cell? ⟨o, 0, none⟩ = some (.slice (some ⟨bs, 0, none⟩) SX cp) := by rw [← e5, ← ho]; exact cell_new0 w4 _ 25 0 _ rfl
  have v1 : W5.cell? ⟨o, 1, none⟩ = some (.slice none 0 0) := by rw [← e5, ← ho]; exact cell_new0 w4 _ 25 1 _ rfl
  have vf : W5.frozen? ⟨o, 1, none⟩ = false := by rw [← e5, ← ho]; exact frozen_new _ _ _ _
  have B5 : Below w4.heap.size w4 W5 := by rw [← e5]; exact one_alloc _ _
  have z5 : W5.heap.size = o + 1 := by rw [← e5, ← ho]; simp
  have hsc5 : SoftC W5 bs y.shape := fun i hi => ⟨(B5.cell (p := ⟨bs, i, none⟩) hbs2).trans (hsc i hi).1, (B5.frozen (p := ⟨bs, i, none⟩) hbs2).trans (hsc i hi).2⟩
  obtain ⟨d0, tl, hdt⟩ : ∃ d0 tl, y.shape = d0 :: tl := by
    have := HK.out.2.1
    cases h : y.shape with
    | nil => rw [h] at this; simp at this
    | cons d t => exact ⟨d, t, rfl⟩
  obtain ⟨W6, e6⟩ : ∃ W6, W5.setCell ⟨bs, 0, none⟩ (.int .i64 0) = W6 := ⟨_, rfl⟩
  have hne : o ≠ bs := by omega
  have sc6 : SoftC W6 bs ((0 : Int) :: y.shape.tail) := by
    have := hsc5.set 0 HK.out.2.1 0
    rw [e6, hdt] at this
    rw [hdt]
    exact this
  have u0 : W6.cell? ⟨o, 0, none⟩ = some (.slice (some ⟨bs, 0, none⟩) SX cp) := by rw [← e6]; exact cell_apart (p := ⟨o, 0, none⟩) (q := ⟨bs, 0, none⟩) hne _ v0
  have u1 : W6.cell? ⟨o, 1, none⟩ = some (.slice none 0 0) := by rw [← e6]; exact cell_apart (p := ⟨o, 1, none⟩) (q := ⟨bs, 0, none⟩) hne _ v1
  have uf : W6.frozen? ⟨o, 1, none⟩ = false := by rw [← e6]; exact frozen_set _ _ _ _ vf
  have B6 : Below w3.heap.size w3 W6 := by rw [← e6]; exact (hb4.trans (B5.mono hb4.size)).setCell (p := ⟨bs, 0, none⟩) hbs1 _
  have z6 : W6.heap.size = o + 1 := by rw [← e6]; simp [z5]
  have s0 := (hsc5 0 HK.out.2.1).1
  have sf0 := (hsc5 0 HK.out.2.1).2
  have hri6 : ∀ i, i < N → W6.cell? ⟨bi, i, none⟩ = some (.slice (subA a2 (i * M) c2 3) M (c2 - i * M)) := fun i hi => (B6.cell (p := ⟨bi, i, none⟩) HRI.out.2.1).trans (HRI.out.2.2 i hi)
  have hbi6 : bi < W6.heap.size := Nat.lt_of_lt_of_le HRI.out.2.1 B6.size
  have I6 := HI3.out.next B6
  have C2 := firsts_any (hcf := HCF.out.next I6.bel) wdD HCA.out.1 HN3.out.2.2 cx16 hc2 hbi6 hri6
  have HI6 := hide I6
  have HE6 := hide (And.intro e6 (And.intro e5 ho))
  have HST := hide (And.intro u0 (And.intro u1 (And.intro uf sc6)))
  have HBB := hide (And.intro hbs1 (And.intro z6 (And.intro hne (And.intro HRI.out.2.1 (And.intro ho1 (And.intro B6.size HI3.out.size))))))
  have HRI6 := hide hri6
  have hos : bs < o := by omega
  have hSXz : (0 : Int) < (SX : Int) := by omega
  clear ho2 hsc hb4 hsc5 hdt sc6 u0 u1 uf B6 z6 hri6 hbi6 I6 HI3 B5 z5 e5 e6 HRI hbs1 hbs2 ho1 ho
  generalize gI y.shape 0 = sh0 at s0
  go_upto_region 5 with fail
  rw [HE6.out.2.1, HE6.out.2.2]
  go_wp2_with fail
  rw [HE6.out.1]
  clear v0 v1 vf s0 sf0 hne HE6
  refine C2.mono ?_
  clear C2
  rintro e w7 ⟨⟨bo, g, f, hblk, rfl, hbo1, hbo2, hrow, hval⟩, hb7⟩
  have HFL : Hid (∀ i, i < N → w7.cell? ⟨bo, i, none⟩ = some (.bool (fstB (byI n x.cells M) i))) := fun i hi => by
    obtain ⟨s, hs, es⟩ := blk_all (n := N) hblk (byI_full n x.cells M).self i hi
    have := hval s hs
    rw [es, Int.toNat_natCast, fB_is (byI_full n x.cells M) hblk hs, es, Int.toNat_natCast] at this
    rw [hrow i hi, this]
  have I7 := HI6.out.next hb7
  have hbb := HBB.out
  obtain ⟨p, hp⟩ : ∃ p, fstB (byI n x.cells M) = p := ⟨_, rfl⟩
  rw [hp] at HFL
  have HWP : Hid (wh = fstL p N ∧ (∀ t, t < wh.length → 0 ≤ gI wh t ∧ gI wh t < (N : Int)) ∧ wh.length ≤ N) := ⟨by rw [← hp]; exact HW.out.1, HW.out.2⟩
  obtain ⟨T, hT⟩ : ∃ T, T = itT y.cells ab cb M wh 0 0 := ⟨_, rfl⟩
  have H7 : Hid (OnE w7 o bs SX cp y.shape.tail T 0 M (.slice none 0 0) w7) := by
    have hst := HST.out
    refine onE_new (W := w7) (d := 0) hbb.2.2.1 ((hb7.cell (p := ⟨o, 0, none⟩) (by show o < _; omega)).trans hst.1) ((hb7.cell (p := ⟨o, 1, none⟩) (by show o < _; omega)).trans hst.2.1) ((hb7.frozen (p := ⟨o, 1, none⟩) (by show o < _; omega)).trans hst.2.2.1) fun i hi => ?_
    exact ⟨(hb7.cell (p := ⟨bs, i, none⟩) (by show bs < _; omega)).trans (hst.2.2.2 i hi).1, (hb7.frozen (p := ⟨bs, i, none⟩) (by show bs < _; omega)).trans (hst.2.2.2 i hi).2⟩
  have HRI7 : Hid (∀ i, i < N → w7.cell? ⟨bi, i, none⟩ = some (.slice (subA a2 (i * M) c2 3) M (c2 - i * M))) := fun i hi => (hb7.cell (p := ⟨bi, i, none⟩) (by show bi < _; omega)).trans (HRI6.out i hi)
  have hs7 := hb7.size
  have HZ7 : Hid (o < w7.heap.size ∧ bs < w7.heap.size ∧ bo < w7.heap.size ∧ bi < w7.heap.size ∧ o ≠ bs ∧ bo ≠ o ∧ bo ≠ bs ∧ bi ≠ o ∧ bi ≠ bs ∧ w.heap.size + 2 ≤ bs ∧ w.heap.size + 2 ≤ o) := by
    have := HI6.out.size
    refine ⟨?_, ?_, ?_, ?_, ?_, ?_, ?_, ?_, ?_, ?_, ?_⟩ <;> omega
  have HI7 := hide I7
  have HTT := hide hT
  clear hblk hbo1 hbo2 hrow hval hb7 I7 HI6 hbb hp hT HRI6 HW HST HBB hs7 hos
  go_wp2
  go_loopg [25] N (fun gg i wr => ∃ (k : Nat) (v : Value), gg + k = N ∧ i = .int .i64 (k : Int) ∧ OnE w7 o bs SX cp y.shape.tail T (fstL p k).length M v wr)
  case atStart => exact ⟨0, _, rfl, rfl, H7.out⟩
  case round =>
    clear H7
    obtain ⟨k, v, hg, rfl, hgr⟩ := hrel
    obtain ⟨wo, hwo⟩ : ∃ wo, wo = wr := ⟨_, rfl⟩
    subst hwo
    have hz := HZ7.out
    by_cases hlt : k < N
    · have hltz : (k : Int) < (N : Int) := by omega
      have fl := hgr.cell (i := k) hz.2.2.1 hz.2.2.2.2.2.1 hz.2.2.2.2.2.2.1 (HFL.out k hlt)
      have HGR := hide hgr
      cases hpk : p k with
      | false =>
        have HNX : Hid (fstL p (k + 1) = fstL p k) := by unfold Hid; simp only [fstL]; rw [if_neg (by rw [hpk]; simp)]
        rw [hpk] at fl
        clear hgr hz hpk
        go_wp2
        go_roundg (N - (k + 1))
        case rel => exact ⟨k + 1, v, by omega, by go_num, by rw [HNX.out]; exact HGR.out⟩
        case measure => omega
      | true =>
        obtain ⟨hx1, hx2⟩ := fstL_next p hlt hpk
        have HX2 := hide hx2
        obtain ⟨L, hL⟩ : ∃ L, (fstL p k).length = L := ⟨_, rfl⟩
        rw [hL] at hgr hx1 HX2
        have hLw : L < wh.length := by
          obtain ⟨r, hr⟩ := fstL_pre p (show k + 1 ≤ N from hlt)
          rw [HWP.out.1, hr, List.length_append, HX2.out]
          omega
        have hLN : L ≤ 16384 := by have := HWP.out.2.2; omega
        rw [← HWP.out.1] at hx1
        have HGI := hgr.inc hz.2.2.2.2.1 hz.2.1
        have s0 := (hgr.sc 0 (by simp)).1
        have sf0 := (hgr.sc 0 (by simp)).2
        rw [show gI ((L : Int) :: y.shape.tail) 0 = (L : Int) from rfl] at s0
        have d0 := hgr.c0
        obtain ⟨W8, e8⟩ : ∃ W8, wo.setCell ⟨bs, 0, none⟩ (.int .i64 ((L : Int) + 1)) = W8 := ⟨_, rfl⟩
        have HGI8 : Hid (OnI w7 o bs SX cp y.shape.tail T L M v W8) := by
          unfold Hid
          rw [← e8]
          have := HGI
          rw [Int.natCast_succ] at this
          exact this
        have hkM : k * M + M ≤ CA := by
          have := Nat.mul_le_mul_right M (show k + 1 ≤ N from hlt)
          rw [Nat.succ_mul] at this
          have := HN3.out.2.2
          omega
        have hLM : L * M + M ≤ 16384 := by
          have := Nat.mul_le_mul_right M (show L + 1 ≤ wh.length from hLw)
          rw [Nat.succ_mul] at this
          omega
        have HTI : Hid (rowT T (L * M + M) = rowT T (L * M) ++ rowT (fun q => cellT x.cells ab cb (k * M + q)) M) := by
          unfold Hid
          rw [rowT_add]
          congr 1
          refine rowT_congr fun q hq => ?_
          rw [HTT.out]
          unfold itT
          rw [(div_at hq).1, (div_at hq).2, hx1, if_pos (by omega), Int.toNat_natCast, HCA.out.2.1]
        have hbel8 : Below (w.heap.size + 2) w7 W8 := ⟨HGI8.out.io.os, HGI8.out.io.tape, HGI8.out.io.output, HGI8.out.io.size, fun b hb => HGI8.out.keep b (by omega) (by omega) (by omega)⟩
        have I8 := HI7.out.belowS hbel8 (Nat.le_refl _)
        have d1 := HGI8.out.c1
        have df1 := HGI8.out.f1
        have ri := (World.cell?_of_block (w := w7) (a := ⟨bi, k, none⟩) (HGI8.out.keep bi hz.2.2.2.1 hz.2.2.2.2.2.2.2.1 hz.2.2.2.2.2.2.2.2.1)).trans (HRI7.out k hlt)
        have HLI : Hid (Lies W8.drew (subA a2 (k * M) c2 3) (rowT (fun q => cellT x.cells ab cb (k * M + q)) M)) := ((part_lies HCF.out (k * M) M (by rw [HCA.out.1]; exact hkM) (by rw [HCA.out.1]; exact hc2)).next I8.bel).drew
        have HOW : Hid (W8.drew.ownsRow w7.heap.size 39 3 v (L * M) (rowT T (L * M))) := owns_below HGI8.out.own (Below.refl _ _).drew
        have HMX : Hid (L * M + M ≤ maxLen ∧ (L * M + M) * 40 ≤ 140737488355328 ∧ w7.heap.size ≤ W8.drew.heap.size) := ⟨by unfold maxLen; omega, by omega, HGI8.out.io.size⟩
        have HRL : Hid ((rowT (fun q => cellT x.cells ab cb (k * M + q)) M).length = M * 3) := rowT_len _ _
        have HO8 : Hid (o < w7.heap.size) := hz.1
        have HZ8 := hide hz
        have HE8 := hide e8
        rw [hpk] at fl
        generalize subA a2 (k * M) c2 3 = sk at *
        generalize c2 - k * M = tk at *
        clear hgr hx1 hx2 hL hLw HGI I8 hbel8 hz hkM hLM hpk e8
        go_upto_region 11 with fail
        rw [HE8.out]
        clear HE8 fl s0 sf0 d0
        go_region_law (refine step_append_any rfl (.tmp 38) (.tmp 42) 23 rfl w7.heap.size 39 i0 (.agg #[.int .i64 0, .int .i64 0, .slice none 0 0]) 3 40 Try.underlying23 hi0 hz00 hz01 hz02 rfl (by decide) v (L * M) (rowT T (L * M)) (by first | rfl | go_simp) HOW.out sk M tk (rowT (fun q => cellT x.cells ab cb (k * M + q)) M) (by first | rfl | go_simp) HRL.out HLI.out HMX.out.1 HMX.out.2.1 HMX.out.2.2 ?_; intro v' w9 hown9 hb9; obtain ⟨a4, c4, rfl, -⟩ := owns_cap hown9; have dd1 := (hb9.cell (p := ⟨o, 1, none⟩) HO8.out).trans d1; have dd3 := (hb9.frozen (p := ⟨o, 1, none⟩) HO8.out).trans df1)
        all_goals
          have hown2 : w9.ownsRow w7.heap.size 39 3 (.slice a4 (L * M + M) c4) (L * M + M) (rowT T (L * M + M)) := by rw [HTI.out]; exact hown9
          have HNX := hide (HGI8.out.add HZ8.out.2.2.2.2.1 HZ8.out.1 HZ8.out.2.1 ((Below.refl w7.heap.size W8).drew.trans hb9) hown2)
          clear hown9 hown2 hb9 HTI HLI HOW HMX HRL
          go_wp2
          go_roundg (N - (k + 1))
          case rel => exact ⟨k + 1, _, by omega, by go_num, by rw [HX2.out]; exact HNX.out⟩
          case measure => omega
    · have hke : k = N := by omega
      subst hke
      rw [← HWP.out.1] at hgr
      have hbelw : Below (w.heap.size + 2) w7 wo := hgr.below (by omega) (by omega) (by omega)
      have I8 := HI7.out.belowS hbelw (Nat.le_refl _)
      have hbw := I8.bel
      have hgr' : OnE w7 o bs SX cp y.shape.tail (itT y.cells ab cb M wh 0 0) wh.length M v wo := by rw [← HTT.out]; exact hgr
      have hcfy : CellsFn n lo w y.cells a2 ab cb := by rw [HCA.out.2.1]; exact HCF.out
      obtain ⟨av, cv, rfl, hin⟩ := OnE.arr (W0s := 0) hgr' hbw hcfy HK.out.2.1 HK.out.2.2.1 HK.out.2.2.2 hz.2.1 hLm fun t ht => by
        have h1 := HWP.out.2.1 t ht
        refine ⟨h1.1, ?_⟩
        have h2 := HN3.out.2.2
        have h3 := Nat.mul_le_mul_right M (show (gI wh t).toNat + 1 ≤ k by omega)
        rw [Nat.succ_mul] at h3
        rw [HCA.out.2.1, HCA.out.1]
        omega
      have C5 := copy_at n 8 _ 0 _ wo HCA.out.2.2 hin
      have d0 := hgr.c0
      have d1 := hgr.c1
      have HI8 := hide I8
      clear hgr hgr' hbelw I8 hbw hcfy hin hz HFL HRI7 HZ7 HCF HTT HI7
      go_wp2_with fail
      refine C5.mono ?_
      clear C5 d0 d1
      rintro e w9 ⟨⟨v9, rfl, hv9, hap⟩, hb9⟩
      obtain ⟨b8, b9, rfl, -⟩ := hap
      have I9 := HI8.out.next hb9.b
      rw [← HOD.out] at hv9 ⊢
      generalize (onceR n x).shape.length = SR at *
      generalize (onceR n x).cells.length = CR at *
      have p0 := I9.p0
      have p1 := I9.p1
      have f0 := I9.f0
      have f1 := I9.f1
      have HT := hide (I9.put (.slice (some ⟨b8, 0, none⟩) SR SR) (.slice (some ⟨b9, 0, none⟩) CR CR))
      have HF : Hid (∀ u v, (∃ v', Ending.returned (.agg #[.slice (some ⟨b8, 0, none⟩) SR SR, .slice (some ⟨b9, 0, none⟩) CR CR]) = .returned v' ∧ Caps v' ∧ ArIn (n + 1) w.heap.size ((w9.setCell ⟨w.heap.size + 1, 0, none⟩ u).setCell ⟨w.heap.size + 1, 1, none⟩ v) (onceR n x) v') ∧ Below w.heap.size w ((w9.setCell ⟨w.heap.size + 1, 0, none⟩ u).setCell ⟨w.heap.size + 1, 1, none⟩ v)) := fun u v => ⟨⟨_, rfl, ⟨_, _, _, _, _, _, rfl, Nat.le_refl _, Nat.le_refl _⟩, I9.give hv9 HI8.out.size u v⟩, I9.fin u v⟩
      clear I9 hv9 HI8 hb9
      go_wp2
      exact bodyPost_ret (v := .agg #[.slice (some ⟨b8, 0, none⟩) SR SR, .slice (some ⟨b9, 0, none⟩) CR CR]) (by simp [results, Try.results32, go_sem, HT.out.1, HT.out.2]) rfl (HF.out _ _)
set_option maxHeartbeats 4000000 in
theorem once32_atom {n lo : Nat} {x : Ar} {va : Value} {w : World} (hx : ArIn (n + 1) lo w x va) (hcx : chkA 8 x = 0) (hcap : Caps va) (h0 : x.shape.length = 0) :
    Calls Try.prog 32 #[va] w fun e w' => (∃ v, e = .returned v ∧ Caps v ∧ ArIn (n + 1) w.heap.size w' (onceR n x) v) ∧ Below w.heap.size w w' := by
  obtain ⟨i0, hi0, hz00, hz01, hz02⟩ := info33'
  obtain ⟨a1, c1, a2, c2, rfl, R, hc⟩ := hx.form
  obtain ⟨hc1, hc2⟩ := caps_form hcap
  obtain ⟨lx8, cx16⟩ := chk_len hcx
  obtain ⟨ab, cb, hcf⟩ := cells_fn hc
  have hcf1 : CellsFn n lo w x.cells a2 ab cb := hcf
  obtain ⟨hcy, hyc, hS⟩ := lst_facts hcx
  obtain ⟨wdA, wdB, wdC, wdD, wdE⟩ := wid hcy hS
  rw [hyc] at wdC
  have ly8 := (chk_len hcy).1
  obtain ⟨y, hy⟩ : ∃ y, lstA x = y := ⟨_, rfl⟩
  have HOD : Hid (onceR n x = itmsA y (mW y) (onceW n y) 0 0) := by unfold Hid onceR; rw [hy]
  rw [hy] at hcy hyc hS wdA wdB wdC wdD wdE ly8
  have hOC : chkA 8 (itmsA y (mW y) (onceW n y) 0 0) = 0 := by rw [← HOD.out]; exact onceR_chk (n := n) hcx
  have hIA : ∀ t, t < (onceW n y).length → 0 ≤ gI (onceW n y) t ∧ gI (onceW n y) t < (nW y : Int) := fun t ht => onceW_at n _ ht
  have hOW : onceW n y = fstL (fstB (byI n x.cells (mW y))) (nW y) := by unfold onceW; rw [hyc]
  have hWL : (onceW n y).length ≤ nW y := fstL_len _ _
  have hl1 : y.shape = [1] := by rw [← hy]; unfold lstA; rw [if_pos h0]; rfl
  have I := in2_new w (.slice a1 x.shape.length c1) (.slice a2 x.cells.length c2)
  obtain ⟨W1, e1⟩ : ∃ W1, (w.alloc (.cells #[.slice a1 x.shape.length c1, .slice a2 x.cells.length c2] 25)).alloc (.cells #[.slice none 0 0, .slice none 0 0] 25) = W1 := ⟨_, rfl⟩
  have z1 : W1.heap.size = w.heap.size + 2 := by rw [← e1]; simp
  have fq : W1.frozen? ⟨w.heap.size, 0, none⟩ = false := by rw [← e1]; exact ((one_alloc (w.alloc _) _).frozen (p := ⟨w.heap.size, 0, none⟩) (by simp)).trans (frozen_new _ _ _ _)
  rw [e1] at I
  obtain ⟨W2, e2⟩ : ∃ W2, (W1.setCell ⟨w.heap.size, 0, none⟩ (.slice (some ⟨w.heap.size + 2, 0, none⟩) 1 1)).alloc (.cells #[.int .i64 1] 3) = W2 := ⟨_, rfl⟩
  have I2 : In2 w (.slice (some ⟨w.heap.size + 2, 0, none⟩) 1 1) (.slice a2 x.cells.length c2) W2 := by
    have J : In2 w (.slice (some ⟨w.heap.size + 2, 0, none⟩) 1 1) (.slice a2 x.cells.length c2) (W1.setCell ⟨w.heap.size, 0, none⟩ (.slice (some ⟨w.heap.size + 2, 0, none⟩) 1 1)) := ⟨I.bel.setCell (p := ⟨w.heap.size, 0, none⟩) (Nat.le_refl _) _, by simp; omega, World.cell?_setCell_same' _ _ _ (by rw [I.q0]; rfl), by rw [World.cell?_setCell_other _ _ _ _ (by simp)]; exact I.q1, cell_apart (p := ⟨w.heap.size + 1, 0, none⟩) (q := ⟨w.heap.size, 0, none⟩) (by show w.heap.size + 1 ≠ w.heap.size; omega) _ I.p0, cell_apart (p := ⟨w.heap.size + 1, 1, none⟩) (q := ⟨w.heap.size, 0, none⟩) (by show w.heap.size + 1 ≠ w.heap.size; omega) _ I.p1, frozen_set _ _ _ _ I.f0, frozen_set _ _ _ _ I.f1⟩
    rw [← e2]
    exact J.alloc _
  have zs : (W1.setCell ⟨w.heap.size, 0, none⟩ (.slice (some ⟨w.heap.size + 2, 0, none⟩) 1 1)).heap.size = w.heap.size + 2 := by simp [z1]
  have R2 : Row 0 W2 (some ⟨w.heap.size + 2, 0, none⟩) y.shape := by
    rw [hl1, ← e2]
    refine ⟨by simp, Or.inr ⟨_, 0, rfl, Nat.zero_le _, by simp; omega, fun i hi => ?_⟩⟩
    have hi0 : i = 0 := by simp at hi; omega
    rw [hi0]
    have := cell_new0 (W1.setCell ⟨w.heap.size, 0, none⟩ (.slice (some ⟨w.heap.size + 2, 0, none⟩) 1 1)) #[.int .i64 1] 3 0 _ rfl
    rw [zs] at this
    exact this
  have hSX : y.shape.length = 1 := by rw [hl1]; rfl
  have hbl : w.heap.size + 2 < W2.heap.size := by rw [← e2]; simp; omega
  have n0 : W2.cell? ⟨w.heap.size + 2, 0, none⟩ = some (.int .i64 (nW y : Int)) := by
    obtain ⟨b', o', he, -, hcl⟩ := row_at R2 (j := 0) hS
    simp only [Option.some.injEq, Addr.mk.injEq, and_true] at he
    obtain ⟨rfl, rfl⟩ := he
    rw [← wdA]
    exact hcl
  have q0 := I.q0
  have q1 := I.q1
  have HE2 := hide (And.intro e2 z1)
  rw [h0] at e1 q0
  simp only [h0]
  clear I e2 zs
  -- the common road: W2, the shape at (w.heap.size + 2), 0, of 1 axes
  obtain ⟨CA, hCA⟩ : ∃ CA, x.cells.length = CA := ⟨_, rfl⟩
  obtain ⟨M, hM⟩ : ∃ M, mW y = M := ⟨_, rfl⟩
  obtain ⟨N, hN⟩ : ∃ N, nW y = N := ⟨_, rfl⟩
  obtain ⟨wh, hwh⟩ : ∃ wh, onceW n y = wh := ⟨_, rfl⟩
  have hSXp : 0 < 1 := by omega
  have hSX8 : 1 ≤ 8 := by omega
  rw [hwh, hM] at HOD hOC
  rw [hwh, hN] at hIA hWL
  rw [hwh, hM, hN] at hOW
  rw [hM, hN, hCA] at wdC
  rw [hM] at wdB wdE
  rw [hN] at wdA wdD n0
  rw [hCA] at cx16 hc2
  simp only [hCA] at I2 q1 e1 ⊢
  have HCF := hide hcf1
  have C0 := items53 (SX := 1) (c1 := 1) (c2 := c2) (a2 := a2) n0 hbl hSXp wdD wdC cx16 hc2
  have HR2 := hide R2
  have HI2 := hide I2
  have HK := hide (And.intro hcy (And.intro hS (And.intro ly8 hSX)))
  have HW := hide (And.intro hOW (And.intro hIA hWL))
  have HCA := hide (And.intro hCA (And.intro hyc hOC))
  have HN3 := hide (And.intro wdA (And.intro wdB wdC))
  have hLm : wh.length * M ≤ 16384 := by
    have := Nat.mul_le_mul_right M hWL
    omega
  clear hx hcap R hc hcf hcf1 hcx lx8 hcy hyc hS ly8 hSX hOC hIA hOW hWL hCA hM hN hwh hl1 R2 I2 n0 hbl wdA wdB wdC hc1 hy
  go_enter Try.func32, Try.ntmps32
  go_wp2_with fail
  rw [HE2.out.1]
  clear z1 fq e1 HE2
  clear q0 q1
  refine C0.mono ?_
  clear C0
  rintro e w3 ⟨⟨bi, rfl, hbi1, hbi2, hri⟩, hb3⟩
  have I3 := HI2.out.next hb3
  have R3 := HR2.out.next hb3
  have C1 := clone_any y.shape _ 1 w3 R3 (by have := HK.out.2.2.1; omega)
  rw [HK.out.2.2.2] at C1
  have HI3 := hide I3
  have HRI := hide (And.intro hbi1 (And.intro hbi2 hri))
  have q0 := I3.q0
  have q1 := I3.q1
  clear I3 R3 hri hb3 HI2 HR2 hbi1 hbi2
  go_wp2_with fail
  refine C1.mono ?_
  clear C1 q0 q1
  rintro e w4 ⟨⟨a', cp, rfl, ho1, ho2, -⟩, hb4⟩
  obtain ⟨bs, rfl, hbs1, hbs2, hsc⟩ := ho2 HK.out.2.1
  rw [HK.out.2.2.2] at ho1
  obtain ⟨o, ho⟩ : ∃ o, w4.heap.size = o := ⟨_, rfl⟩
  obtain ⟨W5, e5⟩ : ∃ W5, w4.alloc (.cells #[.slice (some ⟨bs, 0, none⟩) 1 cp, .slice none 0 0] 25) = W5 := ⟨_, rfl⟩
  have v0 : W5.cell? ⟨o, 0, none⟩ = some (.slice (some ⟨bs, 0, none⟩) 1 cp) := by rw [← e5, ← ho]; exact cell_new0 w4 _ 25 0 _ rfl
  have v1 : W5.cell? ⟨o, 1, none⟩ = some (.slice none 0 0) := by rw [← e5, ← ho]; exact cell_new0 w4 _ 25 1 _ rfl
  have vf : W5.frozen? ⟨o, 1, none⟩ = false := by rw [← e5, ← ho]; exact frozen_new _ _ _ _
  have B5 : Below w4.heap.size w4 W5 := by rw [← e5]; exact one_alloc _ _
  have z5 : W5.heap.size = o + 1 := by rw [← e5, ← ho]; simp
  have hsc5 : SoftC W5 bs y.shape := fun i hi => ⟨(B5.cell (p := ⟨bs, i, none⟩) hbs2).trans (hsc i hi).1, (B5.frozen (p := ⟨bs, i, none⟩) hbs2).trans (hsc i hi).2⟩
  obtain ⟨d0, tl, hdt⟩ : ∃ d0 tl, y.shape = d0 :: tl := by
    have := HK.out.2.1
    cases h : y.shape with
    | nil => rw [h] at this; simp at this
    | cons d t => exact ⟨d, t, rfl⟩
  obtain ⟨W6, e6⟩ : ∃ W6, W5.setCell ⟨bs, 0, none⟩ (.int .i64 0) = W6 := ⟨_, rfl⟩
  have hne : o ≠ bs := by omega
  have sc6 : SoftC W6 bs ((0 : Int) :: y.shape.tail) := by
    have := hsc5.set 0 HK.out.2.1 0
    rw [e6, hdt] at this
    rw [hdt]
    exact this
  have u0 : W6.cell? ⟨o, 0, none⟩ = some (.slice (some ⟨bs, 0, none⟩) 1 cp) := by rw [← e6]; exact cell_apart (p := ⟨o, 0, none⟩) (q := ⟨bs, 0, none⟩) hne _ v0
  have u1 : W6.cell? ⟨o, 1, none⟩ = some (.slice none 0 0) := by rw [← e6]; exact cell_apart (p := ⟨o, 1, none⟩) (q := ⟨bs, 0, none⟩) hne _ v1
  have uf : W6.frozen? ⟨o, 1, none⟩ = false := by rw [← e6]; exact frozen_set _ _ _ _ vf
  have B6 : Below w3.heap.size w3 W6 := by rw [← e6]; exact (hb4.trans (B5.mono hb4.size)).setCell (p := ⟨bs, 0, none⟩) hbs1 _
  have z6 : W6.heap.size = o + 1 := by rw [← e6]; simp [z5]
  have s0 := (hsc5 0 HK.out.2.1).1
  have sf0 := (hsc5 0 HK.out.2.1).2
  have hri6 : ∀ i, i < N → W6.cell? ⟨bi, i, none⟩ = some (.slice (subA a2 (i * M) c2 3) M (c2 - i * M)) := fun i hi => (B6.cell (p := ⟨bi, i, none⟩) HRI.out.2.1).trans (HRI.out.2.2 i hi)
  have hbi6 : bi < W6.heap.size := Nat.lt_of_lt_of_le HRI.out.2.1 B6.size
  have I6 := HI3.out.next B6
  have C2 := firsts_any (hcf := HCF.out.next I6.bel) wdD HCA.out.1 HN3.out.2.2 cx16 hc2 hbi6 hri6
  have HI6 := hide I6
  have HE6 := hide (And.intro e6 (And.intro e5 ho))
  have HST := hide (And.intro u0 (And.intro u1 (And.intro uf sc6)))
  have HBB := hide (And.intro hbs1 (And.intro z6 (And.intro hne (And.intro HRI.out.2.1 (And.intro ho1 (And.intro B6.size HI3.out.size))))))
  have HRI6 := hide hri6
  have hos : bs < o := by omega
  have hSXz : (0 : Int) < (1 : Int) := by omega
  clear ho2 hsc hb4 hsc5 hdt sc6 u0 u1 uf B6 z6 hri6 hbi6 I6 HI3 B5 z5 e5 e6 HRI hbs1 hbs2 ho1 ho
  generalize gI y.shape 0 = sh0 at s0
  go_upto_region 5 with fail
  rw [HE6.out.2.1, HE6.out.2.2]
  go_wp2_with fail
  rw [HE6.out.1]
  clear v0 v1 vf s0 sf0 hne HE6
  refine C2.mono ?_
  clear C2
  rintro e w7 ⟨⟨bo, g, f, hblk, rfl, hbo1, hbo2, hrow, hval⟩, hb7⟩
  have HFL : Hid (∀ i, i < N → w7.cell? ⟨bo, i, none⟩ = some (.bool (fstB (byI n x.cells M) i))) := fun i hi => by
    obtain ⟨s, hs, es⟩ := blk_all (n := N) hblk (byI_full n x.cells M).self i hi
    have := hval s hs
    rw [es, Int.toNat_natCast, fB_is (byI_full n x.cells M) hblk hs, es, Int.toNat_natCast] at this
    rw [hrow i hi, this]
  have I7 := HI6.out.next hb7
  have hbb := HBB.out
  obtain ⟨p, hp⟩ : ∃ p, fstB (byI n x.cells M) = p := ⟨_, rfl⟩
  rw [hp] at HFL
  have HWP : Hid (wh = fstL p N ∧ (∀ t, t < wh.length → 0 ≤ gI wh t ∧ gI wh t < (N : Int)) ∧ wh.length ≤ N) := ⟨by rw [← hp]; exact HW.out.1, HW.out.2⟩
  obtain ⟨T, hT⟩ : ∃ T, T = itT y.cells ab cb M wh 0 0 := ⟨_, rfl⟩
  have H7 : Hid (OnE w7 o bs 1 cp y.shape.tail T 0 M (.slice none 0 0) w7) := by
    have hst := HST.out
    refine onE_new (W := w7) (d := 0) hbb.2.2.1 ((hb7.cell (p := ⟨o, 0, none⟩) (by show o < _; omega)).trans hst.1) ((hb7.cell (p := ⟨o, 1, none⟩) (by show o < _; omega)).trans hst.2.1) ((hb7.frozen (p := ⟨o, 1, none⟩) (by show o < _; omega)).trans hst.2.2.1) fun i hi => ?_
    exact ⟨(hb7.cell (p := ⟨bs, i, none⟩) (by show bs < _; omega)).trans (hst.2.2.2 i hi).1, (hb7.frozen (p := ⟨bs, i, none⟩) (by show bs < _; omega)).trans (hst.2.2.2 i hi).2⟩
  have HRI7 : Hid (∀ i, i < N → w7.cell? ⟨bi, i, none⟩ = some (.slice (subA a2 (i * M) c2 3) M (c2 - i * M))) := fun i hi => (hb7.cell (p := ⟨bi, i, none⟩) (by show bi < _; omega)).trans (HRI6.out i hi)
  have hs7 := hb7.size
  have HZ7 : Hid (o < w7.heap.size ∧ bs < w7.heap.size ∧ bo < w7.heap.size ∧ bi < w7.heap.size ∧ o ≠ bs ∧ bo ≠ o ∧ bo ≠ bs ∧ bi ≠ o ∧ bi ≠ bs ∧ w.heap.size + 2 ≤ bs ∧ w.heap.size + 2 ≤ o) := by
    have := HI6.out.size
    refine ⟨?_, ?_, ?_, ?_, ?_, ?_, ?_, ?_, ?_, ?_, ?_⟩ <;> omega
  have HI7 := hide I7
  have HTT := hide hT
  clear hblk hbo1 hbo2 hrow hval hb7 I7 HI6 hbb hp hT HRI6 HW HST HBB hs7 hos
  go_wp2
  go_loopg [25] N (fun gg i wr => ∃ (k : Nat) (v : Value), gg + k = N ∧ i = .int .i64 (k : Int) ∧ OnE w7 o bs 1 cp y.shape.tail T (fstL p k).length M v wr)
  case atStart => exact ⟨0, _, rfl, rfl, H7.out⟩
  case round =>
    clear H7
    obtain ⟨k, v, hg, rfl, hgr⟩ := hrel
    obtain ⟨wo, hwo⟩ : ∃ wo, wo = wr := ⟨_, rfl⟩
    subst hwo
    have hz := HZ7.out
    by_cases hlt : k < N
    · have hltz : (k : Int) < (N : Int) := by omega
      have fl := hgr.cell (i := k) hz.2.2.1 hz.2.2.2.2.2.1 hz.2.2.2.2.2.2.1 (HFL.out k hlt)
      have HGR := hide hgr
      cases hpk : p k with
      | false =>
        have HNX : Hid (fstL p (k + 1) = fstL p k) := by unfold Hid; simp only [fstL]; rw [if_neg (by rw [hpk]; simp)]
        rw [hpk] at fl
        clear hgr hz hpk
        go_wp2
        go_roundg (N - (k + 1))
        case rel => exact ⟨k + 1, v, by omega, by go_num, by rw [HNX.out]; exact HGR.out⟩
        case measure => omega
      | true =>
        obtain ⟨hx1, hx2⟩ := fstL_next p hlt hpk
        have HX2 := hide hx2
        obtain ⟨L, hL⟩ : ∃ L, (fstL p k).length = L := ⟨_, rfl⟩
        rw [hL] at hgr hx1 HX2
        have hLw : L < wh.length := by
          obtain ⟨r, hr⟩ := fstL_pre p (show k + 1 ≤ N from hlt)
          rw [HWP.out.1, hr, List.length_append, HX2.out]
          omega
        have hLN : L ≤ 16384 := by have := HWP.out.2.2; omega
        rw [← HWP.out.1] at hx1
        have HGI := hgr.inc hz.2.2.2.2.1 hz.2.1
        have s0 := (hgr.sc 0 (by simp)).1
        have sf0 := (hgr.sc 0 (by simp)).2
        rw [show gI ((L : Int) :: y.shape.tail) 0 = (L : Int) from rfl] at s0
        have d0 := hgr.c0
        obtain ⟨W8, e8⟩ : ∃ W8, wo.setCell ⟨bs, 0, none⟩ (.int .i64 ((L : Int) + 1)) = W8 := ⟨_, rfl⟩
        have HGI8 : Hid (OnI w7 o bs 1 cp y.shape.tail T L M v W8) := by
          unfold Hid
          rw [← e8]
          have := HGI
          rw [Int.natCast_succ] at this
          exact this
        have hkM : k * M + M ≤ CA := by
          have := Nat.mul_le_mul_right M (show k + 1 ≤ N from hlt)
          rw [Nat.succ_mul] at this
          have := HN3.out.2.2
          omega
        have hLM : L * M + M ≤ 16384 := by
          have := Nat.mul_le_mul_right M (show L + 1 ≤ wh.length from hLw)
          rw [Nat.succ_mul] at this
          omega
        have HTI : Hid (rowT T (L * M + M) = rowT T (L * M) ++ rowT (fun q => cellT x.cells ab cb (k * M + q)) M) := by
          unfold Hid
          rw [rowT_add]
          congr 1
          refine rowT_congr fun q hq => ?_
          rw [HTT.out]
          unfold itT
          rw [(div_at hq).1, (div_at hq).2, hx1, if_pos (by omega), Int.toNat_natCast, HCA.out.2.1]
        have hbel8 : Below (w.heap.size + 2) w7 W8 := ⟨HGI8.out.io.os, HGI8.out.io.tape, HGI8.out.io.output, HGI8.out.io.size, fun b hb => HGI8.out.keep b (by omega) (by omega) (by omega)⟩
        have I8 := HI7.out.belowS hbel8 (Nat.le_refl _)
        have d1 := HGI8.out.c1
        have df1 := HGI8.out.f1
        have ri := (World.cell?_of_block (w := w7) (a := ⟨bi, k, none⟩) (HGI8.out.keep bi hz.2.2.2.1 hz.2.2.2.2.2.2.2.1 hz.2.2.2.2.2.2.2.2.1)).trans (HRI7.out k hlt)
        have HLI : Hid (Lies W8.drew (subA a2 (k * M) c2 3) (rowT (fun q => cellT x.cells ab cb (k * M + q)) M)) := ((part_lies HCF.out (k * M) M (by rw [HCA.out.1]; exact hkM) (by rw [HCA.out.1]; exact hc2)).next I8.bel).drew
        have HOW : Hid (W8.drew.ownsRow w7.heap.size 39 3 v (L * M) (rowT T (L * M))) := owns_below HGI8.out.own (Below.refl _ _).drew
        have HMX : Hid (L * M + M ≤ maxLen ∧ (L * M + M) * 40 ≤ 140737488355328 ∧ w7.heap.size ≤ W8.drew.heap.size) := ⟨by unfold maxLen; omega, by omega, HGI8.out.io.size⟩
        have HRL : Hid ((rowT (fun q => cellT x.cells ab cb (k * M + q)) M).length = M * 3) := rowT_len _ _
        have HO8 : Hid (o < w7.heap.size) := hz.1
        have HZ8 := hide hz
        have HE8 := hide e8
        rw [hpk] at fl
        generalize subA a2 (k * M) c2 3 = sk at *
        generalize c2 - k * M = tk at *
        clear hgr hx1 hx2 hL hLw HGI I8 hbel8 hz hkM hLM hpk e8
        go_upto_region 11 with fail
        rw [HE8.out]
        clear HE8 fl s0 sf0 d0
        go_region_law (refine step_append_any rfl (.tmp 38) (.tmp 42) 23 rfl w7.heap.size 39 i0 (.agg #[.int .i64 0, .int .i64 0, .slice none 0 0]) 3 40 Try.underlying23 hi0 hz00 hz01 hz02 rfl (by decide) v (L * M) (rowT T (L * M)) (by first | rfl | go_simp) HOW.out sk M tk (rowT (fun q => cellT x.cells ab cb (k * M + q)) M) (by first | rfl | go_simp) HRL.out HLI.out HMX.out.1 HMX.out.2.1 HMX.out.2.2 ?_; intro v' w9 hown9 hb9; obtain ⟨a4, c4, rfl, -⟩ := owns_cap hown9; have dd1 := (hb9.cell (p := ⟨o, 1, none⟩) HO8.out).trans d1; have dd3 := (hb9.frozen (p := ⟨o, 1, none⟩) HO8.out).trans df1)
        all_goals
          have hown2 : w9.ownsRow w7.heap.size 39 3 (.slice a4 (L * M + M) c4) (L * M + M) (rowT T (L * M + M)) := by rw [HTI.out]; exact hown9
          have HNX := hide (HGI8.out.add HZ8.out.2.2.2.2.1 HZ8.out.1 HZ8.out.2.1 ((Below.refl w7.heap.size W8).drew.trans hb9) hown2)
          clear hown9 hown2 hb9 HTI HLI HOW HMX HRL
          go_wp2
          go_roundg (N - (k + 1))
          case rel => exact ⟨k + 1, _, by omega, by go_num, by rw [HX2.out]; exact HNX.out⟩
          case measure => omega
    · have hke : k = N := by omega
      subst hke
      rw [← HWP.out.1] at hgr
      have hbelw : Below (w.heap.size + 2) w7 wo := hgr.below (by omega) (by omega) (by omega)
      have I8 := HI7.out.belowS hbelw (Nat.le_refl _)
      have hbw := I8.bel
      have hgr' : OnE w7 o bs 1 cp y.shape.tail (itT y.cells ab cb M wh 0 0) wh.length M v wo := by rw [← HTT.out]; exact hgr
      have hcfy : CellsFn n lo w y.cells a2 ab cb := by rw [HCA.out.2.1]; exact HCF.out
      obtain ⟨av, cv, rfl, hin⟩ := OnE.arr (W0s := 0) hgr' hbw hcfy HK.out.2.1 HK.out.2.2.1 HK.out.2.2.2 hz.2.1 hLm fun t ht => by
        have h1 := HWP.out.2.1 t ht
        refine ⟨h1.1, ?_⟩
        have h2 := HN3.out.2.2
        have h3 := Nat.mul_le_mul_right M (show (gI wh t).toNat + 1 ≤ k by omega)
        rw [Nat.succ_mul] at h3
        rw [HCA.out.2.1, HCA.out.1]
        omega
      have C5 := copy_at n 8 _ 0 _ wo HCA.out.2.2 hin
      have d0 := hgr.c0
      have d1 := hgr.c1
      have HI8 := hide I8
      clear hgr hgr' hbelw I8 hbw hcfy hin hz HFL HRI7 HZ7 HCF HTT HI7
      go_wp2_with fail
      refine C5.mono ?_
      clear C5 d0 d1
      rintro e w9 ⟨⟨v9, rfl, hv9, hap⟩, hb9⟩
      obtain ⟨b8, b9, rfl, -⟩ := hap
      have I9 := HI8.out.next hb9.b
      rw [← HOD.out] at hv9 ⊢
      generalize (onceR n x).shape.length = SR at *
      generalize (onceR n x).cells.length = CR at *
      have p0 := I9.p0
      have p1 := I9.p1
      have f0 := I9.f0
      have f1 := I9.f1
      have HT := hide (I9.put (.slice (some ⟨b8, 0, none⟩) SR SR) (.slice (some ⟨b9, 0, none⟩) CR CR))
      have HF : Hid (∀ u v, (∃ v', Ending.returned (.agg #[.slice (some ⟨b8, 0, none⟩) SR SR, .slice (some ⟨b9, 0, none⟩) CR CR]) = .returned v' ∧ Caps v' ∧ ArIn (n + 1) w.heap.size ((w9.setCell ⟨w.heap.size + 1, 0, none⟩ u).setCell ⟨w.heap.size + 1, 1, none⟩ v) (onceR n x) v') ∧ Below w.heap.size w ((w9.setCell ⟨w.heap.size + 1, 0, none⟩ u).setCell ⟨w.heap.size + 1, 1, none⟩ v)) := fun u v => ⟨⟨_, rfl, ⟨_, _, _, _, _, _, rfl, Nat.le_refl _, Nat.le_refl _⟩, I9.give hv9 HI8.out.size u v⟩, I9.fin u v⟩
      clear I9 hv9 HI8 hb9
      go_wp2
      exact bodyPost_ret (v := .agg #[.slice (some ⟨b8, 0, none⟩) SR SR, .slice (some ⟨b9, 0, none⟩) CR CR]) (by simp [results, Try.results32, go_sem, HT.out.1, HT.out.2]) rfl (HF.out _ _)
theorem once32_any {n lo : Nat} {x : Ar} {va : Value} {w : World} (hx : ArIn (n + 1) lo w x va) (hcx : chkA 8 x = 0) (hcap : Caps va) :
    Calls Try.prog 32 #[va] w fun e w' => (∃ v, e = .returned v ∧ Caps v ∧ ArIn (n + 1) w.heap.size w' (onceR n x) v) ∧ Below w.heap.size w w' := by
  by_cases h0 : x.shape.length = 0
  · exact once32_atom hx hcx hcap h0
  · exact once32_many hx hcx hcap (by omega)
end Go.Proofs.Ytimkcpbgnoekcaa
namespace Go.Proofs.Ytimkcpbgnoekcaa
open Go.ChangeShapes Go.WideShapes Go.ChangeAt Go.RowKit
set_option linter.unusedVariables false
set_option maxRecDepth 100000
set_option maxHeartbeats 4000000 in
theorem inOrder_30 {n lo N M SX c1 CA c2 b1 o1 : Nat} {cs : List Ce} {a2 : Option Addr} {ab : Nat → Option Addr} {cb : Nat → Nat} {w : World} (hcf : CellsFn n lo w cs a2 ab cb) (h0 : w.cell? ⟨b1, o1, none⟩ = some (.int .i64 (N : Int))) (hb1 : b1 < w.heap.size) (hSX : 0 < SX) (hSX8 : SX ≤ 16384) (hN : N ≤ 16384) (hCA : cs.length = CA) (hNM : N * M = CA) (h16 : CA ≤ 16384) (hcap : CA ≤ c2) (hall : allK 0 cs = true ∨ allK 1 cs = true) :
    Calls Try.prog 29 #[.agg #[.slice (some ⟨b1, o1, none⟩) SX c1, .slice a2 CA c2], .func (.func 30) #[] #[]] w fun e w' => ∃ g, Blk (byI n cs M) g 0 N ∧ (∃ v, e = .returned (.tuple #[v, .int .i64 0]) ∧ ArIn (n + 1) w.heap.size w' (numsA ((List.range N).map g)) v) ∧ Below w.heap.size w w' := by
  have I := in2_new w (.slice (some ⟨b1, o1, none⟩) SX c1) (.slice a2 CA c2)
  obtain ⟨W2, e2⟩ : ∃ W2, (w.alloc (.cells #[.slice (some ⟨b1, o1, none⟩) SX c1, .slice a2 CA c2] 25)).alloc (.cells #[.slice none 0 0, .slice none 0 0] 25) = W2 := ⟨_, rfl⟩
  rw [e2] at I
  have q0 := I.q0
  have q1 := I.q1
  have HI := hide I
  have HA : Hid (∀ (K : Int) W, Below w.heap.size w W → Calls Try.prog 51 #[.slice a2 CA c2, .int .i64 K] W fun e w' => e = .returned (.bool (allK K cs)) ∧ Below W.heap.size W w') := fun K W h => allOf_any (hcf.next h) hCA h16
  have HT : Hid (∀ W, Below w.heap.size w W → Calls Try.prog 53 #[.agg #[.slice (some ⟨b1, o1, none⟩) SX c1, .slice a2 CA c2]] W fun e w' => ItemsIs N M c2 a2 W e w') := fun W h => items53 ((h.cell (p := ⟨b1, o1, none⟩) hb1).trans h0) (Nat.lt_of_lt_of_le hb1 h.size) hSX hN hNM h16 hcap
  have HS : Hid (∀ W bi, Below w.heap.size w W → bi < W.heap.size → (∀ i, i < N → W.cell? ⟨bi, i, none⟩ = some (.slice (subA a2 (i * M) c2 3) M (c2 - i * M))) → Calls Try.prog 52 #[.slice (some ⟨bi, 0, none⟩) N N, .func (.func 30) #[] #[]] W fun e w' => InOrd (byI n cs M) N W e w') := fun W bi h hbi hr => sorted52_30 (sa := fun i => subA a2 (i * M) c2 3) (sc := fun i => c2 - i * M) hr hbi hN (byI_ord n cs M N) fun W' h' i k hi hk => by_30 (hcf.next (h.trans (h'.mono h.size))) (by rw [hNM, hCA]) (by omega) (by omega) hi hk
  have C0 := HA.out 0 W2 I.bel
  have hSXb : ((SX : Int) == 0) = false := by simp; omega
  obtain ⟨A0, hA0⟩ : ∃ A0, allK 0 cs = A0 := ⟨_, rfl⟩
  obtain ⟨A1, hA1⟩ : ∃ A1, allK 1 cs = A1 := ⟨_, rfl⟩
  rw [hA0] at C0 hall
  rw [hA1] at hall
  have HC1 : Hid (∀ W, Below w.heap.size w W → Calls Try.prog 51 #[.slice a2 CA c2, .int .i64 1] W fun e w' => e = .returned (.bool A1) ∧ Below W.heap.size W w') := fun W h => by rw [← hA1]; exact HA.out 1 W h
  clear hcf h0 hb1 hNM hcap hA0 hA1 I HA
  have mk := run_make_row' (P := Try.prog) 47 2 (.int .i64 0) 8 Try.underlying47 int2 rfl .i64 .i64 N (by omega) (by omega)
  have HMK := hide mk
  clear mk
  go_enter Try.func29, Try.ntmps29
  go_wp2_with fail
  clear e2
  refine C0.mono ?_
  clear C0 q0 q1
  rintro e w3 ⟨rfl, hb3⟩
  have I3 := HI.out.next hb3
  clear hb3 HI
  -- the second question is asked where the first is denied
  cases A0
  case false =>
    have hA1 : A1 = true := by rcases hall with h | h <;> simp_all
    subst hA1
    have q1 := I3.q1
    have C1 := HC1.out w3 I3.bel
    have HI3 := hide I3
    clear I3 HC1
    go_wp2_with fail
    refine C1.mono ?_
    clear C1 q1
    rintro e w4 ⟨rfl, hb4⟩
    have I4 := HI3.out.next hb4
    clear hb4 HI3
    have q0 := I4.q0
    have q1 := I4.q1
    have C2 := HT.out w4 I4.bel
    have HI4 := hide I4
    clear I4 HT
    go_wp2_with fail
    refine C2.mono ?_
    clear C2 q0 q1
    rintro e w5 ⟨⟨bi, rfl, hbi1, hbi2, hri⟩, hb5⟩
    have I5 := HI4.out.next hb5
    have C3 := HS.out w5 bi I5.bel hbi2 hri
    have HI5 := hide I5
    clear I5 HI4 hri hb5 HS hbi1 hbi2
    go_wp2_with fail
    refine C3.mono ?_
    clear C3
    rintro e w6 ⟨⟨b, g, rfl, hb1', hb2', hrow, hblk⟩, hb6⟩
    have I6 := HI5.out.next hb6
    clear HI5 hb6 hb1'
    obtain ⟨bn, hbn⟩ : ∃ bn, w6.heap.size = bn := ⟨_, rfl⟩
    have mk := HMK.out
    obtain ⟨W7, e7⟩ : ∃ W7, w6.alloc (.cells (madeCells #[.int .i64 0] N) 2) = W7 := ⟨_, rfl⟩
    have rm : W7.rowIs bn 2 N (fun _ => .int .i64 0) := by rw [← e7, ← hbn]; exact World.rowIs_made w6 (.int .i64 0) N 2
    have B7 : Below bn w6 W7 := by rw [← e7, ← hbn]; exact one_alloc _ _
    have S0 : St w6 bn N (fun i => if i < 0 then g i else 0) W7 := ⟨B7, by rw [← e7]; simp [hbn], fun i hi => ⟨by have := rm.cell (i := i) hi; simpa using this, rm.frozen i⟩⟩
    have HS0 := hide S0
    have HE7 := hide (And.intro e7 hbn)
    have HI6 := hide I6
    have HBK := hide hblk
    have HRW := hide hrow
    have HBB := hide (And.intro hb2' hbn)
    clear S0 rm B7 I6 hblk hrow e7 hb2' hbn
    go_wp2
    rw [HE7.out.1, HE7.out.2]
    clear mk
    go_loopg [37] N (fun m j wr => ∃ k : Nat, m + k = N ∧ j = .int .i64 (k : Int) ∧ St w6 bn N (fun i => if i < k then g i else 0) wr)
    case atStart => exact ⟨0, rfl, rfl, HS0.out⟩
    case round =>
      clear HS0
      obtain ⟨k, hm, rfl, hs⟩ := hrel
      by_cases hlt : k < N
      · have hltz : (k : Int) < (N : Int) := by omega
        obtain ⟨c0, f0⟩ := hs.row k hlt
        have hh := HBB.out
        have u0 := (hs.bel.cell (p := ⟨b, k, none⟩) (by show b < bn; omega)).trans (HRW.out k hlt)
        have HN : Hid (St w6 bn N (fun i => if i < k + 1 then g i else 0) (wr.setCell ⟨bn, k, none⟩ (.int .i64 (g k)))) := by
          refine (hs.set hlt (g k)).congr fun i hi => ?_
          unfold upd
          by_cases e : i = k
          · rw [if_pos e, if_pos (by omega), e]
          · rw [if_neg e]
            show (if i < k then g i else 0) = _
            by_cases e2 : i < k
            · rw [if_pos e2, if_pos (by omega)]
            · rw [if_neg e2, if_neg (by omega)]
        replace c0 : ∃ z, wr.cell? ⟨bn, k, none⟩ = some (.int .i64 z) := ⟨_, c0⟩
        obtain ⟨z, c0⟩ := c0
        have hgr := HBK.out.2 k (Nat.zero_le _) hlt
        generalize g k = gk at *
        clear hs hh
        go_wp2
        go_roundg (N - (k + 1))
        case rel => exact ⟨k + 1, by omega, by go_num, HN.out⟩
        case measure => omega
      · have hke : k = N := by omega
        subst hke
        obtain ⟨l, hl⟩ : ∃ l, (List.range k).map g = l := ⟨_, rfl⟩
        have hll : l.length = k := by rw [← hl]; simp
        have hh := HBB.out
        have R : Row bn wr (some ⟨bn, 0, none⟩) l := by
          refine ⟨by rw [hll]; omega, Or.inr ⟨bn, 0, rfl, Nat.le_refl _, hs.lt, fun i hi => ?_⟩⟩
          rw [hll] at hi
          rw [Nat.zero_add, (hs.row i hi).1, if_pos hi, ← hl]
          simp [hi]
        have C := nums_any n l (some ⟨bn, 0, none⟩) k wr R (by rw [hll]; omega)
        rw [hll] at C
        have I8 := HI6.out.belowS hs.bel (by have := HI6.out.size; omega)
        have HI8 := hide I8
        have HL := hide hl
        clear hs R hh I8 hl hll HI6
        go_wp2_with fail
        refine C.mono ?_
        clear C
        rintro e w9 ⟨⟨v, rfl, hv⟩, hb9⟩
        have I9 := HI8.out.next hb9
        obtain ⟨s1, t1, s2, t2, rfl, -, -⟩ := hv.form
        have p0 := I9.p0
        have p1 := I9.p1
        have f0 := I9.f0
        have f1 := I9.f1
        obtain ⟨X, hX⟩ : ∃ X, (numsA l).shape.length = X := ⟨_, rfl⟩
        obtain ⟨Y, hY⟩ : ∃ Y, (numsA l).cells.length = Y := ⟨_, rfl⟩
        rw [hX, hY] at hv ⊢
        have HT9 := hide (I9.put (.slice s1 X t1) (.slice s2 Y t2))
        have HF : Hid (∀ u s, ∃ g, Blk (byI n cs M) g 0 k ∧ (∃ v, Ending.returned (.tuple #[.agg #[.slice s1 X t1, .slice s2 Y t2], .int .i64 0]) = .returned (.tuple #[v, .int .i64 0]) ∧ ArIn (n + 1) w.heap.size ((w9.setCell ⟨w.heap.size + 1, 0, none⟩ u).setCell ⟨w.heap.size + 1, 1, none⟩ s) (numsA ((List.range k).map g)) v) ∧ Below w.heap.size w ((w9.setCell ⟨w.heap.size + 1, 0, none⟩ u).setCell ⟨w.heap.size + 1, 1, none⟩ s)) := fun u s => ⟨g, HBK.out, ⟨_, rfl, by rw [HL.out]; exact I9.give hv (by have := HI8.out.size; omega) u s⟩, I9.fin u s⟩
        clear hv I9 hb9 HI8 hX hY
        go_wp2
        exact bodyPost_ret (v := .tuple #[.agg #[.slice s1 X t1, .slice s2 Y t2], .int .i64 0]) (by simp [results, Try.results29, go_sem, HT9.out.1, HT9.out.2]) rfl (HF.out _ _)
  case true =>
    obtain ⟨w4, hw4⟩ : ∃ w4, w4 = w3 := ⟨_, rfl⟩
    subst hw4
    have I4 := I3
    clear I3 HC1
    have q0 := I4.q0
    have q1 := I4.q1
    have C2 := HT.out w4 I4.bel
    have HI4 := hide I4
    clear I4 HT
    go_wp2_with fail
    refine C2.mono ?_
    clear C2 q0 q1
    rintro e w5 ⟨⟨bi, rfl, hbi1, hbi2, hri⟩, hb5⟩
    have I5 := HI4.out.next hb5
    have C3 := HS.out w5 bi I5.bel hbi2 hri
    have HI5 := hide I5
    clear I5 HI4 hri hb5 HS hbi1 hbi2
    go_wp2_with fail
    refine C3.mono ?_
    clear C3
    rintro e w6 ⟨⟨b, g, rfl, hb1', hb2', hrow, hblk⟩, hb6⟩
    have I6 := HI5.out.next hb6
    clear HI5 hb6 hb1'
    obtain ⟨bn, hbn⟩ : ∃ bn, w6.heap.size = bn := ⟨_, rfl⟩
    have mk := HMK.out
    obtain ⟨W7, e7⟩ : ∃ W7, w6.alloc (.cells (madeCells #[.int .i64 0] N) 2) = W7 := ⟨_, rfl⟩
    have rm : W7.rowIs bn 2 N (fun _ => .int .i64 0) := by rw [← e7, ← hbn]; exact World.rowIs_made w6 (.int .i64 0) N 2
    have B7 : Below bn w6 W7 := by rw [← e7, ← hbn]; exact one_alloc _ _
    have S0 : St w6 bn N (fun i => if i < 0 then g i else 0) W7 := ⟨B7, by rw [← e7]; simp [hbn], fun i hi => ⟨by have := rm.cell (i := i) hi; simpa using this, rm.frozen i⟩⟩
    have HS0 := hide S0
    have HE7 := hide (And.intro e7 hbn)
    have HI6 := hide I6
    have HBK := hide hblk
    have HRW := hide hrow
    have HBB := hide (And.intro hb2' hbn)
    clear S0 rm B7 I6 hblk hrow e7 hb2' hbn
    go_wp2
    rw [HE7.out.1, HE7.out.2]
    clear mk
    go_loopg [37] N (fun m j wr => ∃ k : Nat, m + k = N ∧ j = .int .i64 (k : Int) ∧ St w6 bn N (fun i => if i < k then g i else 0) wr)
    case atStart => exact ⟨0, rfl, rfl, HS0.out⟩
    case round =>
      clear HS0
      obtain ⟨k, hm, rfl, hs⟩ := hrel
      by_cases hlt : k < N
      · have hltz : (k : Int) < (N : Int) := by omega
        obtain ⟨c0, f0⟩ := hs.row k hlt
        have hh := HBB.out
        have u0 := (hs.bel.cell (p := ⟨b, k, none⟩) (by show b < bn; omega)).trans (HRW.out k hlt)
        have HN : Hid (St w6 bn N (fun i => if i < k + 1 then g i else 0) (wr.setCell ⟨bn, k, none⟩ (.int .i64 (g k)))) := by
          refine (hs.set hlt (g k)).congr fun i hi => ?_
          unfold upd
          by_cases e : i = k
          · rw [if_pos e, if_pos (by omega), e]
          · rw [if_neg e]
            show (if i < k then g i else 0) = _
            by_cases e2 : i < k
            · rw [if_pos e2, if_pos (by omega)]
            · rw [if_neg e2, if_neg (by omega)]
        replace c0 : ∃ z, wr.cell? ⟨bn, k, none⟩ = some (.int .i64 z) := ⟨_, c0⟩
        obtain ⟨z, c0⟩ := c0
        have hgr := HBK.out.2 k (Nat.zero_le _) hlt
        generalize g k = gk at *
        clear hs hh
        go_wp2
        go_roundg (N - (k + 1))
        case rel => exact ⟨k + 1, by omega, by go_num, HN.out⟩
        case measure => omega
      · have hke : k = N := by omega
        subst hke
        obtain ⟨l, hl⟩ : ∃ l, (List.range k).map g = l := ⟨_, rfl⟩
        have hll : l.length = k := by rw [← hl]; simp
        have hh := HBB.out
        have R : Row bn wr (some ⟨bn, 0, none⟩) l := by
          refine ⟨by rw [hll]; omega, Or.inr ⟨bn, 0, rfl, Nat.le_refl _, hs.lt, fun i hi => ?_⟩⟩
          rw [hll] at hi
          rw [Nat.zero_add, (hs.row i hi).1, if_pos hi, ← hl]
          simp [hi]
        have C := nums_any n l (some ⟨bn, 0, none⟩) k wr R (by rw [hll]; omega)
        rw [hll] at C
        have I8 := HI6.out.belowS hs.bel (by have := HI6.out.size; omega)
        have HI8 := hide I8
        have HL := hide hl
        clear hs R hh I8 hl hll HI6
        go_wp2_with fail
        refine C.mono ?_
        clear C
        rintro e w9 ⟨⟨v, rfl, hv⟩, hb9⟩
        have I9 := HI8.out.next hb9
        obtain ⟨s1, t1, s2, t2, rfl, -, -⟩ := hv.form
        have p0 := I9.p0
        have p1 := I9.p1
        have f0 := I9.f0
        have f1 := I9.f1
        obtain ⟨X, hX⟩ : ∃ X, (numsA l).shape.length = X := ⟨_, rfl⟩
        obtain ⟨Y, hY⟩ : ∃ Y, (numsA l).cells.length = Y := ⟨_, rfl⟩
        rw [hX, hY] at hv ⊢
        have HT9 := hide (I9.put (.slice s1 X t1) (.slice s2 Y t2))
        have HF : Hid (∀ u s, ∃ g, Blk (byI n cs M) g 0 k ∧ (∃ v, Ending.returned (.tuple #[.agg #[.slice s1 X t1, .slice s2 Y t2], .int .i64 0]) = .returned (.tuple #[v, .int .i64 0]) ∧ ArIn (n + 1) w.heap.size ((w9.setCell ⟨w.heap.size + 1, 0, none⟩ u).setCell ⟨w.heap.size + 1, 1, none⟩ s) (numsA ((List.range k).map g)) v) ∧ Below w.heap.size w ((w9.setCell ⟨w.heap.size + 1, 0, none⟩ u).setCell ⟨w.heap.size + 1, 1, none⟩ s)) := fun u s => ⟨g, HBK.out, ⟨_, rfl, by rw [HL.out]; exact I9.give hv (by have := HI8.out.size; omega) u s⟩, I9.fin u s⟩
        clear hv I9 hb9 HI8 hX hY
        go_wp2
        exact bodyPost_ret (v := .tuple #[.agg #[.slice s1 X t1, .slice s2 Y t2], .int .i64 0]) (by simp [results, Try.results29, go_sem, HT9.out.1, HT9.out.2]) rfl (HF.out _ _)
set_option maxHeartbeats 4000000 in
theorem inOrder_31 {n lo N M SX c1 CA c2 b1 o1 : Nat} {cs : List Ce} {a2 : Option Addr} {ab : Nat → Option Addr} {cb : Nat → Nat} {w : World} (hcf : CellsFn n lo w cs a2 ab cb) (h0 : w.cell? ⟨b1, o1, none⟩ = some (.int .i64 (N : Int))) (hb1 : b1 < w.heap.size) (hSX : 0 < SX) (hSX8 : SX ≤ 16384) (hN : N ≤ 16384) (hCA : cs.length = CA) (hNM : N * M = CA) (h16 : CA ≤ 16384) (hcap : CA ≤ c2) (hall : allK 0 cs = true ∨ allK 1 cs = true) :
    Calls Try.prog 29 #[.agg #[.slice (some ⟨b1, o1, none⟩) SX c1, .slice a2 CA c2], .func (.func 31) #[] #[]] w fun e w' => ∃ g, Blk (byJ n cs M) g 0 N ∧ (∃ v, e = .returned (.tuple #[v, .int .i64 0]) ∧ ArIn (n + 1) w.heap.size w' (numsA ((List.range N).map g)) v) ∧ Below w.heap.size w w' := by
  have I := in2_new w (.slice (some ⟨b1, o1, none⟩) SX c1) (.slice a2 CA c2)
  obtain ⟨W2, e2⟩ : ∃ W2, (w.alloc (.cells #[.slice (some ⟨b1, o1, none⟩) SX c1, .slice a2 CA c2] 25)).alloc (.cells #[.slice none 0 0, .slice none 0 0] 25) = W2 := ⟨_, rfl⟩
  rw [e2] at I
  have q0 := I.q0
  have q1 := I.q1
  have HI := hide I
  have HA : Hid (∀ (K : Int) W, Below w.heap.size w W → Calls Try.prog 51 #[.slice a2 CA c2, .int .i64 K] W fun e w' => e = .returned (.bool (allK K cs)) ∧ Below W.heap.size W w') := fun K W h => allOf_any (hcf.next h) hCA h16
  have HT : Hid (∀ W, Below w.heap.size w W → Calls Try.prog 53 #[.agg #[.slice (some ⟨b1, o1, none⟩) SX c1, .slice a2 CA c2]] W fun e w' => ItemsIs N M c2 a2 W e w') := fun W h => items53 ((h.cell (p := ⟨b1, o1, none⟩) hb1).trans h0) (Nat.lt_of_lt_of_le hb1 h.size) hSX hN hNM h16 hcap
  have HS : Hid (∀ W bi, Below w.heap.size w W → bi < W.heap.size → (∀ i, i < N → W.cell? ⟨bi, i, none⟩ = some (.slice (subA a2 (i * M) c2 3) M (c2 - i * M))) → Calls Try.prog 52 #[.slice (some ⟨bi, 0, none⟩) N N, .func (.func 31) #[] #[]] W fun e w' => InOrd (byJ n cs M) N W e w') := fun W bi h hbi hr => sorted52_31 (sa := fun i => subA a2 (i * M) c2 3) (sc := fun i => c2 - i * M) hr hbi hN (byJ_ord n cs M N) fun W' h' i k hi hk => by_31 (hcf.next (h.trans (h'.mono h.size))) (by rw [hNM, hCA]) (by omega) (by omega) hi hk
  have C0 := HA.out 0 W2 I.bel
  have hSXb : ((SX : Int) == 0) = false := by simp; omega
  obtain ⟨A0, hA0⟩ : ∃ A0, allK 0 cs = A0 := ⟨_, rfl⟩
  obtain ⟨A1, hA1⟩ : ∃ A1, allK 1 cs = A1 := ⟨_, rfl⟩
  rw [hA0] at C0 hall
  rw [hA1] at hall
  have HC1 : Hid (∀ W, Below w.heap.size w W → Calls Try.prog 51 #[.slice a2 CA c2, .int .i64 1] W fun e w' => e = .returned (.bool A1) ∧ Below W.heap.size W w') := fun W h => by rw [← hA1]; exact HA.out 1 W h
  clear hcf h0 hb1 hNM hcap hA0 hA1 I HA
  have mk := run_make_row' (P := Try.prog) 47 2 (.int .i64 0) 8 Try.underlying47 int2 rfl .i64 .i64 N (by omega) (by omega)
  have HMK := hide mk
  clear mk
  go_enter Try.func29, Try.ntmps29
  go_wp2_with fail
  clear e2
  refine C0.mono ?_
  clear C0 q0 q1
  rintro e w3 ⟨rfl, hb3⟩
  have I3 := HI.out.next hb3
  clear hb3 HI
  -- the second question is asked where the first is denied
  cases A0
  case false =>
    have hA1 : A1 = true := by rcases hall with h | h <;> simp_all
    subst hA1
    have q1 := I3.q1
    have C1 := HC1.out w3 I3.bel
    have HI3 := hide I3
    clear I3 HC1
    go_wp2_with fail
    refine C1.mono ?_
    clear C1 q1
    rintro e w4 ⟨rfl, hb4⟩
    have I4 := HI3.out.next hb4
    clear hb4 HI3
    have q0 := I4.q0
    have q1 := I4.q1
    have C2 := HT.out w4 I4.bel
    have HI4 := hide I4
    clear I4 HT
    go_wp2_with fail
    refine C2.mono ?_
    clear C2 q0 q1
    rintro e w5 ⟨⟨bi, rfl, hbi1, hbi2, hri⟩, hb5⟩
    have I5 := HI4.out.next hb5
    have C3 := HS.out w5 bi I5.bel hbi2 hri
    have HI5 := hide I5
    clear I5 HI4 hri hb5 HS hbi1 hbi2
    go_wp2_with fail
    refine C3.mono ?_
    clear C3
    rintro e w6 ⟨⟨b, g, rfl, hb1', hb2', hrow, hblk⟩, hb6⟩
    have I6 := HI5.out.next hb6
    clear HI5 hb6 hb1'
    obtain ⟨bn, hbn⟩ : ∃ bn, w6.heap.size = bn := ⟨_, rfl⟩
    have mk := HMK.out
    obtain ⟨W7, e7⟩ : ∃ W7, w6.alloc (.cells (madeCells #[.int .i64 0] N) 2) = W7 := ⟨_, rfl⟩
    have rm : W7.rowIs bn 2 N (fun _ => .int .i64 0) := by rw [← e7, ← hbn]; exact World.rowIs_made w6 (.int .i64 0) N 2
    have B7 : Below bn w6 W7 := by rw [← e7, ← hbn]; exact one_alloc _ _
    have S0 : St w6 bn N (fun i => if i < 0 then g i else 0) W7 := ⟨B7, by rw [← e7]; simp [hbn], fun i hi => ⟨by have := rm.cell (i := i) hi; simpa using this, rm.frozen i⟩⟩
    have HS0 := hide S0
    have HE7 := hide (And.intro e7 hbn)
    have HI6 := hide I6
    have HBK := hide hblk
    have HRW := hide hrow
    have HBB := hide (And.intro hb2' hbn)
    clear S0 rm B7 I6 hblk hrow e7 hb2' hbn
    go_wp2
    rw [HE7.out.1, HE7.out.2]
    clear mk
    go_loopg [37] N (fun m j wr => ∃ k : Nat, m + k = N ∧ j = .int .i64 (k : Int) ∧ St w6 bn N (fun i => if i < k then g i else 0) wr)
    case atStart => exact ⟨0, rfl, rfl, HS0.out⟩
    case round =>
      clear HS0
      obtain ⟨k, hm, rfl, hs⟩ := hrel
      by_cases hlt : k < N
      · have hltz : (k : Int) < (N : Int) := by omega
        obtain ⟨c0, f0⟩ := hs.row k hlt
        have hh := HBB.out
        have u0 := (hs.bel.cell (p := ⟨b, k, none⟩) (by show b < bn; omega)).trans (HRW.out k hlt)
        have HN : Hid (St w6 bn N (fun i => if i < k + 1 then g i else 0) (wr.setCell ⟨bn, k, none⟩ (.int .i64 (g k)))) := by
          refine (hs.set hlt (g k)).congr fun i hi => ?_
          unfold upd
          by_cases e : i = k
          · rw [if_pos e, if_pos (by omega), e]
          · rw [if_neg e]
            show (if i < k then g i else 0) = _
            by_cases e2 : i < k
            · rw [if_pos e2, if_pos (by omega)]
            · rw [if_neg e2, if_neg (by omega)]
        replace c0 : ∃ z, wr.cell? ⟨bn, k, none⟩ = some (.int .i64 z) := ⟨_, c0⟩
        obtain ⟨z, c0⟩ := c0
        have hgr := HBK.out.2 k (Nat.zero_le _) hlt
        generalize g k = gk at *
        clear hs hh
        go_wp2
        go_roundg (N - (k + 1))
        case rel => exact ⟨k + 1, by omega, by go_num, HN.out⟩
        case measure => omega
      · have hke : k = N := by omega
        subst hke
        obtain ⟨l, hl⟩ : ∃ l, (List.range k).map g = l := ⟨_, rfl⟩
        have hll : l.length = k := by rw [← hl]; simp
        have hh := HBB.out
        have R : Row bn wr (some ⟨bn, 0, none⟩) l := by
          refine ⟨by rw [hll]; omega, Or.inr ⟨bn, 0, rfl, Nat.le_refl _, hs.lt, fun i hi => ?_⟩⟩
          rw [hll] at hi
          rw [Nat.zero_add, (hs.row i hi).1, if_pos hi, ← hl]
          simp [hi]
        have C := nums_any n l (some ⟨bn, 0, none⟩) k wr R (by rw [hll]; omega)
        rw [hll] at C
        have I8 := HI6.out.belowS hs.bel (by have := HI6.out.size; omega)
        have HI8 := hide I8
        have HL := hide hl
        clear hs R hh I8 hl hll HI6
        go_wp2_with fail
        refine C.mono ?_
        clear C
        rintro e w9 ⟨⟨v, rfl, hv⟩, hb9⟩
        have I9 := HI8.out.next hb9
        obtain ⟨s1, t1, s2, t2, rfl, -, -⟩ := hv.form
        have p0 := I9.p0
        have p1 := I9.p1
        have f0 := I9.f0
        have f1 := I9.f1
        obtain ⟨X, hX⟩ : ∃ X, (numsA l).shape.length = X := ⟨_, rfl⟩
        obtain ⟨Y, hY⟩ : ∃ Y, (numsA l).cells.length = Y := ⟨_, rfl⟩
        rw [hX, hY] at hv ⊢
        have HT9 := hide (I9.put (.slice s1 X t1) (.slice s2 Y t2))
        have HF : Hid (∀ u s, ∃ g, Blk (byJ n cs M) g 0 k ∧ (∃ v, Ending.returned (.tuple #[.agg #[.slice s1 X t1, .slice s2 Y t2], .int .i64 0]) = .returned (.tuple #[v, .int .i64 0]) ∧ ArIn (n + 1) w.heap.size ((w9.setCell ⟨w.heap.size + 1, 0, none⟩ u).setCell ⟨w.heap.size + 1, 1, none⟩ s) (numsA ((List.range k).map g)) v) ∧ Below w.heap.size w ((w9.setCell ⟨w.heap.size + 1, 0, none⟩ u).setCell ⟨w.heap.size + 1, 1, none⟩ s)) := fun u s => ⟨g, HBK.out, ⟨_, rfl, by rw [HL.out]; exact I9.give hv (by have := HI8.out.size; omega) u s⟩, I9.fin u s⟩
        clear hv I9 hb9 HI8 hX hY
        go_wp2
        exact bodyPost_ret (v := .tuple #[.agg #[.slice s1 X t1, .slice s2 Y t2], .int .i64 0]) (by simp [results, Try.results29, go_sem, HT9.out.1, HT9.out.2]) rfl (HF.out _ _)
  case true =>
    obtain ⟨w4, hw4⟩ : ∃ w4, w4 = w3 := ⟨_, rfl⟩
    subst hw4
    have I4 := I3
    clear I3 HC1
    have q0 := I4.q0
    have q1 := I4.q1
    have C2 := HT.out w4 I4.bel
    have HI4 := hide I4
    clear I4 HT
    go_wp2_with fail
    refine C2.mono ?_
    clear C2 q0 q1
    rintro e w5 ⟨⟨bi, rfl, hbi1, hbi2, hri⟩, hb5⟩
    have I5 := HI4.out.next hb5
    have C3 := HS.out w5 bi I5.bel hbi2 hri
    have HI5 := hide I5
    clear I5 HI4 hri hb5 HS hbi1 hbi2
    go_wp2_with fail
    refine C3.mono ?_
    clear C3
    rintro e w6 ⟨⟨b, g, rfl, hb1', hb2', hrow, hblk⟩, hb6⟩
    have I6 := HI5.out.next hb6
    clear HI5 hb6 hb1'
    obtain ⟨bn, hbn⟩ : ∃ bn, w6.heap.size = bn := ⟨_, rfl⟩
    have mk := HMK.out
    obtain ⟨W7, e7⟩ : ∃ W7, w6.alloc (.cells (madeCells #[.int .i64 0] N) 2) = W7 := ⟨_, rfl⟩
    have rm : W7.rowIs bn 2 N (fun _ => .int .i64 0) := by rw [← e7, ← hbn]; exact World.rowIs_made w6 (.int .i64 0) N 2
    have B7 : Below bn w6 W7 := by rw [← e7, ← hbn]; exact one_alloc _ _
    have S0 : St w6 bn N (fun i => if i < 0 then g i else 0) W7 := ⟨B7, by rw [← e7]; simp [hbn], fun i hi => ⟨by have := rm.cell (i := i) hi; simpa using this, rm.frozen i⟩⟩
    have HS0 := hide S0
    have HE7 := hide (And.intro e7 hbn)
    have HI6 := hide I6
    have HBK := hide hblk
    have HRW := hide hrow
    have HBB := hide (And.intro hb2' hbn)
    clear S0 rm B7 I6 hblk hrow e7 hb2' hbn
    go_wp2
    rw [HE7.out.1, HE7.out.2]
    clear mk
    go_loopg [37] N (fun m j wr => ∃ k : Nat, m + k = N ∧ j = .int .i64 (k : Int) ∧ St w6 bn N (fun i => if i < k then g i else 0) wr)
    case atStart => exact ⟨0, rfl, rfl, HS0.out⟩
    case round =>
      clear HS0
      obtain ⟨k, hm, rfl, hs⟩ := hrel
      by_cases hlt : k < N
      · have hltz : (k : Int) < (N : Int) := by omega
        obtain ⟨c0, f0⟩ := hs.row k hlt
        have hh := HBB.out
        have u0 := (hs.bel.cell (p := ⟨b, k, none⟩) (by show b < bn; omega)).trans (HRW.out k hlt)
        have HN : Hid (St w6 bn N (fun i => if i < k + 1 then g i else 0) (wr.setCell ⟨bn, k, none⟩ (.int .i64 (g k)))) := by
          refine (hs.set hlt (g k)).congr fun i hi => ?_
          unfold upd
          by_cases e : i = k
          · rw [if_pos e, if_pos (by omega), e]
          · rw [if_neg e]
            show (if i < k then g i else 0) = _
            by_cases e2 : i < k
            · rw [if_pos e2, if_pos (by omega)]
            · rw [if_neg e2, if_neg (by omega)]
        replace c0 : ∃ z, wr.cell? ⟨bn, k, none⟩ = some (.int .i64 z) := ⟨_, c0⟩
        obtain ⟨z, c0⟩ := c0
        have hgr := HBK.out.2 k (Nat.zero_le _) hlt
        generalize g k = gk at *
        clear hs hh
        go_wp2
        go_roundg (N - (k + 1))
        case rel => exact ⟨k + 1, by omega, by go_num, HN.out⟩
        case measure => omega
      · have hke : k = N := by omega
        subst hke
        obtain ⟨l, hl⟩ : ∃ l, (List.range k).map g = l := ⟨_, rfl⟩
        have hll : l.length = k := by rw [← hl]; simp
        have hh := HBB.out
        have R : Row bn wr (some ⟨bn, 0, none⟩) l := by
          refine ⟨by rw [hll]; omega, Or.inr ⟨bn, 0, rfl, Nat.le_refl _, hs.lt, fun i hi => ?_⟩⟩
          rw [hll] at hi
          rw [Nat.zero_add, (hs.row i hi).1, if_pos hi, ← hl]
          simp [hi]
        have C := nums_any n l (some ⟨bn, 0, none⟩) k wr R (by rw [hll]; omega)
        rw [hll] at C
        have I8 := HI6.out.belowS hs.bel (by have := HI6.out.size; omega)
        have HI8 := hide I8
        have HL := hide hl
        clear hs R hh I8 hl hll HI6
        go_wp2_with fail
        refine C.mono ?_
        clear C
        rintro e w9 ⟨⟨v, rfl, hv⟩, hb9⟩
        have I9 := HI8.out.next hb9
        obtain ⟨s1, t1, s2, t2, rfl, -, -⟩ := hv.form
        have p0 := I9.p0
        have p1 := I9.p1
        have f0 := I9.f0
        have f1 := I9.f1
        obtain ⟨X, hX⟩ : ∃ X, (numsA l).shape.length = X := ⟨_, rfl⟩
        obtain ⟨Y, hY⟩ : ∃ Y, (numsA l).cells.length = Y := ⟨_, rfl⟩
        rw [hX, hY] at hv ⊢
        have HT9 := hide (I9.put (.slice s1 X t1) (.slice s2 Y t2))
        have HF : Hid (∀ u s, ∃ g, Blk (byJ n cs M) g 0 k ∧ (∃ v, Ending.returned (.tuple #[.agg #[.slice s1 X t1, .slice s2 Y t2], .int .i64 0]) = .returned (.tuple #[v, .int .i64 0]) ∧ ArIn (n + 1) w.heap.size ((w9.setCell ⟨w.heap.size + 1, 0, none⟩ u).setCell ⟨w.heap.size + 1, 1, none⟩ s) (numsA ((List.range k).map g)) v) ∧ Below w.heap.size w ((w9.setCell ⟨w.heap.size + 1, 0, none⟩ u).setCell ⟨w.heap.size + 1, 1, none⟩ s)) := fun u s => ⟨g, HBK.out, ⟨_, rfl, by rw [HL.out]; exact I9.give hv (by have := HI8.out.size; omega) u s⟩, I9.fin u s⟩
        clear hv I9 hb9 HI8 hX hY
        go_wp2
        exact bodyPost_ret (v := .tuple #[.agg #[.slice s1 X t1, .slice s2 Y t2], .int .i64 0]) (by simp [results, Try.results29, go_sem, HT9.out.1, HT9.out.2]) rfl (HF.out _ _)
end Go.Proofs.Ytimkcpbgnoekcaa
namespace Go.Proofs.Ytimkcpbgnoekcaa
open Go.ChangeShapes Go.WideShapes Go.ChangeAt Go.RowKit
set_option linter.unusedVariables false
set_option maxRecDepth 100000
set_option maxHeartbeats 2000000 in
theorem finder_any {n lo CA c2 : Nat} {cs : List Ce} {a2 : Option Addr} {ab : Nat → Option Addr} {cb : Nat → Nat} {w : World} (hcf : CellsFn n lo w cs a2 ab cb) (hCA : cs.length = CA) (h16 : CA ≤ 16384) :
    Calls Try.prog 47 #[.slice a2 CA c2] w fun e w' => (∃ bo bc b g, e = .returned (.func (.func 73) #[] #[.pointer (some ⟨bo, 0, none⟩), .pointer (some ⟨bc, 0, none⟩)]) ∧ w.heap.size ≤ bo ∧ w.heap.size ≤ bc ∧ w.heap.size ≤ b ∧ FindW n lo cs a2 CA c2 bo bc ab cb b g w') ∧ Below w.heap.size w w' := by
  obtain ⟨W1, e1⟩ : ∃ W1, w.alloc (.cells #[.slice a2 CA c2] 23) = W1 := ⟨_, rfl⟩
  have B1 : Below w.heap.size w W1 := by rw [← e1]; exact one_alloc _ _
  have z1 : W1.heap.size = w.heap.size + 1 := by rw [← e1]; simp
  have q0 : W1.cell? ⟨w.heap.size, 0, none⟩ = some (.slice a2 CA c2) := by rw [← e1]; exact cell_new0 w _ 23 0 _ rfl
  have C := sorted72 (c2 := c2) (hcf.next B1) hCA h16
  have HB := hide (And.intro B1 (And.intro z1 (And.intro q0 (And.intro (hcf.next B1) hCA))))
  clear hcf hCA B1 z1
  go_enter Try.func47, Try.ntmps47
  go_wp2_with fail
  clear e1 q0
  refine C.mono ?_
  clear C
  rintro e w5 ⟨⟨b, g, rfl, hb1, hb2, hrow, hblk⟩, hb5⟩
  have hh := HB.out
  obtain ⟨W6, e6⟩ : ∃ W6, w5.alloc (.cells #[.slice (some ⟨b, 0, none⟩) CA CA] 22) = W6 := ⟨_, rfl⟩
  have B6 : Below w5.heap.size w5 W6 := by rw [← e6]; exact one_alloc _ _
  have z6 : W6.heap.size = w5.heap.size + 1 := by rw [← e6]; simp
  have B16 : Below W1.heap.size W1 W6 := hb5.trans (B6.mono hb5.size)
  have hs5 := hb5.size
  have HF : Hid ((∃ bo bc b g, Ending.returned (.func (.func 73) #[] #[.pointer (some ⟨w5.heap.size, 0, none⟩), .pointer (some ⟨w.heap.size, 0, none⟩)]) = .returned (.func (.func 73) #[] #[.pointer (some ⟨bo, 0, none⟩), .pointer (some ⟨bc, 0, none⟩)]) ∧ w.heap.size ≤ bo ∧ w.heap.size ≤ bc ∧ w.heap.size ≤ b ∧ FindW n lo cs a2 CA c2 bo bc ab cb b g W6) ∧ Below w.heap.size w W6) := by
    refine ⟨⟨w5.heap.size, w.heap.size, b, g, rfl, by omega, Nat.le_refl _, by omega, ⟨hh.2.2.2.1.next B16, hh.2.2.2.2, ?_, ?_, fun i hi => (B6.cell (p := ⟨b, i, none⟩) hb2).trans (hrow i hi), by omega, by omega, by omega, hblk⟩⟩, hh.1.trans (B16.mono hh.1.size)⟩
    · rw [← e6]; exact cell_new0 w5 _ 22 0 _ rfl
    · exact (B16.cell (p := ⟨w.heap.size, 0, none⟩) (by show w.heap.size < _; omega)).trans hh.2.2.1
  have HE6 := hide e6
  clear hrow hblk hb5 hh B6 z6 B16 hs5 e6
  go_wp2
  rw [HE6.out]
  go_ret
  exact HF.out
/-- What found's function leans on. -/
def Num49 (n lo : Nat) (cs : List Ce) (bp : Nat) (W : World) : Prop := ∃ a2 CA c2 bo bc ab cb b g, CA ≤ 16384 ∧ bp < W.heap.size ∧ W.cell? ⟨bp, 0, none⟩ = some (.func (.func 73) #[] #[.pointer (some ⟨bo, 0, none⟩), .pointer (some ⟨bc, 0, none⟩)]) ∧ FindW n lo cs a2 CA c2 bo bc ab cb b g W
theorem Num49.next {n lo : Nat} {cs : List Ce} {bp : Nat} {W W' : World} (h : Num49 n lo cs bp W) (hb : Below W.heap.size W W') : Num49 n lo cs bp W' := by
  obtain ⟨a2, CA, c2, bo, bc, ab, cb, b, g, h1, h2, h3, h4⟩ := h
  exact ⟨a2, CA, c2, bo, bc, ab, cb, b, g, h1, Nat.lt_of_lt_of_le h2 hb.size, (hb.cell (p := ⟨bp, 0, none⟩) h2).trans h3, h4.next hb⟩
set_option maxHeartbeats 2000000 in
theorem clo49 {n lo lo' : Nat} {cs : List Ce} {bp cd : Nat} {ad : Option Addr} {d : Ce} {w : World} (h : Num49 n lo cs bp w) (hd : CeIn (ArIn n lo' w) lo' w d (.int .i64 d.1) (.int .i64 d.2.1) (.slice ad d.2.2.length cd)) :
    Calls Try.prog 49 #[.agg #[.int .i64 d.1, .int .i64 d.2.1, .slice ad d.2.2.length cd], .pointer (some ⟨bp, 0, none⟩)] w fun e w' => e = .returned (.int .i64 (plcC n cs d : Int)) ∧ Below w.heap.size w w' := by
  obtain ⟨W1, e1⟩ : ∃ W1, w.alloc (.cells #[.int .i64 d.1, .int .i64 d.2.1, .slice ad d.2.2.length cd] 39) = W1 := ⟨_, rfl⟩
  have B1 : Below w.heap.size w W1 := by rw [← e1]; exact one_alloc _ _
  obtain ⟨a2, CA, c2, bo, bc, ab, cb, b, g, h1, h2, h3, h4⟩ := h.next B1
  have C := place73 h4 h1 (hd.mono (Nat.le_refl _) B1 fun x v g => g.mono (Nat.le_refl _) B1)
  have k0 : W1.cell? ⟨w.heap.size, 0, none⟩ = some (.int .i64 d.1) := by rw [← e1]; exact cell_new0 w _ 39 0 _ rfl
  have k1 : W1.cell? ⟨w.heap.size, 1, none⟩ = some (.int .i64 d.2.1) := by rw [← e1]; exact cell_new0 w _ 39 1 _ rfl
  have k2 : W1.cell? ⟨w.heap.size, 2, none⟩ = some (.slice ad d.2.2.length cd) := by rw [← e1]; exact cell_new0 w _ 39 2 _ rfl
  have HB1 := hide B1
  generalize plcC n cs d = PL at *
  generalize d.1 = y0 at *
  generalize d.2.1 = y1 at *
  generalize d.2.2.length = y2 at *
  clear h hd h4 h1 h2 B1
  go_enter Try.func49, Try.ntmps49
  go_wp2_with fail
  refine C.mono ?_
  clear C
  rintro e w5 ⟨rfl, hb5⟩
  have HF := hide (HB1.out.trans (hb5.mono HB1.out.size))
  clear hb5 e1 k0 k1 k2 h3
  go_wp2
  go_ret
  exact ⟨rfl, HF.out⟩
/-- What among's function leans on. -/
def Num50 (n lo : Nat) (cs : List Ce) (bp bb : Nat) (W : World) : Prop := ∃ a2 CA c2 bo bc ab cb b g, CA ≤ 16384 ∧ bp < W.heap.size ∧ W.cell? ⟨bp, 0, none⟩ = some (.func (.func 73) #[] #[.pointer (some ⟨bo, 0, none⟩), .pointer (some ⟨bc, 0, none⟩)]) ∧ bb < W.heap.size ∧ W.cell? ⟨bb, 1, none⟩ = some (.slice a2 CA c2) ∧ FindW n lo cs a2 CA c2 bo bc ab cb b g W
theorem Num50.next {n lo : Nat} {cs : List Ce} {bp bb : Nat} {W W' : World} (h : Num50 n lo cs bp bb W) (hb : Below W.heap.size W W') : Num50 n lo cs bp bb W' := by
  obtain ⟨a2, CA, c2, bo, bc, ab, cb, b, g, h1, h2, h3, h5, h6, h4⟩ := h
  exact ⟨a2, CA, c2, bo, bc, ab, cb, b, g, h1, Nat.lt_of_lt_of_le h2 hb.size, (hb.cell (p := ⟨bp, 0, none⟩) h2).trans h3, Nat.lt_of_lt_of_le h5 hb.size, (hb.cell (p := ⟨bb, 1, none⟩) h5).trans h6, h4.next hb⟩
def memC (n : Nat) (cs : List Ce) (d : Ce) : Int := if plcC n cs d < cs.length then 1 else 0
set_option maxHeartbeats 2000000 in
theorem clo50 {n lo lo' : Nat} {cs : List Ce} {bp bb cd : Nat} {ad : Option Addr} {d : Ce} {w : World} (h : Num50 n lo cs bp bb w) (hd : CeIn (ArIn n lo' w) lo' w d (.int .i64 d.1) (.int .i64 d.2.1) (.slice ad d.2.2.length cd)) :
    Calls Try.prog 50 #[.agg #[.int .i64 d.1, .int .i64 d.2.1, .slice ad d.2.2.length cd], .pointer (some ⟨bp, 0, none⟩), .pointer (some ⟨bb, 0, none⟩)] w fun e w' => e = .returned (.int .i64 (memC n cs d)) ∧ Below w.heap.size w w' := by
  obtain ⟨W1, e1⟩ : ∃ W1, w.alloc (.cells #[.int .i64 d.1, .int .i64 d.2.1, .slice ad d.2.2.length cd] 39) = W1 := ⟨_, rfl⟩
  have B1 : Below w.heap.size w W1 := by rw [← e1]; exact one_alloc _ _
  have z1 : W1.heap.size = w.heap.size + 1 := by rw [← e1]; simp
  obtain ⟨a2, CA, c2, bo, bc, ab, cb, b, g, h1, h2, h3, h5, h6, h4⟩ := h.next B1
  have k0 : W1.cell? ⟨w.heap.size, 0, none⟩ = some (.int .i64 d.1) := by rw [← e1]; exact cell_new0 w _ 39 0 _ rfl
  have k1 : W1.cell? ⟨w.heap.size, 1, none⟩ = some (.int .i64 d.2.1) := by rw [← e1]; exact cell_new0 w _ 39 1 _ rfl
  have k2 : W1.cell? ⟨w.heap.size, 2, none⟩ = some (.slice ad d.2.2.length cd) := by rw [← e1]; exact cell_new0 w _ 39 2 _ rfl
  have HB1 := hide B1
  have HC : Hid (∀ W, Below W1.heap.size W1 W → Calls Try.prog 73 #[.agg #[.int .i64 d.1, .int .i64 d.2.1, .slice ad d.2.2.length cd], .pointer (some ⟨bo, 0, none⟩), .pointer (some ⟨bc, 0, none⟩)] W fun e w' => e = .returned (.int .i64 (plcC n cs d : Int)) ∧ Below W1.heap.size W1 w') := fun W hW => by
    have hw := B1.trans (hW.mono B1.size)
    refine (place73 (h4.next hW) h1 (hd.mono (Nat.le_refl _) hw fun x v g => g.mono (Nat.le_refl _) hw)).mono ?_
    rintro e w' ⟨rfl, hb'⟩
    exact ⟨rfl, hW.trans (hb'.mono hW.size)⟩
  have HM : Hid (memC n cs d = if plcC n cs d < CA then 1 else 0) := by unfold Hid memC; rw [h4.len]
  obtain ⟨bd, hbd⟩ : ∃ bd, w.heap.size = bd := ⟨_, rfl⟩
  have HBD := hide hbd
  rw [hbd] at k0 k1 k2
  have hPL := fstZ_le (fun p => cmpC (cmpA n) (cAt cs p) d) cs.length
  have hPL2 : plcC n cs d ≤ CA := by have := h4.len; unfold plcC; omega
  generalize plcC n cs d = PL at *
  generalize memC n cs d = MM at *
  generalize d.1 = y0 at *
  generalize d.2.1 = y1 at *
  generalize d.2.2.length = y2 at *
  have KS : Hid (∀ W', Below W1.heap.size W1 W' → (Below W1.heap.size W1 W' ∧ W'.cell? ⟨bp, 0, none⟩ = some (.func (.func 73) #[] #[.pointer (some ⟨bo, 0, none⟩), .pointer (some ⟨bc, 0, none⟩)]) ∧ W'.cell? ⟨bb, 1, none⟩ = some (.slice a2 CA c2) ∧ W'.cell? ⟨bd, 0, none⟩ = some (.int .i64 y0) ∧ W'.cell? ⟨bd, 1, none⟩ = some (.int .i64 y1) ∧ W'.cell? ⟨bd, 2, none⟩ = some (.slice ad y2 cd))) := fun W' h => ⟨h, (h.cell (p := ⟨bp, 0, none⟩) h2).trans h3, (h.cell (p := ⟨bb, 1, none⟩) h5).trans h6, (h.cell (p := ⟨bd, 0, none⟩) (by show bd < _; omega)).trans k0, (h.cell (p := ⟨bd, 1, none⟩) (by show bd < _; omega)).trans k1, (h.cell (p := ⟨bd, 2, none⟩) (by show bd < _; omega)).trans k2⟩
  have HD0 : Hid (Below W1.heap.size W1 W1.drew) := (Below.refl _ _).drew
  have HE1 := hide e1
  obtain ⟨tb, htb⟩ : ∃ tb, decide (PL < CA) = tb := ⟨_, rfl⟩
  have HTB := hide htb
  clear h hd h4 h3 h5 h6 h2 B1 z1 k0 k1 k2 e1 hbd htb hPL
  go_enter Try.func50, Try.ntmps50
  go_upto_region 1 with fail
  rw [HE1.out, HBD.out]
  go_cut [11] from 5 to 11 (fun s wx => s = .bool tb ∧ Below W1.heap.size W1 wx)
  case first =>
    have htb := HTB.out
    go_region_held3 (fun W' => Below W1.heap.size W1 W' ∧ W'.cell? ⟨bp, 0, none⟩ = some (.func (.func 73) #[] #[.pointer (some ⟨bo, 0, none⟩), .pointer (some ⟨bc, 0, none⟩)]) ∧ W'.cell? ⟨bb, 1, none⟩ = some (.slice a2 CA c2) ∧ W'.cell? ⟨bd, 0, none⟩ = some (.int .i64 y0) ∧ W'.cell? ⟨bd, 1, none⟩ = some (.int .i64 y1) ∧ W'.cell? ⟨bd, 2, none⟩ = some (.slice ad y2 cd))
      (first | with_reducible exact KS.out _ HD0.out | with_reducible exact KS.out _ (by with_reducible assumption))
      (first | (go_at_call 73; refine (HC.out _ HD0.out).mono ?_; rintro e w5 ⟨rfl, hb5⟩))
    all_goals
      go_wp2
      go_meet
    all_goals
      case rel => exact ⟨rfl, hb5⟩
  case rest =>
  obtain ⟨rfl, hb9⟩ := hcut
  have HF := hide (HB1.out.trans (hb9.mono HB1.out.size))
  clear hb9 HC KS
  go_upto_if 11 with fail
  cases tb
  case true =>
    have HE : Hid (MM = 1) := by unfold Hid; rw [HM.out, if_pos (of_decide_eq_true HTB.out)]
    go_wp2
    go_ret
    exact ⟨by rw [HE.out]; rfl, HF.out⟩
  case false =>
    have HE : Hid (MM = 0) := by unfold Hid; rw [HM.out, if_neg (of_decide_eq_false HTB.out)]
    go_wp2
    go_ret
    exact ⟨by rw [HE.out]; rfl, HF.out⟩
end Go.Proofs.Ytimkcpbgnoekcaa
namespace Go.Proofs.Ytimkcpbgnoekcaa
open Go.ChangeShapes Go.WideShapes Go.ChangeAt Go.RowKit
set_option linter.unusedVariables false
set_option maxRecDepth 100000
theorem keeps_of_below {lo : Nat} {w w' : World} (hb : Below w.heap.size w w') : Keeps lo w w' := ⟨hb.size, fun b _ h => hb.block b h⟩
end Go.Proofs.Ytimkcpbgnoekcaa
