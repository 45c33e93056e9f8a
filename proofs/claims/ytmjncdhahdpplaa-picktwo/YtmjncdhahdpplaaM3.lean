/-
  The contract of layer 6's taken.
  The contracts of layer 6's inTurn (a part of the one and a part of the other in turn) and cellsIn.
  The contract of layer 6's cellsIn: an array's cells in the shape in which it stands.
  The contract of layer 6's lookedUp.
  The contracts of layer 6's listed (its own cells kept) and of pieces, function by function.
  The contract of layer 6's Dy, out of that of pieces.
  What comes of layer 6's rotated, lookedUp and taken may be; Dy of these.
  Two arrays joined, as plain data: shapes and cells. Mathematics.
-/
import Derived.Test.YtmjncdhahdpplaaM2
import Derived.Test.YtmjncdhahdpplaaChecked
import GoSem.Claim
import GoSem.ClaimJoined
import GoSem.ClaimMapViews
import Derived.JoinedTies
import Derived.KernelRfl
import Derived.WalkKit
import Derived.ProofKit
import Derived.Below
import Derived.Deep.OwnRows
import Derived.Deep.QuietTactic
import Derived.BigQuiet
import Derived.Deep.RegionWith
import Derived.Laws.MakeOwn
import Derived.Deep.RegionHeld3
import Derived.Laws.IdiomCopy
import Derived.Deep.Cut
import Derived.Deep.LoopGhost
import Derived.OpenShut
import Derived.ChangeOld
import Derived.SizedLaws
import Derived.Deep.Slices
import Derived.Deep.Strs
import Derived.Laws.AppendOwn
import Derived.BigFrame
import Derived.Deep.CutRange
import Derived.Deep.RegionLaw
import Derived.Laws.OwnMore
import Derived.Lib.SliceRun
import Derived.Laws.CopyOwn
import Derived.Lib.Overlaps
import Derived.Lib.Mul64
namespace Go.Proofs.Ytmjncdhahdpplaa
open Go.ChangeShapes Go.WideShapes Go.ChangeAt Go.RowKit
set_option linter.unusedVariables false
set_option maxRecDepth 100000
/-- Cells of an array, m of them from place d on, laid over a row of one cell from place s on. -/
def layC (cs : List Ce) (f0 f1 : Int) (s d m p : Nat) : Ce := if s ≤ p ∧ p < s + m then cAt cs (d + (p - s)) else (f0, f1, [])
def layT (cs : List Ce) (ab : Nat → Option Addr) (cb : Nat → Nat) (f0 f1 : Int) (s d m p : Nat) : Value × Value × Value := if s ≤ p ∧ p < s + m then cellT cs ab cb (d + (p - s)) else (.int .i64 f0, .int .i64 f1, .slice none 0 0)
theorem lay_row (cs : List Ce) (ab : Nat → Option Addr) (cb : Nat → Nat) (f0 f1 : Int) (s d m N p : Nat) (hp : p < N) (hm : s + m ≤ N) : ∀ j, j < 3 → spF (gF (fun _ => ((.int .i64 f0, .int .i64 f1, .slice none 0 0) : Value × Value × Value)) N) (s * 3) (rowT (fun q => cellT cs ab cb (d + q)) m) (p * 3 + j) = (if j = 0 then (layT cs ab cb f0 f1 s d m p).1 else if j = 1 then (layT cs ab cb f0 f1 s d m p).2.1 else (layT cs ab cb f0 f1 s d m p).2.2) := by
  intro j hj
  unfold spF layT
  rw [rowT_len]
  by_cases h : s ≤ p ∧ p < s + m
  · rw [if_pos (by omega), if_pos h]
    obtain ⟨t0, t1, t2⟩ := rowT_at (fun q => cellT cs ab cb (d + q)) m (p - s) (by omega)
    have hj3 : j = 0 ∨ j = 1 ∨ j = 2 := by omega
    rcases hj3 with rfl | rfl | rfl
    · rw [show p * 3 + 0 - s * 3 = (p - s) * 3 by omega, t0]; rfl
    · rw [show p * 3 + 1 - s * 3 = (p - s) * 3 + 1 by omega, t1]; rfl
    · rw [show p * 3 + 2 - s * 3 = (p - s) * 3 + 2 by omega, t2]; rfl
  · rw [if_neg (by omega), if_neg h]
    obtain ⟨s0, s1, s2⟩ := gF_at (fun _ => ((.int .i64 f0, .int .i64 f1, .slice none 0 0) : Value × Value × Value)) N p hp
    have hj3 : j = 0 ∨ j = 1 ∨ j = 2 := by omega
    rcases hj3 with rfl | rfl | rfl
    · rw [Nat.add_zero, s0]; rfl
    · rw [s1]; rfl
    · rw [s2]; rfl
theorem lay_cells {n lo : Nat} {w0 w W : World} {cs : List Ce} {ab : Nat → Option Addr} {cb : Nat → Nat} (hce : ∀ i, i < cs.length → CeIn (ArIn n lo w0) lo w0 (cAt cs i) (cellT cs ab cb i).1 (cellT cs ab cb i).2.1 (cellT cs ab cb i).2.2) (hW : Below w0.heap.size w0 W) {g N s d m : Nat} {f0 f1 : Int} (hg : g < W.heap.size)
    (hr : W.rowIs g 36 (N * 3) (spF (gF (fun _ => ((.int .i64 f0, .int .i64 f1, .slice none 0 0) : Value × Value × Value)) N) (s * 3) (rowT (fun q => cellT cs ab cb (d + q)) m))) (hm : s + m ≤ N) (hd : d + m ≤ cs.length) : CellsIn n 0 W (mkCs N (layC cs f0 f1 s d m)) (some ⟨g, 0, none⟩) := by
  by_cases hN : N = 0
  · left; subst hN; rfl
  refine Or.inr ⟨g, 0, rfl, Nat.zero_le _, hg, fun i hi => ?_⟩
  rw [mkCs_len] at hi
  have c0 := hr.cell (i := i * 3 + 0) (by omega)
  have c1 := hr.cell (i := i * 3 + 1) (by omega)
  have c2 := hr.cell (i := i * 3 + 2) (by omega)
  rw [lay_row cs ab cb f0 f1 s d m N i hi hm 0 (by omega)] at c0
  rw [lay_row cs ab cb f0 f1 s d m N i hi hm 1 (by omega)] at c1
  rw [lay_row cs ab cb f0 f1 s d m N i hi hm 2 (by omega)] at c2
  rw [Nat.zero_add, mkCs_at _ _ _ hi]
  refine ⟨_, _, _, c0, c1, c2, ?_⟩
  simp only [if_true, if_false, show ¬ (1 : Nat) = 0 by omega, show ¬ (2 : Nat) = 0 by omega, show ¬ (2 : Nat) = 1 by omega]
  unfold layC layT
  by_cases h : s ≤ i ∧ i < s + m
  · simp only [if_pos h]
    exact (hce (d + (i - s)) (by omega)).mono (Nat.zero_le _) hW fun x v h => h.mono (Nat.zero_le _) hW
  · simp only [if_neg h]
    exact ⟨rfl, rfl, none, 0, rfl, by simp, Or.inl rfl⟩
theorem subA_zero (a : Option Addr) (c sz : Nat) : subA a 0 c sz = a := by
  unfold subA
  split
  · rfl
  · cases a with
    | none => rfl
    | some p => cases p with | mk b o f => simp [Addr.add]
theorem spF_all {f g : Nat → Value} {cs : List Value} {i : Nat} (h : i < cs.length) : spF f 0 cs i = spF g 0 cs i := by
  unfold spF
  rw [if_pos ⟨Nat.zero_le _, by omega⟩, if_pos ⟨Nat.zero_le _, by omega⟩]
def takR (x y : Ar) : Ar × Int :=
  if ¬ (numR x).2 = 0 then (zeroA, (numR x).2) else if 16384 < (numR x).1 ∨ (numR x).1 < -16384 then (zeroA, 12) else
  if ¬ sizeE (y.shape.set 0 ((numR x).1.natAbs : Int)) = 0 then (zeroA, sizeE (y.shape.set 0 ((numR x).1.natAbs : Int))) else
  if y.cells.length < (sizeV (y.shape.set 0 ((numR x).1.natAbs : Int))).toNat ∧ ¬ (fillR y).2.2 = 0 then (zeroA, (fillR y).2.2) else
  (.mk (y.shape.set 0 ((numR x).1.natAbs : Int)) (mkCs (sizeV (y.shape.set 0 ((numR x).1.natAbs : Int))).toNat (layC y.cells (fillR y).1 (fillR y).2.1 (if (numR x).1 < 0 then (sizeV (y.shape.set 0 ((numR x).1.natAbs : Int))).toNat - y.cells.length else 0) (if (numR x).1 < 0 then y.cells.length - (sizeV (y.shape.set 0 ((numR x).1.natAbs : Int))).toNat else 0) (Nat.min y.cells.length (sizeV (y.shape.set 0 ((numR x).1.natAbs : Int))).toNat))), 0)
set_option maxHeartbeats 8000000 in
theorem taken_row {n m lo lo' lo2 : Nat} {x y : Ar} {va : Value} {b1 b2 : Option Addr} {d1 d2 : Nat} {w0 w : World} (hx : ArIn (m + 1) lo w0 x va) (R' : Row lo2 w b1 y.shape) (hc' : CellsIn n lo' w0 y.cells b2) (hb0 : Below w0.heap.size w0 w) (hcx : chkA 8 x = 0) (hcy : chkA 8 y = 0) (hcap : Caps (.agg #[.slice b1 y.shape.length d1, .slice b2 y.cells.length d2])) (hS : 0 < y.shape.length) :
    Calls Try.prog 75 #[va, .agg #[.slice b1 y.shape.length d1, .slice b2 y.cells.length d2]] w fun e w' => Gives2K (n + 1) w0 (takR x y).1 (takR x y).2 w e w' := by
  obtain ⟨a1, c1, a2, c2, rfl, R, hc⟩ := hx.form
  have hy : ∀ W, Below w.heap.size w W → ArIn (n + 1) 0 W y (.agg #[.slice b1 y.shape.length d1, .slice b2 y.cells.length d2]) := fun W h => arIn_mk ((R'.next h).low (Nat.zero_le _)) (by have := (chk_len hcy).2; omega) (hc'.mono (Nat.zero_le _) (hb0.trans (h.mono hb0.size))) rfl rfl
  have I := in3_new w (.slice a1 x.shape.length c1) (.slice a2 x.cells.length c2) (.slice b1 y.shape.length d1) (.slice b2 y.cells.length d2)
  obtain ⟨W3, e3⟩ : ∃ W3, ((w.alloc (.cells #[.slice a1 x.shape.length c1, .slice a2 x.cells.length c2] 25)).alloc (.cells #[.slice b1 y.shape.length d1, .slice b2 y.cells.length d2] 25)).alloc (.cells #[.slice none 0 0, .slice none 0 0] 25) = W3 := ⟨_, rfl⟩
  rw [e3] at I
  have q0 := I.q0
  have q1 := I.q1
  have CN := number_any (hx.next (hb0.trans (I.bel.mono hb0.size))) hcx
  have HI := hide I
  have HB0 := hide hb0
  have HY := hide (And.intro hy (And.intro hcy hcap))
  have HRY := hide (And.intro R' hc')
  obtain ⟨l8, cy16⟩ := chk_len hcy
  unfold takR
  obtain ⟨⟨Nn, NE⟩, hNR⟩ : ∃ p, numR x = p := ⟨_, rfl⟩
  rw [hNR] at CN ⊢
  simp only at CN ⊢
  obtain ⟨sh, hsh⟩ : ∃ sh, y.shape.set 0 (Nn.natAbs : Int) = sh := ⟨_, rfl⟩
  have HSH := hide hsh
  rw [hsh]
  obtain ⟨⟨F0, F1, FE⟩, hF⟩ : ∃ p, fillR y = p := ⟨_, rfl⟩
  have HF := hide hF
  rw [hF]
  simp only
  obtain ⟨SX, hSX⟩ : ∃ SX, x.shape.length = SX := ⟨_, rfl⟩
  obtain ⟨CX, hCX⟩ : ∃ CX, x.cells.length = CX := ⟨_, rfl⟩
  obtain ⟨SY, hSY⟩ : ∃ SY, y.shape.length = SY := ⟨_, rfl⟩
  obtain ⟨CY, hCY⟩ : ∃ CY, y.cells.length = CY := ⟨_, rfl⟩
  have HSC := hide (And.intro hSY hCY)
  simp only [hSX, hCX, hSY, hCY] at CN e3 q0 q1 HI HY l8 cy16 hS ⊢
  obtain ⟨RES, hRES⟩ : ∃ RES, RES = (if ¬ NE = 0 then (zeroA, NE) else if 16384 < Nn ∨ Nn < -16384 then (zeroA, 12) else if ¬ sizeE sh = 0 then (zeroA, sizeE sh) else if CY < (sizeV sh).toNat ∧ ¬ FE = 0 then (zeroA, FE) else (.mk sh (mkCs (sizeV sh).toNat (layC y.cells F0 F1 (if Nn < 0 then (sizeV sh).toNat - CY else 0) (if Nn < 0 then CY - (sizeV sh).toNat else 0) (Nat.min CY (sizeV sh).toNat))), (0 : Int))) := ⟨_, rfl⟩
  have HRES := hide hRES
  rw [← hRES]
  clear R hc I hx hy R' hc' hSX hCX hSY hCY hb0 hcx hcy hcap hNR hsh hF hRES
  go_enter Try.func75, Try.ntmps75
  go_wp2_with fail
  clear e3 q0 q1
  refine CN.mono ?_
  clear CN
  rintro e w1 ⟨rfl, hb1⟩
  have I1 := HI.out.next hb1
  have r0 := I1.r0
  have r1 := I1.r1
  have p0 := I1.p0
  have p1 := I1.p1
  have f0 := I1.f0
  have f1 := I1.f1
  have HI1 := hide I1
  have HT0 := hide (I1.put (.slice none 0 0) (.slice none 0 0))
  by_cases hNE : NE = 0
  case neg =>
    have HE5 : Hid (RES = (zeroA, NE)) := by unfold Hid; rw [HRES.out, if_pos hNE]
    have hne : (NE == 0) = false := beq_eq_false_iff_ne.2 hNE
    clear I1 HY HRY hb1 HI r0 r1 HRES
    go_wp2
    exact bodyPost_ret (v := .tuple #[.agg #[.slice none 0 0, .slice none 0 0], .int .i64 NE]) (by simp [results, Try.results75, go_sem, HT0.out.1, HT0.out.2]) rfl (gives2k_of HE5.out caps_nil (fun _ _ _ => zeroA_in _ _ _) (HI1.out.fin _ _))
  subst hNE
  by_cases hbig : 16384 < Nn
  · have HE5 : Hid (RES = (zeroA, 12)) := by unfold Hid; rw [HRES.out, if_neg (by simp), if_pos (Or.inl hbig)]
    clear I1 HY HRY hb1 HI r0 r1 HRES
    go_wp2
    exact bodyPost_ret (v := .tuple #[.agg #[.slice none 0 0, .slice none 0 0], .int .i64 12]) (by simp [results, Try.results75, go_sem, HT0.out.1, HT0.out.2]) rfl (gives2k_of HE5.out caps_nil (fun _ _ _ => zeroA_in _ _ _) (HI1.out.fin _ _))
  by_cases hsml : Nn < -16384
  · have HE5 : Hid (RES = (zeroA, 12)) := by unfold Hid; rw [HRES.out, if_neg (by simp), if_pos (Or.inr hsml)]
    clear I1 HY HRY hb1 HI r0 r1 HRES
    go_wp2
    exact bodyPost_ret (v := .tuple #[.agg #[.slice none 0 0, .slice none 0 0], .int .i64 12]) (by simp [results, Try.results75, go_sem, HT0.out.1, HT0.out.2]) rfl (gives2k_of HE5.out caps_nil (fun _ _ _ => zeroA_in _ _ _) (HI1.out.fin _ _))
  have HRES2 : Hid (RES = if ¬ sizeE sh = 0 then (zeroA, sizeE sh) else if CY < (sizeV sh).toNat ∧ ¬ FE = 0 then (zeroA, FE) else (.mk sh (mkCs (sizeV sh).toNat (layC y.cells F0 F1 (if Nn < 0 then (sizeV sh).toNat - CY else 0) (if Nn < 0 then CY - (sizeV sh).toNat else 0) (Nat.min CY (sizeV sh).toNat))), (0 : Int))) := by unfold Hid; rw [HRES.out, if_neg (by simp), if_neg (by omega)]
  obtain ⟨L, hL⟩ : ∃ L, Nn.natAbs = L := ⟨_, rfl⟩
  have hL16 : L ≤ 16384 := by omega
  rw [hL] at HSH
  by_cases hneg : Nn < 0
  · obtain rfl : Nn = -(L : Int) := by omega
    have hL0 : 0 < L := by omega
    rw [if_pos hneg, if_pos hneg] at HRES2
    clear hL hbig hsml hneg
    have C1 := reshaped_any y.shape b1 d1 0 (L : Int) w1 (HRY.out.1.next I1.bel) (by rw [HSC.out.1]; exact l8) (by rw [HSC.out.1]; exact hS)
    rw [HSH.out, HSC.out.1] at C1
    obtain ⟨SE, hSE⟩ : ∃ z, sizeE sh = z := ⟨_, rfl⟩
    obtain ⟨SV, hSV⟩ : ∃ z, sizeV sh = z := ⟨_, rfl⟩
    have HSS := hide (And.intro hSE hSV)
    rw [hSE, hSV] at C1 HRES2
    clear I1 hb1 HI HRES hSE hSV
    go_wp2_with fail
    clear r0 r1 p0 p1 f0 f1
    refine C1.mono ?_
    clear C1
    rintro e w2 ⟨⟨as', cs', rfl, ho⟩, hb2⟩
    have I2 := HI1.out.next hb2
    have HI2 := hide I2
    have r0 := I2.r0
    have r1 := I2.r1
    have p0 := I2.p0
    have p1 := I2.p1
    have f0 := I2.f0
    have f1 := I2.f1
    have HT2 := hide (I2.put (.slice none 0 0) (.slice none 0 0))
    have HO := hide (And.intro ho hb2)
    by_cases hSE0 : SE = 0
    case neg =>
      have HE5 : Hid (RES = (zeroA, SE)) := by unfold Hid; rw [HRES2.out, if_pos hSE0]
      have hne : (SE == 0) = false := beq_eq_false_iff_ne.2 hSE0
      clear I2 HY HRY hb2 r0 r1 HRES2 ho HO
      go_wp2
      exact bodyPost_ret (v := .tuple #[.agg #[.slice none 0 0, .slice none 0 0], .int .i64 SE]) (by simp [results, Try.results75, go_sem, HT2.out.1, HT2.out.2]) rfl (gives2k_of HE5.out caps_nil (fun _ _ _ => zeroA_in _ _ _) (HI2.out.fin _ _))
    subst hSE0
    obtain ⟨N, hN⟩ : ∃ N : Nat, SV = (N : Int) := ⟨SV.toNat, by have := (sizeV_le HSS.out.1).1; rw [HSS.out.2] at this; omega⟩
    have hN16 : N ≤ 16384 := by have := (sizeV_le HSS.out.1).2; rw [HSS.out.2] at this; omega
    subst hN
    rw [Int.toNat_natCast] at HRES2
    have mk := make_cells N (by omega) w2
    obtain ⟨W4, e4⟩ : ∃ W4, w2.alloc (.cells (madeCells #[.int .i64 0, .int .i64 0, .slice none 0 0] (N * 3)) 36) = W4 := ⟨_, rfl⟩
    rw [e4] at mk
    have B4 : Below w2.heap.size w2 W4 := by rw [← e4]; exact one_alloc _ _
    have z4 : W4.heap.size = w2.heap.size + 1 := by rw [← e4]; simp
    have I4 := I2.next B4
    have r04 := I4.r0
    have r14 := I4.r1
    have HI4 := hide I4
    by_cases hmore : CY < N
    · obtain ⟨sx, hsx⟩ : ∃ sx : Nat, N - CY = sx := ⟨_, rfl⟩
      have hsx1 : (N : Int) - (CY : Int) = (sx : Int) := by omega
      have hsx0 : 0 < sx := by omega
      have HSX := hide hsx
      clear hsx
      have CF := filling_any (HY.out.1 _ I4.bel)
      rw [HF.out] at CF
      simp only at CF
      have HB24 := hide B4
      clear I2 hb2 ho I4 B4 p0 p1 f0 f1 r0 r1 HT2
      go_wp2_with fail
      clear mk e4 r04 r14
      refine CF.mono ?_
      clear CF
      rintro e w5 ⟨rfl, hb5⟩
      have I5 := HI4.out.next hb5
      have I6 := I5.next (one_alloc w5 (.cells #[.int .i64 F0, .int .i64 F1, .slice none 0 0] 36))
      have HI6 := hide I6
      by_cases hFE : FE = 0
      case neg =>
        have HE5 : Hid (RES = (zeroA, FE)) := by unfold Hid; rw [HRES2.out, if_neg (by simp), if_pos ⟨hmore, hFE⟩]
        have hne : (FE == 0) = false := beq_eq_false_iff_ne.2 hFE
        have p0 := I6.p0
        have p1 := I6.p1
        have f0 := I6.f0
        have f1 := I6.f1
        have HT6 := hide (I6.put (.slice none 0 0) (.slice none 0 0))
        clear I5 I6 hb5 HY HRY HRES2
        go_wp2
        exact bodyPost_ret (v := .tuple #[.agg #[.slice none 0 0, .slice none 0 0], .int .i64 FE]) (by simp [results, Try.results75, go_sem, HT6.out.1, HT6.out.2]) rfl (gives2k_of HE5.out caps_nil (fun _ _ _ => zeroA_in _ _ _) (HI6.out.fin _ _))
      subst hFE
      have HE5 : Hid (RES = (.mk sh (mkCs N (layC y.cells F0 F1 (N - CY) (CY - N) (Nat.min CY N))), 0)) := by unfold Hid; rw [HRES2.out, if_neg (by simp), if_neg (by simp)]
      have zA : (w5.alloc (.cells #[.int .i64 F0, .int .i64 F1, .slice none 0 0] 36)).heap.size = w5.heap.size + 1 := by simp
      have CR := repeat_any (some ⟨w5.heap.size + 1, 0, none⟩) 1 N F0 F1 none 0 0 ((w5.alloc (.cells #[.int .i64 F0, .int .i64 F1, .slice none 0 0] 36)).alloc (.cells #[.int .i64 F0, .int .i64 F1, .slice none 0 0] 36)) (by
        refine ⟨Or.inr ⟨_, rfl, by show w5.heap.size + 1 < _; simp, fun j u hj => ?_⟩, fun u hu => ?_⟩
        · rw [add_off, Nat.zero_add, ← zA]
          exact cell_new0 _ _ 36 j u (by simpa using hj)
        · simp at hu; rcases hu with rfl | rfl | rfl <;> rfl) hN16
      have BA := two_allocs w5 (.cells #[.int .i64 F0, .int .i64 F1, .slice none 0 0] 36) (.cells #[.int .i64 F0, .int .i64 F1, .slice none 0 0] 36)
      have HI7 := hide (I5.next BA)
      have HBA := hide BA
      have HB45 := hide hb5
      clear I5 I6 hb5 zA BA
      go_wp2_with fail
      refine CR.mono ?_
      clear CR
      rintro e w8 ⟨⟨g, rfl, hg1, hg2, hrow⟩, hb8⟩
      have HB28 : Hid (Below w2.heap.size w2 w8) := (HB24.out.trans (HB45.out.mono HB24.out.size)).trans ((HBA.out.trans (hb8.mono HBA.out.size)).mono (Nat.le_trans HB24.out.size HB45.out.size))
      have HGB : Hid (w2.heap.size ≤ g) := by have h1 := HB24.out.size; have h2 := HB45.out.size; have h3 := HBA.out.size; unfold Hid; omega
      have HGL := hide hg2
      have I8 := HI7.out.next hb8
      have r18 := I8.r1
      have HI8 := hide I8
      have HG := hide (And.intro hg1 (And.intro hg2 hrow))
      clear I8 hg1 hg2 hrow hb8
      obtain ⟨ab, cb, hcf⟩ := cells_fn HRY.out.2
      have HCF := hide hcf
      rw [HSC.out.2] at HCF
      clear hcf
      have hmin : Nat.min CY N = CY := Nat.min_eq_left (by omega)
      have HLI : Hid (Lies w8.drew (subA b2 0 d2 3) (rowT (fun q => cellT y.cells ab cb ((CY - N) + q)) (Nat.min CY N))) := by
        rw [hmin, show CY - N = 0 by omega]
        by_cases h0 : CY = 0
        · rw [h0]; exact ⟨Or.inl rfl, fun u hu => by simp [rowT] at hu⟩
        · obtain ⟨b, off, rfl, -, hb, hcells⟩ := HCF.out (by omega)
          have hNB := HB0.out.trans (HI8.out.bel.mono HB0.out.size)
          exact (lies_part (w := w8) (cs := y.cells) (ab := ab) (cb := cb) (b := b) (off := off) (Nat.lt_of_lt_of_le hb hNB.size) (fun i hi => by
            rw [HSC.out.2] at hi
            obtain ⟨g0, g1, g2, -⟩ := hcells i hi
            exact ⟨(hNB.cell (p := ⟨b, off + i * 3, none⟩) hb).trans g0, (hNB.cell (p := ⟨b, off + i * 3 + 1, none⟩) hb).trans g1, (hNB.cell (p := ⟨b, off + i * 3 + 2, none⟩) hb).trans g2⟩) 0 CY d2 (by rw [HSC.out.2]; omega) (by rw [HSC.out.2]; exact (caps_form HY.out.2.2).2) (by omega)).drew
      obtain ⟨RW, hRW⟩ : ∃ RW, rowT (fun q => cellT y.cells ab cb ((CY - N) + q)) (Nat.min CY N) = RW := ⟨_, rfl⟩
      have HRW := hide hRW
      have HMM : Hid (Nat.min CY N = Nat.min CY (N - sx) ∧ RW.length = Nat.min CY N * 3 ∧ (N - CY) * 3 + RW.length ≤ N * 3) := by
        have hs' := HSX.out
        refine ⟨by rw [show N - sx = CY by omega, hmin]; exact (Nat.min_eq_left (Nat.le_refl _)).symm, by rw [← hRW, rowT_len], ?_⟩
        rw [← hRW, rowT_len, hmin]; omega
      rw [hRW] at HLI
      have HPOS : Hid (0 < Nat.min CY N → subA (some ⟨g, 0, none⟩) sx N 3 = some ⟨g, (N - CY) * 3, none⟩) := fun h => by
        have hs' := HSX.out
        rw [hmin] at h
        unfold subA
        rw [if_neg (by omega), Option.map_some, add_off, Nat.zero_add, hs']
      have hp1 : ∀ W, (Instr.sliceAt 23 (.slice (some ⟨g, 0, none⟩) N N) (some (.int .i64 (sx : Int))) none none).run Try.prog W = .ok (.slice (subA (some ⟨g, 0, none⟩) sx N 3) (N - sx) (N - sx)) W := fun W => part_l (P := Try.prog) Try.underlying23 size36 (some ⟨g, 0, none⟩) N N sx (sx : Int) rfl (by have := HSX.out; omega) W
      have hp2 : ∀ W, (Instr.sliceAt 23 (.slice b2 CY d2) (some (.int .i64 0)) none none).run Try.prog W = .ok (.slice (subA b2 0 d2 3) CY d2) W := fun W => part_l (P := Try.prog) Try.underlying23 size36 b2 CY d2 0 0 rfl (Nat.zero_le _) W
      have hif1 : (if (sx : Int) < 0 then (0 : Int) else (sx : Int)) = (sx : Int) := if_neg (by omega)
      have hif2 : (if -(sx : Int) < 0 then (0 : Int) else -(sx : Int)) = 0 := if_pos (by omega)
      have hif3 : (if 0 < sx then (0 : Int) else -(sx : Int)) = 0 := if_pos hsx0
      have hng : IntKind.i64.wrap (-(sx : Int)) = -(sx : Int) := IntWalk.i64_in _ ⟨by have := HSX.out; omega, by omega⟩
      have HROW : Hid (w8.drew.rowIs g 36 (N * 3) (gF (fun _ => ((.int .i64 F0, .int .i64 F1, .slice none 0 0) : Value × Value × Value)) N)) := HG.out.2.2
      obtain ⟨DP, hDP⟩ : ∃ DP, subA (some ⟨g, 0, none⟩) sx N 3 = DP := ⟨_, rfl⟩
      obtain ⟨SP, hSP⟩ : ∃ SP, subA b2 0 d2 3 = SP := ⟨_, rfl⟩
      rw [hDP] at HPOS
      simp only [hDP] at hp1
      rw [hSP] at HLI
      simp only [hSP] at hp2
      obtain ⟨mm, hmm⟩ : ∃ mm, Nat.min CY N = mm := ⟨_, rfl⟩
      have HMN := hide hmm
      rw [hmm] at HMM HPOS
      clear hRW hDP hSP hmin hmm
      go_wp2
      go_region_law (refine step_copy_rowIs rfl (.tmp 72) (.tmp 78) 23 23 rfl 36 3 Try.underlying23 size36 DP SP (N - sx) (N - sx) CY d2 mm (by go_simp) (by go_simp) g ((N - CY) * 3) (N * 3) 36 _ HROW.out RW HMM.out.1 HMM.out.2.1 HPOS.out HLI.out (by decide) HMM.out.2.2 ?_; intro w9 hrow9 hTw9)
      all_goals
        have hTw : Two w8 g g w9 := ⟨(Below.refl _ _).drew.trans hTw9.io, hTw9.size, hTw9.keep⟩
        rw [← HRW.out] at hrow9
        have I9 : In3 w (.slice a1 SX c1) (.slice a2 CX c2) (.slice b1 SY d1) (.slice b2 CY d2) w9 := HI8.out.belowS (hTw.belowB (B := w.heap.size + 3) (by have := HGB.out; have := HI2.out.size; omega) (by have := HGB.out; have := HI2.out.size; omega)) (Nat.le_refl _)
        clear hp1 hp2 HROW HLI HMM HPOS hTw9
        have HFIN : Hid (∀ u v, Gives2K (n + 1) w0 RES.1 RES.2 w (.returned (.tuple #[.agg #[.slice as' SY cs', .slice (some ⟨g, 0, none⟩) N N], .int .i64 0])) ((w9.setCell ⟨w.heap.size + 2, 0, none⟩ u).setCell ⟨w.heap.size + 2, 1, none⟩ v)) := by
          intro u v
          have hshl : sh.length = SY := by rw [← HSH.out, List.length_set, HSC.out.1]
          refine gives2k_of HE5.out ⟨_, _, _, _, _, _, rfl, by have := HO.out.1.1; rw [hshl] at this; exact this, Nat.le_refl _⟩ (fun W hW hK => ?_) (I9.fin u v)
          have K2 := (keeps_three w9 w.heap.size u v).trans (hK.mono (show w.heap.size ≤ w.heap.size + 3 by omega))
          have RS : Row 0 W as' sh := by
            have k1 : Keeps w1.heap.size w2 w9 := ⟨by rw [hTw.size]; exact HB28.out.size, fun b h1 h2 => (hTw.keep b (by have := HGB.out; omega) (by have := HGB.out; omega)).trans (HB28.out.block b h2)⟩
            exact ((HO.out.1.2.2.keeps (k1.trans (K2.mono (by have := HI1.out.size; omega)))).low (Nat.zero_le _))
          have hgl : g < w9.heap.size := by rw [hTw.size]; exact HGL.out
          have hrW : W.rowIs g 36 (N * 3) (spF (gF (fun _ => ((.int .i64 F0, .int .i64 F1, .slice none 0 0) : Value × Value × Value)) N) ((N - CY) * 3) (rowT (fun q => cellT y.cells ab cb ((CY - N) + q)) (Nat.min CY N))) := by
            obtain ⟨cc, k1, k2, k3⟩ := hrow9
            exact ⟨cc, (K2.2 g (by have := HGB.out; have := HI1.out.size; have := HO.out.2.size; omega) hgl).trans k1, k2, k3⟩
          have hce : ∀ i, i < y.cells.length → CeIn (ArIn n lo' w0) lo' w0 (cAt y.cells i) (cellT y.cells ab cb i).1 (cellT y.cells ab cb i).2.1 (cellT y.cells ab cb i).2.2 := fun i hi => by
            rw [HSC.out.2] at hi
            obtain ⟨b, off, -, -, -, hcl⟩ := HCF.out (by omega)
            exact (hcl i hi).2.2.2
          have hmin1 : Nat.min CY N ≤ CY := Nat.min_le_left _ _
          have hmin2 : Nat.min CY N ≤ N := Nat.min_le_right _ _
          have hmn : CY ≤ N ∧ Nat.min CY N = CY ∨ N ≤ CY ∧ Nat.min CY N = N := by
            rcases Nat.le_total CY N with h | h
            · exact Or.inl ⟨h, Nat.min_eq_left h⟩
            · exact Or.inr ⟨h, Nat.min_eq_right h⟩
          have HC := lay_cells (n := n) (lo := lo') (w := w9) hce hW (Nat.lt_of_lt_of_le hgl K2.1) hrW (by omega) (by rw [HSC.out.2]; omega)
          exact arIn_mk (x := .mk sh (mkCs N (layC y.cells F0 F1 (N - CY) (CY - N) (Nat.min CY N)))) RS (by show (mkCs _ _).length ≤ _; rw [mkCs_len]; omega) HC hshl (mkCs_len _ _)
        have p0 := I9.p0
        have p1 := I9.p1
        have f0 := I9.f0
        have f1 := I9.f1
        have HT9 := hide (I9.put (.slice as' SY cs') (.slice (some ⟨g, 0, none⟩) N N))
        clear I9 hTw hrow9
        go_wp2
        exact bodyPost_ret (v := .tuple #[.agg #[.slice as' SY cs', .slice (some ⟨g, 0, none⟩) N N], .int .i64 0]) (by simp [results, Try.results75, go_sem, HT9.out.1, HT9.out.2]) rfl (HFIN.out _ _)
    · obtain ⟨dx, hdx⟩ : ∃ dx : Nat, CY - N = dx := ⟨_, rfl⟩
      have hdx1 : (N : Int) - (CY : Int) = -(dx : Int) := by omega
      have HDX := hide hdx
      have HE5 : Hid (RES = (.mk sh (mkCs N (layC y.cells F0 F1 (N - CY) (CY - N) (Nat.min CY N))), 0)) := by unfold Hid; rw [HRES2.out, if_neg (by simp), if_neg (fun h => hmore h.1)]
      have RM : W4.rowIs w2.heap.size 36 (N * 3) zero3 := by rw [← e4]; exact rowIs_made3 w2 (N * 3)
      have HB28 := hide B4
      have HGB : Hid (w2.heap.size ≤ w2.heap.size) := Nat.le_refl _
      have HGL : Hid (w2.heap.size < W4.heap.size) := by unfold Hid; omega
      obtain ⟨ab, cb, hcf⟩ := cells_fn HRY.out.2
      have HCF := hide hcf
      rw [HSC.out.2] at HCF
      clear hcf
      have hmin : Nat.min CY N = N := Nat.min_eq_right (by omega)
      have HLI : Hid (Lies W4.drew (subA b2 dx d2 3) (rowT (fun q => cellT y.cells ab cb ((CY - N) + q)) (Nat.min CY N))) := by
        rw [hmin, hdx]
        by_cases h0 : N = 0
        · rw [h0]; exact ⟨Or.inl rfl, fun u hu => by simp [rowT] at hu⟩
        · obtain ⟨b, off, rfl, -, hb, hcells⟩ := HCF.out (by omega)
          have hNB := HB0.out.trans (HI4.out.bel.mono HB0.out.size)
          exact (lies_part (w := W4) (cs := y.cells) (ab := ab) (cb := cb) (b := b) (off := off) (Nat.lt_of_lt_of_le hb hNB.size) (fun i hi => by
            rw [HSC.out.2] at hi
            obtain ⟨g0, g1, g2, -⟩ := hcells i hi
            exact ⟨(hNB.cell (p := ⟨b, off + i * 3, none⟩) hb).trans g0, (hNB.cell (p := ⟨b, off + i * 3 + 1, none⟩) hb).trans g1, (hNB.cell (p := ⟨b, off + i * 3 + 2, none⟩) hb).trans g2⟩) dx N d2 (by rw [HSC.out.2]; omega) (by rw [HSC.out.2]; exact (caps_form HY.out.2.2).2) (by omega)).drew
      obtain ⟨RW, hRW⟩ : ∃ RW, rowT (fun q => cellT y.cells ab cb ((CY - N) + q)) (Nat.min CY N) = RW := ⟨_, rfl⟩
      have HRW := hide hRW
      have HMM : Hid (Nat.min CY N = Nat.min (CY - dx) N ∧ RW.length = Nat.min CY N * 3 ∧ (N - CY) * 3 + RW.length ≤ N * 3 ∧ RW.length = N * 3 ∧ (N - CY) * 3 = 0) := by
        refine ⟨by rw [show CY - dx = N by omega, hmin]; exact (Nat.min_eq_left (Nat.le_refl _)).symm, by rw [← hRW, rowT_len], ?_, ?_, by omega⟩
        · rw [← hRW, rowT_len, hmin]; omega
        · rw [← hRW, rowT_len, hmin]
      rw [hRW] at HLI
      have HPOS : Hid (0 < Nat.min CY N → subA (some ⟨w2.heap.size, 0, none⟩) 0 N 3 = some ⟨w2.heap.size, (N - CY) * 3, none⟩) := fun h => by
        rw [subA_zero, show (N - CY) * 3 = 0 by omega]
      have hp1 : ∀ W, (Instr.sliceAt 23 (.slice (some ⟨w2.heap.size, 0, none⟩) N N) (some (.int .i64 0)) none none).run Try.prog W = .ok (.slice (subA (some ⟨w2.heap.size, 0, none⟩) 0 N 3) N N) W := fun W => part_l (P := Try.prog) Try.underlying23 size36 (some ⟨w2.heap.size, 0, none⟩) N N 0 0 rfl (Nat.zero_le _) W
      have hp2 : ∀ W, (Instr.sliceAt 23 (.slice b2 CY d2) (some (.int .i64 (dx : Int))) none none).run Try.prog W = .ok (.slice (subA b2 dx d2 3) (CY - dx) (d2 - dx)) W := fun W => part_l (P := Try.prog) Try.underlying23 size36 b2 CY d2 dx (dx : Int) rfl (by omega) W
      have hng : IntKind.i64.wrap (dx : Int) = (dx : Int) := IntWalk.i64_in _ ⟨by omega, by omega⟩
      have hng2 : IntKind.i64.wrap (- -(dx : Int)) = (dx : Int) := by rw [Int.neg_neg]; exact hng
      have hif1 : (if (dx : Int) < 0 then (0 : Int) else (dx : Int)) = (dx : Int) := if_neg (by omega)
      have hif2 : (if -(dx : Int) < 0 then (0 : Int) else -(dx : Int)) = 0 := by split <;> omega
      have hif3 : (if 0 < dx then (0 : Int) else -(dx : Int)) = 0 := by split <;> omega
      have hif4 : (if 0 < (dx : Int) then (0 : Int) else -(dx : Int)) = 0 := by split <;> omega
      have hdn : ¬ (0 : Int) < -(dx : Int) := by omega
      have HROW : Hid (W4.drew.rowIs w2.heap.size 36 (N * 3) zero3) := RM
      obtain ⟨DP, hDP⟩ : ∃ DP, subA (some ⟨w2.heap.size, 0, none⟩) 0 N 3 = DP := ⟨_, rfl⟩
      obtain ⟨SP, hSP⟩ : ∃ SP, subA b2 dx d2 3 = SP := ⟨_, rfl⟩
      rw [hDP] at HPOS
      simp only [hDP] at hp1
      rw [hSP] at HLI
      simp only [hSP] at hp2
      obtain ⟨mm, hmm⟩ : ∃ mm, Nat.min CY N = mm := ⟨_, rfl⟩
      rw [hmm] at HMM HPOS
      have HB4 := hide B4
      have hdx16 : dx ≤ 16384 := by omega
      clear hRW hDP hSP hmin hmm hdx RM I2 hb2 ho I4 B4 p0 p1 f0 f1 r0 r1 HT2 hmore
      go_wp2
      go_region_law (refine step_copy_rowIs rfl (.tmp 72) (.tmp 78) 23 23 rfl 36 3 Try.underlying23 size36 DP SP N N (CY - dx) (d2 - dx) mm (by go_simp) (by go_simp) w2.heap.size ((N - CY) * 3) (N * 3) 36 _ HROW.out RW HMM.out.1 HMM.out.2.1 HPOS.out HLI.out (by decide) HMM.out.2.2.1 ?_; intro w9 hrow9' hTw9)
      all_goals
        have hTw : Two W4 w2.heap.size w2.heap.size w9 := ⟨(Below.refl _ _).drew.trans hTw9.io, hTw9.size, hTw9.keep⟩
        have hrow9 : w9.rowIs w2.heap.size 36 (N * 3) (spF (gF (fun _ => ((.int .i64 F0, .int .i64 F1, .slice none 0 0) : Value × Value × Value)) N) ((N - CY) * 3) RW) := hrow9'.congr fun i hi => by rw [HMM.out.2.2.2.2]; exact spF_all (by rw [HMM.out.2.2.2.1]; exact hi)
        rw [← HRW.out] at hrow9
        have I9 : In3 w (.slice a1 SX c1) (.slice a2 CX c2) (.slice b1 SY d1) (.slice b2 CY d2) w9 := HI4.out.belowS (hTw.belowB (B := w.heap.size + 3) (by have := HI2.out.size; omega) (by have := HI2.out.size; omega)) (Nat.le_refl _)
        clear hp1 hp2 HROW HLI HPOS hTw9 hrow9' mk e4 r04 r14
        have HFIN : Hid (∀ u v, Gives2K (n + 1) w0 RES.1 RES.2 w (.returned (.tuple #[.agg #[.slice as' SY cs', .slice (some ⟨w2.heap.size, 0, none⟩) N N], .int .i64 0])) ((w9.setCell ⟨w.heap.size + 2, 0, none⟩ u).setCell ⟨w.heap.size + 2, 1, none⟩ v)) := by
          intro u v
          have hshl : sh.length = SY := by rw [← HSH.out, List.length_set, HSC.out.1]
          refine gives2k_of HE5.out ⟨_, _, _, _, _, _, rfl, by have := HO.out.1.1; rw [hshl] at this; exact this, Nat.le_refl _⟩ (fun W hW hK => ?_) (I9.fin u v)
          have K2 := (keeps_three w9 w.heap.size u v).trans (hK.mono (show w.heap.size ≤ w.heap.size + 3 by omega))
          have RS : Row 0 W as' sh := by
            have k1 : Keeps w1.heap.size w2 w9 := ⟨by rw [hTw.size]; exact HB28.out.size, fun b h1 h2 => (hTw.keep b (by have := HGB.out; omega) (by have := HGB.out; omega)).trans (HB28.out.block b h2)⟩
            exact ((HO.out.1.2.2.keeps (k1.trans (K2.mono (by have := HI1.out.size; omega)))).low (Nat.zero_le _))
          have hgl : w2.heap.size < w9.heap.size := by rw [hTw.size]; exact HGL.out
          have hrW : W.rowIs w2.heap.size 36 (N * 3) (spF (gF (fun _ => ((.int .i64 F0, .int .i64 F1, .slice none 0 0) : Value × Value × Value)) N) ((N - CY) * 3) (rowT (fun q => cellT y.cells ab cb ((CY - N) + q)) (Nat.min CY N))) := by
            obtain ⟨cc, k1, k2, k3⟩ := hrow9
            exact ⟨cc, (K2.2 w2.heap.size (by have := HGB.out; have := HI1.out.size; have := HO.out.2.size; omega) hgl).trans k1, k2, k3⟩
          have hce : ∀ i, i < y.cells.length → CeIn (ArIn n lo' w0) lo' w0 (cAt y.cells i) (cellT y.cells ab cb i).1 (cellT y.cells ab cb i).2.1 (cellT y.cells ab cb i).2.2 := fun i hi => by
            rw [HSC.out.2] at hi
            obtain ⟨b, off, -, -, -, hcl⟩ := HCF.out (by omega)
            exact (hcl i hi).2.2.2
          have hmin1 : Nat.min CY N ≤ CY := Nat.min_le_left _ _
          have hmin2 : Nat.min CY N ≤ N := Nat.min_le_right _ _
          have hmn : CY ≤ N ∧ Nat.min CY N = CY ∨ N ≤ CY ∧ Nat.min CY N = N := by
            rcases Nat.le_total CY N with h | h
            · exact Or.inl ⟨h, Nat.min_eq_left h⟩
            · exact Or.inr ⟨h, Nat.min_eq_right h⟩
          have HC := lay_cells (n := n) (lo := lo') (w := w9) hce hW (Nat.lt_of_lt_of_le hgl K2.1) hrW (by omega) (by rw [HSC.out.2]; omega)
          exact arIn_mk (x := .mk sh (mkCs N (layC y.cells F0 F1 (N - CY) (CY - N) (Nat.min CY N)))) RS (by show (mkCs _ _).length ≤ _; rw [mkCs_len]; omega) HC hshl (mkCs_len _ _)
        have p0 := I9.p0
        have p1 := I9.p1
        have f0 := I9.f0
        have f1 := I9.f1
        have HT9 := hide (I9.put (.slice as' SY cs') (.slice (some ⟨w2.heap.size, 0, none⟩) N N))
        clear I9 hTw hrow9
        go_wp2
        exact bodyPost_ret (v := .tuple #[.agg #[.slice as' SY cs', .slice (some ⟨w2.heap.size, 0, none⟩) N N], .int .i64 0]) (by simp [results, Try.results75, go_sem, HT9.out.1, HT9.out.2]) rfl (HFIN.out _ _)
  · obtain rfl : Nn = (L : Int) := by omega
    rw [if_neg hneg, if_neg hneg] at HRES2
    have hLn : ¬ (L : Int) < 0 := hneg
    clear hL hbig hsml hneg
    have C1 := reshaped_any y.shape b1 d1 0 (L : Int) w1 (HRY.out.1.next I1.bel) (by rw [HSC.out.1]; exact l8) (by rw [HSC.out.1]; exact hS)
    rw [HSH.out, HSC.out.1] at C1
    obtain ⟨SE, hSE⟩ : ∃ z, sizeE sh = z := ⟨_, rfl⟩
    obtain ⟨SV, hSV⟩ : ∃ z, sizeV sh = z := ⟨_, rfl⟩
    have HSS := hide (And.intro hSE hSV)
    rw [hSE, hSV] at C1 HRES2
    clear I1 hb1 HI HRES hSE hSV
    go_wp2_with fail
    clear r0 r1 p0 p1 f0 f1
    refine C1.mono ?_
    clear C1
    rintro e w2 ⟨⟨as', cs', rfl, ho⟩, hb2⟩
    have I2 := HI1.out.next hb2
    have HI2 := hide I2
    have r0 := I2.r0
    have r1 := I2.r1
    have p0 := I2.p0
    have p1 := I2.p1
    have f0 := I2.f0
    have f1 := I2.f1
    have HT2 := hide (I2.put (.slice none 0 0) (.slice none 0 0))
    have HO := hide (And.intro ho hb2)
    by_cases hSE0 : SE = 0
    case neg =>
      have HE5 : Hid (RES = (zeroA, SE)) := by unfold Hid; rw [HRES2.out, if_pos hSE0]
      have hne : (SE == 0) = false := beq_eq_false_iff_ne.2 hSE0
      clear I2 HY HRY hb2 r0 r1 HRES2 ho HO
      go_wp2
      exact bodyPost_ret (v := .tuple #[.agg #[.slice none 0 0, .slice none 0 0], .int .i64 SE]) (by simp [results, Try.results75, go_sem, HT2.out.1, HT2.out.2]) rfl (gives2k_of HE5.out caps_nil (fun _ _ _ => zeroA_in _ _ _) (HI2.out.fin _ _))
    subst hSE0
    obtain ⟨N, hN⟩ : ∃ N : Nat, SV = (N : Int) := ⟨SV.toNat, by have := (sizeV_le HSS.out.1).1; rw [HSS.out.2] at this; omega⟩
    have hN16 : N ≤ 16384 := by have := (sizeV_le HSS.out.1).2; rw [HSS.out.2] at this; omega
    subst hN
    rw [Int.toNat_natCast] at HRES2
    have mk := make_cells N (by omega) w2
    obtain ⟨W4, e4⟩ : ∃ W4, w2.alloc (.cells (madeCells #[.int .i64 0, .int .i64 0, .slice none 0 0] (N * 3)) 36) = W4 := ⟨_, rfl⟩
    rw [e4] at mk
    have B4 : Below w2.heap.size w2 W4 := by rw [← e4]; exact one_alloc _ _
    have z4 : W4.heap.size = w2.heap.size + 1 := by rw [← e4]; simp
    have I4 := I2.next B4
    have r04 := I4.r0
    have r14 := I4.r1
    have HI4 := hide I4
    by_cases hmore : CY < N
    · obtain ⟨sx, hsx⟩ : ∃ sx : Nat, N - CY = sx := ⟨_, rfl⟩
      have hsx1 : (N : Int) - (CY : Int) = (sx : Int) := by omega
      have hsx0 : 0 < sx := by omega
      have HSX := hide hsx
      clear hsx
      have CF := filling_any (HY.out.1 _ I4.bel)
      rw [HF.out] at CF
      simp only at CF
      have HB24 := hide B4
      clear I2 hb2 ho I4 B4 p0 p1 f0 f1 r0 r1 HT2
      go_wp2_with fail
      clear mk e4 r04 r14
      refine CF.mono ?_
      clear CF
      rintro e w5 ⟨rfl, hb5⟩
      have I5 := HI4.out.next hb5
      have I6 := I5.next (one_alloc w5 (.cells #[.int .i64 F0, .int .i64 F1, .slice none 0 0] 36))
      have HI6 := hide I6
      by_cases hFE : FE = 0
      case neg =>
        have HE5 : Hid (RES = (zeroA, FE)) := by unfold Hid; rw [HRES2.out, if_neg (by simp), if_pos ⟨hmore, hFE⟩]
        have hne : (FE == 0) = false := beq_eq_false_iff_ne.2 hFE
        have p0 := I6.p0
        have p1 := I6.p1
        have f0 := I6.f0
        have f1 := I6.f1
        have HT6 := hide (I6.put (.slice none 0 0) (.slice none 0 0))
        clear I5 I6 hb5 HY HRY HRES2
        go_wp2
        exact bodyPost_ret (v := .tuple #[.agg #[.slice none 0 0, .slice none 0 0], .int .i64 FE]) (by simp [results, Try.results75, go_sem, HT6.out.1, HT6.out.2]) rfl (gives2k_of HE5.out caps_nil (fun _ _ _ => zeroA_in _ _ _) (HI6.out.fin _ _))
      subst hFE
      have HE5 : Hid (RES = (.mk sh (mkCs N (layC y.cells F0 F1 0 0 (Nat.min CY N))), 0)) := by unfold Hid; rw [HRES2.out, if_neg (by simp), if_neg (by simp)]
      have zA : (w5.alloc (.cells #[.int .i64 F0, .int .i64 F1, .slice none 0 0] 36)).heap.size = w5.heap.size + 1 := by simp
      have CR := repeat_any (some ⟨w5.heap.size + 1, 0, none⟩) 1 N F0 F1 none 0 0 ((w5.alloc (.cells #[.int .i64 F0, .int .i64 F1, .slice none 0 0] 36)).alloc (.cells #[.int .i64 F0, .int .i64 F1, .slice none 0 0] 36)) (by
        refine ⟨Or.inr ⟨_, rfl, by show w5.heap.size + 1 < _; simp, fun j u hj => ?_⟩, fun u hu => ?_⟩
        · rw [add_off, Nat.zero_add, ← zA]
          exact cell_new0 _ _ 36 j u (by simpa using hj)
        · simp at hu; rcases hu with rfl | rfl | rfl <;> rfl) hN16
      have BA := two_allocs w5 (.cells #[.int .i64 F0, .int .i64 F1, .slice none 0 0] 36) (.cells #[.int .i64 F0, .int .i64 F1, .slice none 0 0] 36)
      have HI7 := hide (I5.next BA)
      have HBA := hide BA
      have HB45 := hide hb5
      clear I5 I6 hb5 zA BA
      go_wp2_with fail
      refine CR.mono ?_
      clear CR
      rintro e w8 ⟨⟨g, rfl, hg1, hg2, hrow⟩, hb8⟩
      have HB28 : Hid (Below w2.heap.size w2 w8) := (HB24.out.trans (HB45.out.mono HB24.out.size)).trans ((HBA.out.trans (hb8.mono HBA.out.size)).mono (Nat.le_trans HB24.out.size HB45.out.size))
      have HGB : Hid (w2.heap.size ≤ g) := by have h1 := HB24.out.size; have h2 := HB45.out.size; have h3 := HBA.out.size; unfold Hid; omega
      have HGL := hide hg2
      have I8 := HI7.out.next hb8
      have r18 := I8.r1
      have HI8 := hide I8
      have HG := hide (And.intro hg1 (And.intro hg2 hrow))
      clear I8 hg1 hg2 hrow hb8
      obtain ⟨ab, cb, hcf⟩ := cells_fn HRY.out.2
      have HCF := hide hcf
      rw [HSC.out.2] at HCF
      clear hcf
      have HLI : Hid (Lies w8 b2 (rowT (fun q => cellT y.cells ab cb (0 + q)) (Nat.min CY N))) := by
        have hmin1 : Nat.min CY N ≤ CY := Nat.min_le_left _ _
        by_cases h0 : Nat.min CY N = 0
        · rw [h0]; exact ⟨Or.inl rfl, fun u hu => by simp [rowT] at hu⟩
        · obtain ⟨b, off, rfl, -, hb, hcells⟩ := HCF.out (by omega)
          have hNB := HB0.out.trans (HI8.out.bel.mono HB0.out.size)
          have := lies_part (w := w8) (cs := y.cells) (ab := ab) (cb := cb) (b := b) (off := off) (Nat.lt_of_lt_of_le hb hNB.size) (fun i hi => by
            rw [HSC.out.2] at hi
            obtain ⟨g0, g1, g2, -⟩ := hcells i hi
            exact ⟨(hNB.cell (p := ⟨b, off + i * 3, none⟩) hb).trans g0, (hNB.cell (p := ⟨b, off + i * 3 + 1, none⟩) hb).trans g1, (hNB.cell (p := ⟨b, off + i * 3 + 2, none⟩) hb).trans g2⟩) 0 (Nat.min CY N) d2 (by rw [HSC.out.2]; omega) (by rw [HSC.out.2]; exact (caps_form HY.out.2.2).2) (by omega)
          rw [subA_zero] at this
          exact this
      obtain ⟨RW, hRW⟩ : ∃ RW, rowT (fun q => cellT y.cells ab cb (0 + q)) (Nat.min CY N) = RW := ⟨_, rfl⟩
      have HRW := hide hRW
      have HMM : Hid (Nat.min CY N = Nat.min CY N ∧ RW.length = Nat.min CY N * 3 ∧ 0 * 3 + RW.length ≤ N * 3 ∧ (N ≤ CY → RW.length = N * 3)) := by
        have hmin2 : Nat.min CY N ≤ N := Nat.min_le_right _ _
        refine ⟨rfl, by rw [← hRW, rowT_len], by rw [← hRW, rowT_len]; omega, fun h => ?_⟩
        rw [← hRW, rowT_len, show Nat.min CY N = N from Nat.min_eq_right h]
      rw [hRW] at HLI
      obtain ⟨mm, hmm⟩ : ∃ mm, Nat.min CY N = mm := ⟨_, rfl⟩
      have HMN : Hid (mm = Nat.min CY N ∧ RW.length = mm * 3) := ⟨hmm.symm, by rw [← hmm]; exact HMM.out.2.1⟩
      clear hRW hmm
      go_wp2_with (refine wpList_copy_rowIs rfl _ _ 23 23 rfl 36 3 Try.underlying23 size36 (some ⟨g, 0, none⟩) b2 N N CY d2 mm (by go_simp) (by go_simp) g (0 * 3) (N * 3) 36 _ HG.out.2.2 RW HMN.out.1 HMN.out.2 (fun _ => rfl) HLI.out (by decide) HMM.out.2.2.1 ?_)
      intro w9 hrow9' hTw
      have hrow9 := hrow9'
      rw [← HRW.out] at hrow9
      have I9 : In3 w (.slice a1 SX c1) (.slice a2 CX c2) (.slice b1 SY d1) (.slice b2 CY d2) w9 := HI8.out.belowS (hTw.belowB (B := w.heap.size + 3) (by have := HGB.out; have := HI2.out.size; omega) (by have := HGB.out; have := HI2.out.size; omega)) (Nat.le_refl _)
      clear HLI hrow9' 
      have HFIN : Hid (∀ u v, Gives2K (n + 1) w0 RES.1 RES.2 w (.returned (.tuple #[.agg #[.slice as' SY cs', .slice (some ⟨g, 0, none⟩) N N], .int .i64 0])) ((w9.setCell ⟨w.heap.size + 2, 0, none⟩ u).setCell ⟨w.heap.size + 2, 1, none⟩ v)) := by
        intro u v
        have hshl : sh.length = SY := by rw [← HSH.out, List.length_set, HSC.out.1]
        refine gives2k_of HE5.out ⟨_, _, _, _, _, _, rfl, by have := HO.out.1.1; rw [hshl] at this; exact this, Nat.le_refl _⟩ (fun W hW hK => ?_) (I9.fin u v)
        have K2 := (keeps_three w9 w.heap.size u v).trans (hK.mono (show w.heap.size ≤ w.heap.size + 3 by omega))
        have RS : Row 0 W as' sh := by
          have k1 : Keeps w1.heap.size w2 w9 := ⟨by rw [hTw.size]; exact HB28.out.size, fun b h1 h2 => (hTw.keep b (by have := HGB.out; omega) (by have := HGB.out; omega)).trans (HB28.out.block b h2)⟩
          exact ((HO.out.1.2.2.keeps (k1.trans (K2.mono (by have := HI1.out.size; omega)))).low (Nat.zero_le _))
        have hgl : g < w9.heap.size := by rw [hTw.size]; exact HGL.out
        have hrW : W.rowIs g 36 (N * 3) (spF (gF (fun _ => ((.int .i64 F0, .int .i64 F1, .slice none 0 0) : Value × Value × Value)) N) (0 * 3) (rowT (fun q => cellT y.cells ab cb (0 + q)) (Nat.min CY N))) := by
          obtain ⟨cc, k1, k2, k3⟩ := hrow9
          exact ⟨cc, (K2.2 g (by have := HGB.out; have := HI1.out.size; have := HO.out.2.size; omega) hgl).trans k1, k2, k3⟩
        have hce : ∀ i, i < y.cells.length → CeIn (ArIn n lo' w0) lo' w0 (cAt y.cells i) (cellT y.cells ab cb i).1 (cellT y.cells ab cb i).2.1 (cellT y.cells ab cb i).2.2 := fun i hi => by
          rw [HSC.out.2] at hi
          obtain ⟨b, off, -, -, -, hcl⟩ := HCF.out (by omega)
          exact (hcl i hi).2.2.2
        have hmin1 : Nat.min CY N ≤ CY := Nat.min_le_left _ _
        have hmin2 : Nat.min CY N ≤ N := Nat.min_le_right _ _
        have hmn : CY ≤ N ∧ Nat.min CY N = CY ∨ N ≤ CY ∧ Nat.min CY N = N := by
          rcases Nat.le_total CY N with h | h
          · exact Or.inl ⟨h, Nat.min_eq_left h⟩
          · exact Or.inr ⟨h, Nat.min_eq_right h⟩
        have HC := lay_cells (n := n) (lo := lo') (w := w9) hce hW (Nat.lt_of_lt_of_le hgl K2.1) hrW (by omega) (by rw [HSC.out.2]; omega)
        exact arIn_mk (x := .mk sh (mkCs N (layC y.cells F0 F1 0 0 (Nat.min CY N)))) RS (by show (mkCs _ _).length ≤ _; rw [mkCs_len]; omega) HC hshl (mkCs_len _ _)
      have p0 := I9.p0
      have p1 := I9.p1
      have f0 := I9.f0
      have f1 := I9.f1
      have HT9 := hide (I9.put (.slice as' SY cs') (.slice (some ⟨g, 0, none⟩) N N))
      clear I9 hTw hrow9
      go_wp2
      exact bodyPost_ret (v := .tuple #[.agg #[.slice as' SY cs', .slice (some ⟨g, 0, none⟩) N N], .int .i64 0]) (by simp [results, Try.results75, go_sem, HT9.out.1, HT9.out.2]) rfl (HFIN.out _ _)
    · obtain ⟨dx, hdx⟩ : ∃ dx : Nat, CY - N = dx := ⟨_, rfl⟩
      have hdx1 : (N : Int) - (CY : Int) = -(dx : Int) := by omega
      have HE5 : Hid (RES = (.mk sh (mkCs N (layC y.cells F0 F1 0 0 (Nat.min CY N))), 0)) := by unfold Hid; rw [HRES2.out, if_neg (by simp), if_neg (fun h => hmore h.1)]
      have HRM : Hid (W4.rowIs w2.heap.size 36 (N * 3) zero3) := by rw [← e4]; exact rowIs_made3 w2 (N * 3)
      have HB28 := hide B4
      have HGB : Hid (w2.heap.size ≤ w2.heap.size) := Nat.le_refl _
      have HGL : Hid (w2.heap.size < W4.heap.size) := by unfold Hid; omega
      have hdn : ¬ (0 : Int) < -(dx : Int) := by omega
      have hdx16 : dx ≤ 16384 := by omega
      have HMO := hide hmore
      obtain ⟨ab, cb, hcf⟩ := cells_fn HRY.out.2
      have HCF := hide hcf
      rw [HSC.out.2] at HCF
      clear hcf
      have HLI : Hid (Lies W4 b2 (rowT (fun q => cellT y.cells ab cb (0 + q)) (Nat.min CY N))) := by
        have hmin1 : Nat.min CY N ≤ CY := Nat.min_le_left _ _
        by_cases h0 : Nat.min CY N = 0
        · rw [h0]; exact ⟨Or.inl rfl, fun u hu => by simp [rowT] at hu⟩
        · obtain ⟨b, off, rfl, -, hb, hcells⟩ := HCF.out (by omega)
          have hNB := HB0.out.trans (HI4.out.bel.mono HB0.out.size)
          have := lies_part (w := W4) (cs := y.cells) (ab := ab) (cb := cb) (b := b) (off := off) (Nat.lt_of_lt_of_le hb hNB.size) (fun i hi => by
            rw [HSC.out.2] at hi
            obtain ⟨g0, g1, g2, -⟩ := hcells i hi
            exact ⟨(hNB.cell (p := ⟨b, off + i * 3, none⟩) hb).trans g0, (hNB.cell (p := ⟨b, off + i * 3 + 1, none⟩) hb).trans g1, (hNB.cell (p := ⟨b, off + i * 3 + 2, none⟩) hb).trans g2⟩) 0 (Nat.min CY N) d2 (by rw [HSC.out.2]; omega) (by rw [HSC.out.2]; exact (caps_form HY.out.2.2).2) (by omega)
          rw [subA_zero] at this
          exact this
      obtain ⟨RW, hRW⟩ : ∃ RW, rowT (fun q => cellT y.cells ab cb (0 + q)) (Nat.min CY N) = RW := ⟨_, rfl⟩
      have HRW := hide hRW
      have HMM : Hid (Nat.min CY N = Nat.min CY N ∧ RW.length = Nat.min CY N * 3 ∧ 0 * 3 + RW.length ≤ N * 3 ∧ (N ≤ CY → RW.length = N * 3)) := by
        have hmin2 : Nat.min CY N ≤ N := Nat.min_le_right _ _
        refine ⟨rfl, by rw [← hRW, rowT_len], by rw [← hRW, rowT_len]; omega, fun h => ?_⟩
        rw [← hRW, rowT_len, show Nat.min CY N = N from Nat.min_eq_right h]
      rw [hRW] at HLI
      obtain ⟨mm, hmm⟩ : ∃ mm, Nat.min CY N = mm := ⟨_, rfl⟩
      have HMN : Hid (mm = Nat.min CY N ∧ RW.length = mm * 3) := ⟨hmm.symm, by rw [← hmm]; exact HMM.out.2.1⟩
      clear hRW hmm hdx I2 hb2 ho I4 B4 p0 p1 f0 f1 r0 r1 HT2 hmore
      go_wp2_with (refine wpList_copy_rowIs rfl _ _ 23 23 rfl 36 3 Try.underlying23 size36 (some ⟨w2.heap.size, 0, none⟩) b2 N N CY d2 mm (by go_simp) (by go_simp) w2.heap.size (0 * 3) (N * 3) 36 _ HRM.out RW HMN.out.1 HMN.out.2 (fun _ => rfl) HLI.out (by decide) HMM.out.2.2.1 ?_)
      intro w9 hrow9' hTw
      have hrow9 : w9.rowIs w2.heap.size 36 (N * 3) (spF (gF (fun _ => ((.int .i64 F0, .int .i64 F1, .slice none 0 0) : Value × Value × Value)) N) (0 * 3) RW) := hrow9'.congr fun i hi => by rw [Nat.zero_mul]; exact spF_all (by rw [HMM.out.2.2.2 (by have := HMO.out; omega)]; exact hi)
      rw [← HRW.out] at hrow9
      have I9 : In3 w (.slice a1 SX c1) (.slice a2 CX c2) (.slice b1 SY d1) (.slice b2 CY d2) w9 := HI4.out.belowS (hTw.belowB (B := w.heap.size + 3) (by have := HGB.out; have := HI2.out.size; omega) (by have := HGB.out; have := HI2.out.size; omega)) (Nat.le_refl _)
      clear HLI hrow9' mk e4 r04 r14
      have HFIN : Hid (∀ u v, Gives2K (n + 1) w0 RES.1 RES.2 w (.returned (.tuple #[.agg #[.slice as' SY cs', .slice (some ⟨w2.heap.size, 0, none⟩) N N], .int .i64 0])) ((w9.setCell ⟨w.heap.size + 2, 0, none⟩ u).setCell ⟨w.heap.size + 2, 1, none⟩ v)) := by
        intro u v
        have hshl : sh.length = SY := by rw [← HSH.out, List.length_set, HSC.out.1]
        refine gives2k_of HE5.out ⟨_, _, _, _, _, _, rfl, by have := HO.out.1.1; rw [hshl] at this; exact this, Nat.le_refl _⟩ (fun W hW hK => ?_) (I9.fin u v)
        have K2 := (keeps_three w9 w.heap.size u v).trans (hK.mono (show w.heap.size ≤ w.heap.size + 3 by omega))
        have RS : Row 0 W as' sh := by
          have k1 : Keeps w1.heap.size w2 w9 := ⟨by rw [hTw.size]; exact HB28.out.size, fun b h1 h2 => (hTw.keep b (by have := HGB.out; omega) (by have := HGB.out; omega)).trans (HB28.out.block b h2)⟩
          exact ((HO.out.1.2.2.keeps (k1.trans (K2.mono (by have := HI1.out.size; omega)))).low (Nat.zero_le _))
        have hgl : w2.heap.size < w9.heap.size := by rw [hTw.size]; exact HGL.out
        have hrW : W.rowIs w2.heap.size 36 (N * 3) (spF (gF (fun _ => ((.int .i64 F0, .int .i64 F1, .slice none 0 0) : Value × Value × Value)) N) (0 * 3) (rowT (fun q => cellT y.cells ab cb (0 + q)) (Nat.min CY N))) := by
          obtain ⟨cc, k1, k2, k3⟩ := hrow9
          exact ⟨cc, (K2.2 w2.heap.size (by have := HGB.out; have := HI1.out.size; have := HO.out.2.size; omega) hgl).trans k1, k2, k3⟩
        have hce : ∀ i, i < y.cells.length → CeIn (ArIn n lo' w0) lo' w0 (cAt y.cells i) (cellT y.cells ab cb i).1 (cellT y.cells ab cb i).2.1 (cellT y.cells ab cb i).2.2 := fun i hi => by
          rw [HSC.out.2] at hi
          obtain ⟨b, off, -, -, -, hcl⟩ := HCF.out (by omega)
          exact (hcl i hi).2.2.2
        have hmin1 : Nat.min CY N ≤ CY := Nat.min_le_left _ _
        have hmin2 : Nat.min CY N ≤ N := Nat.min_le_right _ _
        have hmn : CY ≤ N ∧ Nat.min CY N = CY ∨ N ≤ CY ∧ Nat.min CY N = N := by
          rcases Nat.le_total CY N with h | h
          · exact Or.inl ⟨h, Nat.min_eq_left h⟩
          · exact Or.inr ⟨h, Nat.min_eq_right h⟩
        have HC := lay_cells (n := n) (lo := lo') (w := w9) hce hW (Nat.lt_of_lt_of_le hgl K2.1) hrW (by omega) (by rw [HSC.out.2]; omega)
        exact arIn_mk (x := .mk sh (mkCs N (layC y.cells F0 F1 0 0 (Nat.min CY N)))) RS (by show (mkCs _ _).length ≤ _; rw [mkCs_len]; omega) HC hshl (mkCs_len _ _)
      have p0 := I9.p0
      have p1 := I9.p1
      have f0 := I9.f0
      have f1 := I9.f1
      have HT9 := hide (I9.put (.slice as' SY cs') (.slice (some ⟨w2.heap.size, 0, none⟩) N N))
      clear I9 hTw hrow9
      go_wp2
      exact bodyPost_ret (v := .tuple #[.agg #[.slice as' SY cs', .slice (some ⟨w2.heap.size, 0, none⟩) N N], .int .i64 0]) (by simp [results, Try.results75, go_sem, HT9.out.1, HT9.out.2]) rfl (HFIN.out _ _)
end Go.Proofs.Ytmjncdhahdpplaa
namespace Go.Proofs.Ytmjncdhahdpplaa
open Go.ChangeShapes Go.WideShapes Go.ChangeAt Go.RowKit
set_option linter.unusedVariables false
set_option maxRecDepth 100000
/-- A slice of cells, by the three values of each. -/
structure SrcT (w : World) (a : Option Addr) (n c : Nat) (T : Nat → Value × Value × Value) : Prop where
  cap : n ≤ c
  one : ∀ i, (T i).1.oneCell' = true ∧ (T i).2.1.oneCell' = true ∧ (T i).2.2.oneCell' = true
  lies : 0 < n → ∃ b off, a = some ⟨b, off, none⟩ ∧ b < w.heap.size ∧ ∀ i, i < n → w.cell? ⟨b, off + i * 3, none⟩ = some (T i).1 ∧ w.cell? ⟨b, off + i * 3 + 1, none⟩ = some (T i).2.1 ∧ w.cell? ⟨b, off + i * 3 + 2, none⟩ = some (T i).2.2
theorem SrcT.next {w w' : World} {a : Option Addr} {n c : Nat} {T : Nat → Value × Value × Value} (h : SrcT w a n c T) (hb : Below w.heap.size w w') : SrcT w' a n c T := by
  refine ⟨h.cap, h.one, fun h0 => ?_⟩
  obtain ⟨b, off, ha, hl, hc⟩ := h.lies h0
  refine ⟨b, off, ha, Nat.lt_of_lt_of_le hl hb.size, fun i hi => ?_⟩
  obtain ⟨c0, c1, c2⟩ := hc i hi
  exact ⟨(hb.cell (p := ⟨b, off + i * 3, none⟩) hl).trans c0, (hb.cell (p := ⟨b, off + i * 3 + 1, none⟩) hl).trans c1, (hb.cell (p := ⟨b, off + i * 3 + 2, none⟩) hl).trans c2⟩
theorem SrcT.part {w : World} {a : Option Addr} {n c : Nat} {T : Nat → Value × Value × Value} (h : SrcT w a n c T) (fr m : Nat) (hm : fr + m ≤ n) : Lies w (subA a fr c 3) (rowT (fun q => T (fr + q)) m) := by
  refine ⟨?_, rowT_one _ _ fun i _ => h.one _⟩
  by_cases h0 : m = 0
  · left; subst h0; rfl
  obtain ⟨b, off, rfl, hl, hc⟩ := h.lies (by omega)
  refine Or.inr ⟨⟨b, off + fr * 3, none⟩, ?_, hl, fun j u hj => ?_⟩
  · have := h.cap
    unfold subA; rw [if_neg (by omega)]; simp [Addr.add]
  · have hjl : j < m * 3 := by
      rcases Nat.lt_or_ge j (m * 3) with h | h
      · exact h
      · rw [List.getElem?_eq_none (by rw [rowT_len]; exact h)] at hj; cases hj
    obtain ⟨t0, t1, t2⟩ := rowT_at (fun q => T (fr + q)) m (j / 3) (by omega)
    obtain ⟨g0, g1, g2⟩ := hc (fr + j / 3) (by omega)
    rw [add_off]
    have hm : j = j / 3 * 3 ∨ j = j / 3 * 3 + 1 ∨ j = j / 3 * 3 + 2 := by omega
    rcases hm with e | e | e
    · rw [← e] at t0; rw [t0] at hj; cases hj
      rw [show off + fr * 3 + j = off + (fr + j / 3) * 3 by omega]; exact g0
    · rw [← e] at t1; rw [t1] at hj; cases hj
      rw [show off + fr * 3 + j = off + (fr + j / 3) * 3 + 1 by omega]; exact g1
    · rw [← e] at t2; rw [t2] at hj; cases hj
      rw [show off + fr * 3 + j = off + (fr + j / 3) * 3 + 2 by omega]; exact g2
/-- From where a thing at a place comes. -/
def turnF {α : Type} (TA TB : Nat → α) (one two p : Nat) : α := if p % (one + two) < one then TA (p / (one + two) * one + p % (one + two)) else TB (p / (one + two) * two + (p % (one + two) - one))
theorem turnF_a {α : Type} (TA TB : Nat → α) (one two r q : Nat) (hq : q < one) : turnF TA TB one two (r * (one + two) + q) = TA (r * one + q) := by
  have h1 : (r * (one + two) + q) % (one + two) = q := by rw [Nat.mul_comm, Nat.mul_add_mod, Nat.mod_eq_of_lt (by omega)]
  have h2 : (r * (one + two) + q) / (one + two) = r := by rw [Nat.mul_comm, Nat.mul_add_div (by omega), Nat.div_eq_of_lt (by omega)]; omega
  unfold turnF; rw [h1, h2, if_pos hq]
theorem turnF_b {α : Type} (TA TB : Nat → α) (one two r q : Nat) (hq : q < two) : turnF TA TB one two (r * (one + two) + one + q) = TB (r * two + q) := by
  have h1 : (r * (one + two) + one + q) % (one + two) = one + q := by rw [Nat.add_assoc, Nat.mul_comm, Nat.mul_add_mod, Nat.mod_eq_of_lt (by omega)]
  have h2 : (r * (one + two) + one + q) / (one + two) = r := by rw [Nat.add_assoc, Nat.mul_comm, Nat.mul_add_div (by omega), Nat.div_eq_of_lt (by omega)]; omega
  unfold turnF; rw [h1, h2, if_neg (by omega), show one + q - one = q by omega]
set_option maxHeartbeats 1000000 in
theorem inTurn_any (a b : Option Addr) (nA cA nB cB t one two : Nat) (TA TB : Nat → Value × Value × Value) (w : World) (hA : SrcT w a nA cA TA) (hB : SrcT w b nB cB TB) (ht : 0 < t) (hnA : nA = t * one) (hnB : nB = t * two) (h16 : nA + nB ≤ 16384) (ht16 : t ≤ 16384) :
    Calls Try.prog 100 #[.slice a nA cA, .slice b nB cB, .int .i64 (t : Int)] w fun e w' => (∃ g, e = .returned (.slice (some ⟨g, 0, none⟩) (nA + nB) (nA + nB)) ∧ w.heap.size ≤ g ∧ g < w'.heap.size ∧ w'.rowIs g 36 ((nA + nB) * 3) (gF (turnF TA TB one two) (nA + nB))) ∧ Below w.heap.size w w' := by
  obtain ⟨N, hN⟩ : ∃ N, nA + nB = N := ⟨_, rfl⟩
  have mk := make_cells N (by omega) w
  obtain ⟨W4, e4⟩ : ∃ W4, w.alloc (.cells (madeCells #[.int .i64 0, .int .i64 0, .slice none 0 0] (N * 3)) 36) = W4 := ⟨_, rfl⟩
  rw [e4] at mk
  have B4 : Below w.heap.size w W4 := by rw [← e4]; exact one_alloc _ _
  have z4 : W4.heap.size = w.heap.size + 1 := by rw [← e4]; simp
  obtain ⟨T, hT⟩ : ∃ T, turnF TA TB one two = T := ⟨_, rfl⟩
  have RM : W4.rowIs w.heap.size 36 (N * 3) (gF T 0) := by rw [← e4]; exact (rowIs_made3 w (N * 3)).congr fun i hi => by rw [gF_zero]
  have HT := hide hT
  obtain ⟨M, hM⟩ : ∃ M, one + two = M := ⟨_, rfl⟩
  have hNM : N = t * M := by rw [← hN, hnA, hnB, ← hM, Nat.mul_add]
  have q1 : (nA : Int).tdiv (t : Int) = (one : Int) := by rw [hnA]; simp [Int.mul_tdiv_cancel_left _ (show (t : Int) ≠ 0 by omega)]
  have q2 : (nB : Int).tdiv (t : Int) = (two : Int) := by rw [hnB]; simp [Int.mul_tdiv_cancel_left _ (show (t : Int) ≠ 0 by omega)]
  have o16 : one ≤ 16384 := by
    have : 1 * one ≤ t * one := Nat.mul_le_mul_right _ ht
    omega
  have w16 : two ≤ 16384 := by
    have : 1 * two ≤ t * two := Nat.mul_le_mul_right _ ht
    omega
  have r1 : IntKind.i64.wrap (one : Int) = (one : Int) := by rw [IntKind.wrap_i64]; omega
  have r2 : IntKind.i64.wrap (two : Int) = (two : Int) := by rw [IntKind.wrap_i64]; omega
  have hs1 : (nA : Int) + (nB : Int) = (N : Int) := by omega
  have ht0 : ¬ (t : Int) = 0 := by omega
  have ht0' : ¬ t = 0 := by omega
  have HST := hide (And.intro RM B4)
  have HZ := hide z4
  have HAB := hide (And.intro hA hB)
  have HNN := hide (And.intro hnA (And.intro hnB (And.intro hNM (And.intro hM hN))))
  have hN16 : N ≤ 16384 := by omega
  have hAN : nA ≤ N := by omega
  have hBN : nB ≤ N := by omega
  rw [hN, hT]
  clear hN hT RM B4 z4 hA hB hnA hnB hNM hM h16
  go_enter Try.func100, Try.ntmps100
  go_wp2
  go_region
  all_goals
    go_wp2
    go_loopg [10, 27] t (fun g tv iv wr => ∃ r : Nat, g + r = t ∧ iv = .int .i64 (r : Int) ∧ tv = .int .i64 ((r * M : Nat) : Int) ∧ Two W4 w.heap.size w.heap.size wr ∧ wr.rowIs w.heap.size 36 (N * 3) (gF T (r * M)))
    case atStart => exact ⟨0, rfl, rfl, by simp, (Two.refl _ _ _).drew, by rw [Nat.zero_mul]; exact HST.out.1⟩
    case round =>
      obtain ⟨r, hgr, rfl, rfl, hTw, hrow⟩ := hrel
      obtain ⟨hnA, hnB, hNM, hM, hN⟩ := HNN.out
      have hzz := HZ.out
      by_cases hlt : r < t
      · obtain ⟨tz, htz⟩ : ∃ tz, r * M = tz := ⟨_, rfl⟩
        obtain ⟨f1, hf1⟩ : ∃ z, r * one = z := ⟨_, rfl⟩
        obtain ⟨g1, hg1⟩ : ∃ z, r * two = z := ⟨_, rfl⟩
        obtain ⟨f2, hf2⟩ : ∃ z, f1 + one = z := ⟨_, rfl⟩
        obtain ⟨g2, hg2⟩ : ∃ z, g1 + two = z := ⟨_, rfl⟩
        obtain ⟨t2, ht2⟩ : ∃ z, tz + one = z := ⟨_, rfl⟩
        obtain ⟨t3, ht3⟩ : ∃ z, t2 + two = z := ⟨_, rfl⟩
        have b1 : (r + 1) * one ≤ t * one := Nat.mul_le_mul_right _ hlt
        have b2 : (r + 1) * two ≤ t * two := Nat.mul_le_mul_right _ hlt
        have b3 : (r + 1) * M ≤ t * M := Nat.mul_le_mul_right _ hlt
        have e1 : (r + 1) * one = f2 := by rw [Nat.add_mul, Nat.one_mul, hf1, hf2]
        have e2 : (r + 1) * two = g2 := by rw [Nat.add_mul, Nat.one_mul, hg1, hg2]
        have e3 : (r + 1) * M = t3 := by rw [Nat.add_mul, Nat.one_mul, htz]; omega
        rw [e1, ← hnA] at b1
        rw [e2, ← hnB] at b2
        rw [e3, ← hNM] at b3
        have m1 : IntKind.i64.wrap ((r : Int) * (one : Int)) = (f1 : Int) := by rw [← Int.natCast_mul, hf1, IntKind.wrap_i64]; omega
        have m2 : IntKind.i64.wrap ((r : Int) + 1) = ((r + 1 : Nat) : Int) := by rw [show (r : Int) + 1 = ((r + 1 : Nat) : Int) by omega, IntKind.wrap_i64]; omega
        have m3 : IntKind.i64.wrap (((r + 1 : Nat) : Int) * (one : Int)) = (f2 : Int) := by rw [← Int.natCast_mul, e1, IntKind.wrap_i64]; omega
        have m4 : IntKind.i64.wrap ((r : Int) * (two : Int)) = (g1 : Int) := by rw [← Int.natCast_mul, hg1, IntKind.wrap_i64]; omega
        have m5 : IntKind.i64.wrap (((r + 1 : Nat) : Int) * (two : Int)) = (g2 : Int) := by rw [← Int.natCast_mul, e2, IntKind.wrap_i64]; omega
        have m6 : IntKind.i64.wrap ((tz : Int) + (one : Int)) = (t2 : Int) := by rw [show (tz : Int) + (one : Int) = (t2 : Int) by omega, IntKind.wrap_i64]; omega
        have m7 : IntKind.i64.wrap ((t2 : Int) + (two : Int)) = (t3 : Int) := by rw [show (t2 : Int) + (two : Int) = (t3 : Int) by omega, IntKind.wrap_i64]; omega
        obtain ⟨s1, hs⟩ : ∃ z, r + 1 = z := ⟨_, rfl⟩
        rw [hs] at m2 m3 m5
        have hW := hTw.belowB (B := w.heap.size) (Nat.le_refl _) (Nat.le_refl _)
        have hBw : Below w.heap.size w wr := HST.out.2.trans hW
        have hcA := HAB.out.1.cap
        have hcB := HAB.out.2.cap
        have hp1 : ∀ W, (Instr.sliceAt 23 (.slice (some ⟨w.heap.size, 0, none⟩) N N) (some (.int .i64 (tz : Int))) none none).run Try.prog W = .ok (.slice (subA (some ⟨w.heap.size, 0, none⟩) tz N 3) (N - tz) (N - tz)) W := fun W => part_l (P := Try.prog) Try.underlying23 size36 (some ⟨w.heap.size, 0, none⟩) N N tz (tz : Int) rfl (by omega) W
        have hp2 : ∀ W, (Instr.sliceAt 23 (.slice a nA cA) (some (.int .i64 (f1 : Int))) (some (.int .i64 (f2 : Int))) none).run Try.prog W = .ok (.slice (subA a f1 cA 3) one (cA - f1)) W := fun W => by
          rw [part_lh (P := Try.prog) Try.underlying23 size36 a nA cA f1 f2 (f1 : Int) (f2 : Int) rfl rfl (by omega) (by omega) W, show f2 - f1 = one by omega]
        have hp3 : ∀ W, (Instr.sliceAt 23 (.slice (some ⟨w.heap.size, 0, none⟩) N N) (some (.int .i64 (t2 : Int))) none none).run Try.prog W = .ok (.slice (subA (some ⟨w.heap.size, 0, none⟩) t2 N 3) (N - t2) (N - t2)) W := fun W => part_l (P := Try.prog) Try.underlying23 size36 (some ⟨w.heap.size, 0, none⟩) N N t2 (t2 : Int) rfl (by omega) W
        have hp4 : ∀ W, (Instr.sliceAt 23 (.slice b nB cB) (some (.int .i64 (g1 : Int))) (some (.int .i64 (g2 : Int))) none).run Try.prog W = .ok (.slice (subA b g1 cB 3) two (cB - g1)) W := fun W => by
          rw [part_lh (P := Try.prog) Try.underlying23 size36 b nB cB g1 g2 (g1 : Int) (g2 : Int) rfl rfl (by omega) (by omega) W, show g2 - g1 = two by omega]
        obtain ⟨d1, hd1⟩ : ∃ z, subA (some ⟨w.heap.size, 0, none⟩) tz N 3 = z := ⟨_, rfl⟩
        obtain ⟨d2, hd2⟩ : ∃ z, subA (some ⟨w.heap.size, 0, none⟩) t2 N 3 = z := ⟨_, rfl⟩
        have HD1 : Hid (0 < one → d1 = some ⟨w.heap.size, tz * 3, none⟩) := fun h => by rw [← hd1]; unfold subA; rw [if_neg (by omega), Option.map_some, add_off, Nat.zero_add]
        have HD2 : Hid (0 < two → d2 = some ⟨w.heap.size, t2 * 3, none⟩) := fun h => by rw [← hd2]; unfold subA; rw [if_neg (by omega), Option.map_some, add_off, Nat.zero_add]
        simp only [hd1] at hp1
        simp only [hd2] at hp3
        have HLA : Hid (∀ W, Below w.heap.size w W → Lies W (subA a f1 cA 3) (rowT (fun q => TA (f1 + q)) one)) := fun W h => (HAB.out.1.next h).part f1 one (by omega)
        have HLB : Hid (∀ W, Below w.heap.size w W → Lies W (subA b g1 cB 3) (rowT (fun q => TB (g1 + q)) two)) := fun W h => (HAB.out.2.next h).part g1 two (by omega)
        have HTA : Hid (rowT (fun q => TA (f1 + q)) one = rowT (fun q => T (tz + q)) one) := rowT_congr fun q hq => by
          rw [← HT.out, ← htz, ← hM, turnF_a TA TB one two r q hq, hf1]
        have HTB : Hid (rowT (fun q => TB (g1 + q)) two = rowT (fun q => T (t2 + q)) two) := rowT_congr fun q hq => by
          rw [← HT.out, ← ht2, ← htz, ← hM, turnF_b TA TB one two r q hq, hg1]
        obtain ⟨RA, hRA⟩ : ∃ z, rowT (fun q => TA (f1 + q)) one = z := ⟨_, rfl⟩
        obtain ⟨RB, hRB⟩ : ∃ z, rowT (fun q => TB (g1 + q)) two = z := ⟨_, rfl⟩
        have HMA : Hid (one = Nat.min one (N - tz) ∧ RA.length = one * 3 ∧ tz * 3 + RA.length ≤ N * 3) := by
          have : RA.length = one * 3 := by rw [← hRA]; exact rowT_len _ _
          exact ⟨(Nat.min_eq_left (by omega)).symm, this, by omega⟩
        have HMB : Hid (two = Nat.min two (N - t2) ∧ RB.length = two * 3 ∧ t2 * 3 + RB.length ≤ N * 3) := by
          have : RB.length = two * 3 := by rw [← hRB]; exact rowT_len _ _
          exact ⟨(Nat.min_eq_left (by omega)).symm, this, by omega⟩
        rw [hRA] at HLA HTA
        rw [hRB] at HLB HTB
        have HROW : Hid (wr.drew.rowIs w.heap.size 36 (N * 3) (gF T tz)) := by rw [← htz]; exact hrow
        have HTW := hide (And.intro hTw.drew hBw.drew)
        have HE := hide (And.intro hs e3)
        have HTT := hide (And.intro ht2 ht3)
        rw [htz]
        have htN : tz ≤ N := by omega
        have ht2N : t2 ≤ N := by omega
        have ht3N : t3 ≤ N := by omega
        have hf1N : f2 ≤ nA := b1
        have hg1N : g2 ≤ nB := b2
        clear hrow hTw hnA hnB hNM hM hN hzz htz hf1 hg1 hf2 hg2 ht2 ht3 b1 b2 b3 e1 e2 e3 hW hBw hd1 hd2 hRA hRB hs HST HZ HNN HAB HT
        go_wp2
        go_region_law (refine step_copy_rowIs rfl (.tmp 33) (.tmp 42) 23 23 rfl 36 3 Try.underlying23 size36 d1 (subA a f1 cA 3) (N - tz) (N - tz) one (cA - f1) one (by go_simp) (by go_simp) w.heap.size (tz * 3) (N * 3) 36 (gF T tz) HROW.out RA HMA.out.1 HMA.out.2.1 HD1.out (HLA.out _ HTW.out.2) (by decide) HMA.out.2.2 ?_; intro w9 hrow9 hTw9)
        all_goals
          have HN9 : Hid (Two W4 w.heap.size w.heap.size w9.drew ∧ w9.drew.rowIs w.heap.size 36 (N * 3) (gF T t2) ∧ Below w.heap.size w w9.drew) := by
            have hT9 : Two W4 w.heap.size w.heap.size w9 := ⟨HTW.out.1.io.trans hTw9.io, hTw9.size.trans HTW.out.1.size, fun b h1 h2 => (hTw9.keep b h1 h2).trans (HTW.out.1.keep b h1 h2)⟩
            refine ⟨hT9.drew, ?_, (HTW.out.2.trans (hTw9.belowB (Nat.le_refl _) (Nat.le_refl _))).drew⟩
            refine hrow9.congr fun i hi => ?_
            rw [HTA.out, ← HTT.out.1]
            exact spF_gF T tz one N i hi
          clear hrow9 hTw9 HROW HLA HMA HTW hp1 hp2 HD1 HTA
          go_wp2
          go_region_law (refine step_copy_rowIs rfl (.tmp 48) (.tmp 57) 23 23 rfl 36 3 Try.underlying23 size36 d2 (subA b g1 cB 3) (N - t2) (N - t2) two (cB - g1) two (by go_simp) (by go_simp) w.heap.size (t2 * 3) (N * 3) 36 (gF T t2) HN9.out.2.1 RB HMB.out.1 HMB.out.2.1 HD2.out (HLB.out _ HN9.out.2.2) (by decide) HMB.out.2.2 ?_; intro wA hrowA hTwA)
          all_goals
            have HNA : Hid (Two W4 w.heap.size w.heap.size wA ∧ wA.rowIs w.heap.size 36 (N * 3) (gF T ((r + 1) * M))) := by
              refine ⟨⟨HN9.out.1.io.trans hTwA.io, hTwA.size.trans HN9.out.1.size, fun b h1 h2 => (hTwA.keep b h1 h2).trans (HN9.out.1.keep b h1 h2)⟩, ?_⟩
              refine hrowA.congr fun i hi => ?_
              rw [HTB.out, HE.out.2, ← HTT.out.2]
              exact spF_gF T t2 two N i hi
            clear hrowA hTwA HN9 HLB HMB hp3 hp4 HD2 HTB
            go_wp2
            go_roundg (t - (r + 1))
            case rel => exact ⟨r + 1, by omega, by rw [HE.out.1], by rw [HE.out.2], HNA.out⟩
            case measure => omega
      · have hrt : r = t := by omega
        subst hrt
        rw [← hNM] at hrow
        have HF : Hid (w.heap.size ≤ w.heap.size ∧ w.heap.size < wr.heap.size ∧ wr.rowIs w.heap.size 36 (N * 3) (gF T N) ∧ Below w.heap.size w wr) := ⟨Nat.le_refl _, by rw [hTw.size]; omega, hrow, HST.out.2.trans (hTw.belowB (Nat.le_refl _) (Nat.le_refl _))⟩
        clear hrow hTw hnA hnB hNM hM hN hzz HST HAB HNN
        go_wp2
        go_ret
        exact ⟨⟨_, rfl, HF.out.1, HF.out.2.1, HF.out.2.2.1⟩, HF.out.2.2.2⟩
end Go.Proofs.Ytmjncdhahdpplaa
namespace Go.Proofs.Ytmjncdhahdpplaa
open Go.ChangeShapes Go.WideShapes Go.ChangeAt Go.RowKit
set_option linter.unusedVariables false
set_option maxRecDepth 100000
def cinL (S : Nat) (cs : List Ce) (N : Nat) : List Ce := if 0 < S then cs else List.replicate N (cAt cs 0)
/-- A slice of cells in a world, what they hold in an elder one. -/
def CinP (m lo : Nat) (w0 w : World) (cs : List Ce) (a : Option Addr) (n c : Nat) : Prop := n = cs.length ∧ ∃ T, SrcT w a n c T ∧ ∀ i, i < n → CeIn (ArIn m lo w0) lo w0 (cAt cs i) (T i).1 (T i).2.1 (T i).2.2
theorem CinP.next {m lo : Nat} {w0 w w' : World} {cs : List Ce} {a : Option Addr} {n c : Nat} (h : CinP m lo w0 w cs a n c) (hb : Below w.heap.size w w') : CinP m lo w0 w' cs a n c := by
  obtain ⟨h1, T, h2, h3⟩ := h
  exact ⟨h1, T, h2.next hb, h3⟩
theorem cinP_of {m lo c : Nat} {w0 w : World} {cs : List Ce} {a : Option Addr} (hc : CellsIn m lo w0 cs a) (hb : Below w0.heap.size w0 w) (hcap : cs.length ≤ c) : CinP m lo w0 w cs a cs.length c := by
  obtain ⟨ab, cb, hcf⟩ := cells_fn hc
  refine ⟨rfl, cellT cs ab cb, ⟨hcap, fun i => ⟨rfl, rfl, rfl⟩, fun h0 => ?_⟩, fun i hi => ?_⟩
  · obtain ⟨b, off, rfl, -, hl, hcells⟩ := hcf h0
    refine ⟨b, off, rfl, Nat.lt_of_lt_of_le hl hb.size, fun i hi => ?_⟩
    obtain ⟨g0, g1, g2, -⟩ := hcells i hi
    exact ⟨(hb.cell (p := ⟨b, off + i * 3, none⟩) hl).trans g0, (hb.cell (p := ⟨b, off + i * 3 + 1, none⟩) hl).trans g1, (hb.cell (p := ⟨b, off + i * 3 + 2, none⟩) hl).trans g2⟩
  · obtain ⟨b, off, rfl, -, hl, hcells⟩ := hcf (by omega)
    exact (hcells i hi).2.2.2
theorem replicate_at {N i : Nat} (x : Ce) (hi : i < N) : cAt (List.replicate N x) i = x := by simp [cAt, hi]
set_option maxHeartbeats 2000000 in
theorem cellsIn_any {m lo lo' : Nat} (S : Nat) (cs : List Ce) (sh : List Int) (s1 a2 ash : Option Addr) (k1 c2 csh N : Nat) {w0 w : World} (hc : CellsIn m lo w0 cs a2) (hb0 : Below w0.heap.size w0 w) (hcap : cs.length ≤ c2) (R : Row lo' w ash sh) (h1 : S = 0 → cs.length = 1) (hS8 : S ≤ 8) (hV : sizeV sh = (N : Int)) (hN : N ≤ 16384) :
    Calls Try.prog 101 #[.agg #[.slice s1 S k1, .slice a2 cs.length c2], .slice ash sh.length csh] w fun e w' => (∃ a n c, e = .returned (.slice a n c) ∧ CinP m lo w0 w' (cinL S cs N) a n c) ∧ Below w.heap.size w w' := by
  obtain ⟨W1, e1⟩ : ∃ W1, w.alloc (.cells #[.slice s1 S k1, .slice a2 cs.length c2] 25) = W1 := ⟨_, rfl⟩
  have B1 : Below w.heap.size w W1 := by rw [← e1]; exact one_alloc _ _
  have q0 : W1.cell? ⟨w.heap.size, 0, none⟩ = some (.slice s1 S k1) := by rw [← e1]; exact cell_new0 w _ 25 0 _ rfl
  have q1 : W1.cell? ⟨w.heap.size, 1, none⟩ = some (.slice a2 cs.length c2) := by rw [← e1]; exact cell_new0 w _ 25 1 _ rfl
  have HB := hide (And.intro hb0 B1)
  have HC := hide (And.intro hc hcap)
  by_cases hS : 0 < S
  · have HF : Hid (CinP m lo w0 W1 (cinL S cs N) a2 cs.length c2) := by
      have : cinL S cs N = cs := by unfold cinL; rw [if_pos hS]
      rw [this]
      exact cinP_of hc (hb0.trans (B1.mono hb0.size)) hcap
    clear hc hb0 hcap R h1 hV B1 HC
    generalize cs.length = CA at *
    generalize sh.length = SH at *
    go_enter Try.func101, Try.ntmps101
    go_wp2
    go_ret
    exact ⟨⟨_, _, _, rfl, HF.out⟩, HB.out.2⟩
  have hS0 : S = 0 := by omega
  have hcl := h1 hS0
  have CS := size_any sh ash csh W1 (R.next B1)
  rw [hV] at CS
  obtain ⟨ab, cb, hcf⟩ := cells_fn hc
  obtain ⟨b, off, rfl, -, hl, hcells⟩ := hcf (by omega)
  obtain ⟨g0, g1, g2, hce⟩ := hcells 0 (by omega)
  have HCE := hide hce
  have HEL : Hid (cinL S cs N = List.replicate N (cAt cs 0)) := by unfold Hid cinL; rw [if_neg hS]
  rw [hcl] at q1 e1 ⊢
  have hNB := hb0.trans (B1.mono hb0.size)
  have HLI : Hid (Lies W1 (some ⟨b, off, none⟩) [.int .i64 (cAt cs 0).1, .int .i64 (cAt cs 0).2.1, .slice (ab 0) (cAt cs 0).2.2.length (cb 0)]) := by
    refine ⟨Or.inr ⟨⟨b, off, none⟩, rfl, Nat.lt_of_lt_of_le hl hNB.size, fun j u hj => ?_⟩, fun u hu => ?_⟩
    · rw [add_off]
      match j, hj with
      | 0, hj => simp at hj; subst hj; have := (hNB.cell (p := ⟨b, off + 0 * 3, none⟩) hl).trans g0; simpa using this
      | 1, hj => simp at hj; subst hj; have := (hNB.cell (p := ⟨b, off + 0 * 3 + 1, none⟩) hl).trans g1; simpa using this
      | 2, hj => simp at hj; subst hj; have := (hNB.cell (p := ⟨b, off + 0 * 3 + 2, none⟩) hl).trans g2; simpa using this
      | j + 3, hj => simp at hj
    · simp at hu; rcases hu with rfl | rfl | rfl <;> rfl
  have CR := repeat_any (some ⟨b, off, none⟩) c2 N _ _ _ _ _ W1 HLI.out hN
  generalize hkk : (cAt cs 0).1 = kk at *
  generalize hNN : (cAt cs 0).2.1 = NN at *
  generalize hnb : (cAt cs 0).2.2.length = nb at *
  generalize sizeE sh = ES at CS
  have hSb : ¬ (0 : Int) < (S : Int) := by omega
  clear hc hb0 hcap R h1 hV B1 HC hcells hcf g0 g1 g2 hce hNB HLI hS hS0
  generalize sh.length = SH at *
  go_enter Try.func101, Try.ntmps101
  go_wp2_with fail
  refine CS.mono ?_
  clear CS
  rintro e w2 ⟨rfl, rfl⟩
  go_wp2_with fail
  clear e1 q0 q1
  refine CR.mono ?_
  clear CR
  rintro e w3 ⟨⟨g, rfl, hg1, hg2, hrow⟩, hb3⟩
  have HF : Hid (CinP m lo w0 w3 (cinL S cs N) (some ⟨g, 0, none⟩) N N) := by
    rw [HEL.out]
    refine ⟨by simp, fun _ => (.int .i64 kk, .int .i64 NN, .slice (ab 0) nb (cb 0)), ⟨Nat.le_refl _, fun i => ⟨rfl, rfl, rfl⟩, fun h0 => ⟨g, 0, rfl, hg2, fun i hi => ?_⟩⟩, fun i hi => ?_⟩
    · obtain ⟨s0, s1, s2⟩ := gF_at (fun _ => ((.int .i64 kk, .int .i64 NN, .slice (ab 0) nb (cb 0)) : Value × Value × Value)) N i hi
      have m0 := hrow.cell (i := i * 3) (by omega)
      have m1 := hrow.cell (i := i * 3 + 1) (by omega)
      have m2 := hrow.cell (i := i * 3 + 2) (by omega)
      rw [s0] at m0
      rw [s1] at m1
      rw [s2] at m2
      rw [Nat.zero_add]
      exact ⟨m0, m1, m2⟩
    · rw [replicate_at _ hi, ← hkk, ← hNN, ← hnb]
      have := HCE.out
      rw [← hkk, ← hNN, ← hnb] at this
      exact this
  have HBF := hide (HB.out.2.trans (hb3.mono HB.out.2.size))
  clear hrow hg1 hg2 hb3 HCE HEL HB hkk hNN hnb
  go_wp2
  go_ret
  exact ⟨⟨_, _, _, rfl, HF.out⟩, HBF.out⟩
end Go.Proofs.Ytmjncdhahdpplaa
namespace Go.Proofs.Ytmjncdhahdpplaa
open Go.ChangeShapes Go.WideShapes Go.ChangeAt Go.RowKit
set_option linter.unusedVariables false
set_option maxRecDepth 100000
/-- All blocks but one are kept. -/
structure Kp (W : World) (B : Nat) (wr : World) : Prop where
  io : Below 0 W wr
  keep : ∀ b, b < W.heap.size → b ≠ B → wr.heap[b]? = W.heap[b]?
theorem Kp.refl (W : World) (B : Nat) : Kp W B W := ⟨Below.refl _ _, fun _ _ _ => rfl⟩
theorem Kp.below {W wr : World} {B b : Nat} (h : Kp W B wr) (hb : b ≤ B) (hW : b ≤ W.heap.size) : Below b W wr := ⟨h.io.os, h.io.tape, h.io.output, h.io.size, fun k hk => h.keep k (by omega) (by omega)⟩
theorem Kp.step {W wr : World} {B : Nat} (h : Kp W B wr) (o : Obj) (i : Nat) (v : Value) : Kp W B ((wr.setCell ⟨B, i, none⟩ v).alloc o).drew := by
  have h1 := one_alloc (wr.setCell ⟨B, i, none⟩ v) o
  have hs : (wr.setCell ⟨B, i, none⟩ v).heap.size = wr.heap.size := by simp
  refine ⟨((h.io.setCell (p := ⟨B, i, none⟩) (Nat.zero_le _) v).trans (h1.mono (Nat.zero_le _))).drew, fun b hb hne => ?_⟩
  have e1 : ((wr.setCell ⟨B, i, none⟩ v).alloc o).heap[b]? = (wr.setCell ⟨B, i, none⟩ v).heap[b]? := h1.block b (by rw [hs]; exact Nat.lt_of_lt_of_le hb h.io.size)
  have e2 : (wr.setCell ⟨B, i, none⟩ v).heap[b]? = wr.heap[b]? := Below.heap_setCell _ _ _ _ (by show b ≠ B; exact hne)
  exact (e1.trans e2).trans (h.keep b hb hne)
def lkF (x y : Ar) (i : Nat) : Int := if ¬ (cAt x.cells i).1 = 0 then 5 else if (cAt x.cells i).2.1 < 0 ∨ gI y.shape 0 ≤ (cAt x.cells i).2.1 then 8 else 0
def lkL (x : Ar) : List Int := (List.range x.cells.length).map fun i => (cAt x.cells i).2.1
theorem lkL_len (x : Ar) : (lkL x).length = x.cells.length := by simp [lkL]
theorem lkL_at (x : Ar) (i : Nat) (hi : i < x.cells.length) : gI (lkL x) i = (cAt x.cells i).2.1 := by simp [gI, lkL, hi]
def lookR (x y : Ar) : Ar × Int :=
  if y.shape.length = 0 ∨ 9 < x.shape.length + y.shape.length then (zeroA, 6) else if ¬ firstUp (lkF x y) x.cells.length = 0 then (zeroA, firstUp (lkF x y) x.cells.length) else
  if ¬ sizeE (x.shape ++ y.shape.tail) = 0 then (zeroA, sizeE (x.shape ++ y.shape.tail)) else (.mk (x.shape ++ y.shape.tail) (alongA y 0 (lkL x)).cells, 0)
theorem look_size {x y : Ar} (hx : chkA 8 x = 0) (hy : chkA 8 y = 0) (hS : 0 < y.shape.length) (hE : sizeE (x.shape ++ y.shape.tail) = 0) : sizeE (y.shape.set 0 (x.cells.length : Int)) = 0 := by
  obtain ⟨d, t, hdt⟩ : ∃ d t, y.shape = d :: t := by
    cases hsh : y.shape with
    | nil => rw [hsh] at hS; simp at hS
    | cons d t => exact ⟨d, t, rfl⟩
  rw [hdt] at hE ⊢
  simp only [List.tail_cons, List.set_cons_zero] at hE ⊢
  obtain ⟨h1, h2, h3, -⟩ := (chkA_iff 8 x).1 hx
  obtain ⟨l8, g2, g3⟩ := fine_cases hE
  have ly := (fine_cases ((chkA_iff 8 y).1 hy).1).1
  rw [hdt] at ly
  refine (fine_mk (l := (x.cells.length : Int) :: t) (by simpa using ly) (fun z hz => ?_) ?_).1
  · rcases List.mem_cons.1 hz with h | h
    · omega
    · exact g2 z (List.mem_append.2 (Or.inr h))
  · rcases g3 with ⟨⟨z, hz, hz0⟩, -⟩ | ⟨hp, hle, -⟩
    · left
      rcases List.mem_append.1 hz with h | h
      · refine ⟨_, List.mem_cons_self, ?_⟩
        have : sizeV x.shape = 0 := by rw [sizeV_prod h1]; exact prodL_zero ⟨z, h, hz0⟩
        omega
      · exact ⟨z, List.mem_cons.2 (Or.inr h), hz0⟩
    · right
      rw [prodL_append] at hle
      have : prodL ((x.cells.length : Int) :: t) = (x.cells.length : Int) * prodL t := rfl
      rw [this, ← h2, sizeV_prod h1]; exact hle
set_option maxHeartbeats 8000000 in
theorem looked_any {n m lo lo' : Nat} {x y : Ar} {va vb : Value} {w0 w : World} (hx : ArIn (m + 1) lo w0 x va) (hy : ArIn (n + 1) lo' w0 y vb) (hb0 : Below w0.heap.size w0 w) (hcx : chkA 8 x = 0) (hcy : chkA 8 y = 0) (hcap : Caps vb) :
    Calls Try.prog 80 #[va, vb] w fun e w' => Gives2K (n + 1) w0 (lookR x y).1 (lookR x y).2 w e w' := by
  obtain ⟨a1, c1, a2, c2, rfl, R, hc⟩ := hx.form
  obtain ⟨b1, d1, b2, d2, rfl, R', hc'⟩ := hy.form
  have I := in3_new w (.slice a1 x.shape.length c1) (.slice a2 x.cells.length c2) (.slice b1 y.shape.length d1) (.slice b2 y.cells.length d2)
  obtain ⟨W3, e3⟩ : ∃ W3, ((w.alloc (.cells #[.slice a1 x.shape.length c1, .slice a2 x.cells.length c2] 25)).alloc (.cells #[.slice b1 y.shape.length d1, .slice b2 y.cells.length d2] 25)).alloc (.cells #[.slice none 0 0, .slice none 0 0] 25) = W3 := ⟨_, rfl⟩
  rw [e3] at I
  have z3 : W3.heap.size = w.heap.size + 3 := by rw [← e3]; simp
  have HI := hide I
  have HB0 := hide hb0
  have HX := hide hcx
  have HY := hide (And.intro hy (And.intro hcy hcap))
  have HR := hide (And.intro R (And.intro R' hc))
  obtain ⟨lx8, cx16⟩ := chk_len hcx
  obtain ⟨ly8, cy16⟩ := chk_len hcy
  have HE : Hid (lookR x y = if y.shape.length = 0 ∨ 9 < x.shape.length + y.shape.length then (zeroA, 6) else if ¬ firstUp (lkF x y) x.cells.length = 0 then (zeroA, firstUp (lkF x y) x.cells.length) else if ¬ sizeE (x.shape ++ y.shape.tail) = 0 then (zeroA, sizeE (x.shape ++ y.shape.tail)) else (.mk (x.shape ++ y.shape.tail) (alongA y 0 (lkL x)).cells, 0)) := rfl
  have hlx := R.1
  have hly := R'.1
  obtain ⟨SX, hSX⟩ : ∃ SX, x.shape.length = SX := ⟨_, rfl⟩
  obtain ⟨CX, hCX⟩ : ∃ CX, x.cells.length = CX := ⟨_, rfl⟩
  obtain ⟨SY, hSY⟩ : ∃ SY, y.shape.length = SY := ⟨_, rfl⟩
  obtain ⟨CY, hCY⟩ : ∃ CY, y.cells.length = CY := ⟨_, rfl⟩
  have HSC := hide (And.intro hSX (And.intro hCX (And.intro hSY hCY)))
  have q0 := I.q0
  have q1 := I.q1
  have r0 := I.r0
  have r1 := I.r1
  have p0 := I.p0
  have p1 := I.p1
  have f0 := I.f0
  have f1 := I.f1
  have HT0 := hide (I.put (.slice none 0 0) (.slice none 0 0))
  simp only [hSX, hCX, hSY, hCY] at e3 q0 q1 r0 r1 HI HY HE lx8 cx16 ly8 cy16 ⊢
  have HZ3 := hide z3
  clear R hc I hx hy R' hc' hSX hCX hSY hCY hb0 hcx hcy hcap hlx hly z3
  by_cases hS0 : SY = 0
  · have HE5 : Hid (lookR x y = (zeroA, 6)) := by unfold Hid; rw [HE.out, if_pos (Or.inl hS0)]
    have hSb : ((SY : Int) == 0) = true := by simp [hS0]
    clear HE HY HR hS0
    go_enter Try.func80, Try.ntmps80
    go_wp2
    exact bodyPost_ret (v := .tuple #[.agg #[.slice none 0 0, .slice none 0 0], .int .i64 6]) (by simp [results, Try.results80, go_sem, HT0.out.1, HT0.out.2]) rfl (gives2k_of HE5.out caps_nil (fun _ _ _ => zeroA_in _ _ _) (HI.out.fin _ _))
  have hSb : ((SY : Int) == 0) = false := by simp; omega
  by_cases h9 : 9 < SX + SY
  · have HE5 : Hid (lookR x y = (zeroA, 6)) := by unfold Hid; rw [HE.out, if_pos (Or.inr h9)]
    have h9' : (8 : Int) < (SX : Int) + (SY : Int) - 1 := by omega
    clear HE HY HR hS0
    go_enter Try.func80, Try.ntmps80
    go_wp2
    exact bodyPost_ret (v := .tuple #[.agg #[.slice none 0 0, .slice none 0 0], .int .i64 6]) (by simp [results, Try.results80, go_sem, HT0.out.1, HT0.out.2]) rfl (gives2k_of HE5.out caps_nil (fun _ _ _ => zeroA_in _ _ _) (HI.out.fin _ _))
  have h9' : ¬ (8 : Int) < (SX : Int) + (SY : Int) - 1 := by omega
  have mk := run_make_row' (P := Try.prog) 22 3 (.int .i64 0) 8 Try.underlying22 int3 rfl .i64 .i64 CX (by omega) (by omega) W3
  obtain ⟨W4, e4⟩ : ∃ W4, W3.alloc (.cells (madeCells #[.int .i64 0] CX) 3) = W4 := ⟨_, rfl⟩
  rw [e4] at mk
  have B4 : Below W3.heap.size W3 W4 := by rw [← e4]; exact one_alloc _ _
  have z4 : W4.heap.size = W3.heap.size + 1 := by rw [← e4]; simp
  have RM : W4.rowIs W3.heap.size 3 CX (toF (lkL x) 0) := by
    rw [← e4]
    exact (World.rowIs_made W3 (.int .i64 0) CX 3).congr fun i hi => by unfold toF; rw [if_neg (by omega)]
  have I4 := HI.out.next B4
  have q14 := I4.q1
  have HI4 := hide I4
  have HZ4 := hide z4
  have HRM := hide RM
  obtain ⟨ab, cb, hcf⟩ := cells_fn HR.out.2.2
  have HCF := hide hcf
  rw [HSC.out.2.1] at HCF
  obtain ⟨bs, os, rfl, hbs, hcs⟩ := row_at HR.out.2.1 (j := 0) (by rw [HSC.out.2.2.1]; omega)
  obtain ⟨D, hD⟩ : ∃ D, gI y.shape 0 = D := ⟨_, rfl⟩
  have eg : y.shape[0]?.getD 0 = D := hD
  rw [eg, Nat.add_zero] at hcs
  have HBS := hide (And.intro hbs hcs)
  have HD := hide hD
  clear B4 z4 RM I4 hcf p0 p1 f0 f1 HT0 hbs hcs eg hD
  go_enter Try.func80, Try.ntmps80
  go_wp2
  clear mk e3 e4 q0 q1 r0 r1 q14
  go_loopg [35] CX (fun g i wr => ∃ j : Nat, g + j = CX ∧ i = .int .i64 (j : Int) ∧ firstUp (lkF x y) j = 0 ∧ Kp W4 W3.heap.size wr ∧ wr.rowIs W3.heap.size 3 CX (toF (lkL x) j))
  case atStart => exact ⟨0, rfl, rfl, rfl, Kp.refl _ _, HRM.out⟩
  case round =>
    clear HRM
    obtain ⟨j, hgj, rfl, hfu, hK, hrow⟩ := hrel
    have hz3 := HZ3.out
    have hz4 := HZ4.out
    have I6 : In3 w (.slice a1 SX c1) (.slice a2 CX c2) (.slice (some ⟨bs, os, none⟩) SY d1) (.slice b2 CY d2) wr := HI4.out.belowS (hK.below (b := w.heap.size + 3) (by omega) (by omega)) (Nat.le_refl _)
    have hNB := HB0.out.trans (I6.bel.mono HB0.out.size)
    by_cases hlt : j < CX
    · obtain ⟨b, off, rfl, -, hb, hcells⟩ := HCF.out (by omega)
      obtain ⟨g0, g1, g2, -⟩ := hcells j hlt
      have u0 := (hNB.cell (p := ⟨b, off + j * 3, none⟩) hb).trans g0
      have u1 := (hNB.cell (p := ⟨b, off + j * 3 + 1, none⟩) hb).trans g1
      have u2 := (hNB.cell (p := ⟨b, off + j * 3 + 2, none⟩) hb).trans g2
      have HLF : Hid (lkF x y j = if ¬ (cAt x.cells j).1 = 0 then 5 else if (cAt x.cells j).2.1 < 0 ∨ D ≤ (cAt x.cells j).2.1 then 8 else 0) := by unfold Hid lkF; rw [HD.out]
      have HLA : Hid (gI (lkL x) j = (cAt x.cells j).2.1) := lkL_at x j (by rw [HSC.out.2.1]; exact hlt)
      clear g0 g1 g2 hcells
      generalize (cAt x.cells j).1 = kk at *
      generalize (cAt x.cells j).2.1 = NN at *
      generalize (cAt x.cells j).2.2.length = nb at *
      generalize ab j = abp at *
      generalize cb j = cbp at *
      have BA := one_alloc wr (.cells #[.int .i64 kk, .int .i64 NN, .slice abp nb cbp] 36)
      have I5 := I6.next BA
      have HERR : Hid (∀ E, lkF x y j = E → ¬ E = 0 → lookR x y = (zeroA, E)) := fun E h1 h2 => by
        rw [HE.out, if_neg (by omega), firstUp_hit hfu (by rw [h1]; exact h2) CX hlt, h1, if_pos h2]
      by_cases hkk : kk = 0
      case neg =>
        have HE5 : Hid (lookR x y = (zeroA, 5)) := HERR.out 5 (by rw [HLF.out, if_pos hkk]) (by decide)
        have hkb : (kk == 0) = false := beq_eq_false_iff_ne.2 hkk
        have HT5 := hide (I5.put (.slice none 0 0) (.slice none 0 0))
        have HI5 := hide I5
        have p0 := I5.p0
        have p1 := I5.p1
        have f0 := I5.f0
        have f1 := I5.f1
        clear hrow hK I6 I5 HY HR HCF
        go_wp2
        exact bodyPost_ret (v := .tuple #[.agg #[.slice none 0 0, .slice none 0 0], .int .i64 5]) (by simp [results, Try.results80, go_sem, HT5.out.1, HT5.out.2]) rfl (gives2k_of HE5.out caps_nil (fun _ _ _ => zeroA_in _ _ _) (HI5.out.fin _ _))
      subst hkk
      by_cases hN0 : NN < 0
      · have HE5 : Hid (lookR x y = (zeroA, 8)) := HERR.out 8 (by rw [HLF.out, if_neg (by simp), if_pos (Or.inl hN0)]) (by decide)
        have HT5 := hide (I5.put (.slice none 0 0) (.slice none 0 0))
        have HI5 := hide I5
        have p0 := I5.p0
        have p1 := I5.p1
        have f0 := I5.f0
        have f1 := I5.f1
        clear hrow hK I6 I5 HY HR HCF
        go_wp2
        exact bodyPost_ret (v := .tuple #[.agg #[.slice none 0 0, .slice none 0 0], .int .i64 8]) (by simp [results, Try.results80, go_sem, HT5.out.1, HT5.out.2]) rfl (gives2k_of HE5.out caps_nil (fun _ _ _ => zeroA_in _ _ _) (HI5.out.fin _ _))
      have y0 := I5.r0
      have y1 := ((hNB.trans (BA.mono hNB.size)).cell (p := ⟨bs, os, none⟩) HBS.out.1).trans HBS.out.2
      have x1 : (wr.alloc (.cells #[.int .i64 0, .int .i64 NN, .slice abp nb cbp] 36)).cell? ⟨wr.heap.size, 1, none⟩ = some (.int .i64 NN) := cell_new0 wr _ 36 1 _ rfl
      by_cases hND : D ≤ NN
      · have HE5 : Hid (lookR x y = (zeroA, 8)) := HERR.out 8 (by rw [HLF.out, if_neg (by simp), if_pos (Or.inr hND)]) (by decide)
        have HT5 := hide (I5.put (.slice none 0 0) (.slice none 0 0))
        have HI5 := hide I5
        have p0 := I5.p0
        have p1 := I5.p1
        have f0 := I5.f0
        have f1 := I5.f1
        clear hrow hK I6 I5 HY HR HCF
        go_wp2
        go_region
        all_goals
          go_wp2
          exact bodyPost_ret (v := .tuple #[.agg #[.slice none 0 0, .slice none 0 0], .int .i64 8]) (by simp [results, Try.results80, go_sem, HT5.out.1, HT5.out.2]) rfl (gives2k_of HE5.out caps_nil (fun _ _ _ => zeroA_in _ _ _) (HI5.out.fin _ _).drew)
      · have zN := hrow.cell (i := j) hlt
        have yN := hrow.frozen j
        have hBl : W3.heap.size < wr.heap.size := by have := hK.io.size; omega
        have zN' := (BA.cell (p := ⟨W3.heap.size, j, none⟩) hBl).trans zN
        have yN' := (BA.frozen (p := ⟨W3.heap.size, j, none⟩) hBl).trans yN
        have HS : Hid (Kp W4 W3.heap.size ((wr.setCell ⟨W3.heap.size, j, none⟩ (.int .i64 NN)).alloc (.cells #[.int .i64 0, .int .i64 NN, .slice abp nb cbp] 36)).drew ∧ ((wr.setCell ⟨W3.heap.size, j, none⟩ (.int .i64 NN)).alloc (.cells #[.int .i64 0, .int .i64 NN, .slice abp nb cbp] 36)).drew.rowIs W3.heap.size 3 CX (toF (lkL x) (j + 1)) ∧ firstUp (lkF x y) (j + 1) = 0) := by
          refine ⟨hK.step _ _ _, ?_, ?_⟩
          · have hr2 : (wr.setCell ⟨W3.heap.size, j, none⟩ (.int .i64 NN)).rowIs W3.heap.size 3 CX (toF (lkL x) (j + 1)) := (hrow.set j (.int .i64 NN)).congr (fun i _ => by rw [toF_step, HLA.out])
            obtain ⟨cc, k1, k2, k3⟩ := hr2
            exact ⟨cc, ((one_alloc (wr.setCell ⟨W3.heap.size, j, none⟩ (.int .i64 NN)) _).block _ (by simpa using hBl)).trans k1, k2, k3⟩
          · rw [firstUp_step hfu, HLF.out, if_neg (by simp), if_neg (by omega)]
        generalize toF (lkL x) j j = yv at *
        clear hrow hK I6 I5 HY HR HCF BA zN yN hNB hz3 hz4
        go_wp2
        go_region
        all_goals
          go_wp2
          go_roundg (CX - (j + 1))
          case rel => exact ⟨j + 1, by omega, by go_num, HS.out.2.2, HS.out.1, HS.out.2.1⟩
          case measure => omega
    · have hje : j = CX := by omega
      subst hje
      have q0 := I6.q0
      have r0 := I6.r0
      have HI6 := hide I6
      have hc1 := (caps_form HY.out.2.2).1
      have hp1 : ∀ W, (Instr.sliceAt 22 (.slice (some ⟨bs, os, none⟩) SY d1) (some (.int .i64 1)) none none).run Try.prog W = .ok (.slice (subA (some ⟨bs, os, none⟩) 1 d1 1) (SY - 1) (d1 - 1)) W := fun W => part_l (P := Try.prog) Try.underlying22 size3 (some ⟨bs, os, none⟩) SY d1 1 1 rfl (by omega) W
      have RT : Row lo' w0 (subA (some ⟨bs, os, none⟩) 1 d1 1) y.shape.tail := by
        have ht : ((y.shape.drop 1).take (SY - 1)) = y.shape.tail := by rw [List.take_of_length_le (by rw [List.length_drop, HSC.out.2.2.1]; omega), List.drop_one]
        have := HR.out.2.1.part 1 d1 (SY - 1) (by rw [HSC.out.2.2.1]; omega) (by rw [HSC.out.2.2.1]; exact hc1)
        rw [ht] at this
        exact this
      obtain ⟨bt, hbt⟩ : ∃ bt, subA (some ⟨bs, os, none⟩) 1 d1 1 = bt := ⟨_, rfl⟩
      rw [hbt] at RT
      simp only [hbt] at hp1
      have tl : y.shape.tail.length = SY - 1 := by rw [List.length_tail, HSC.out.2.2.1]
      have HCC : Hid (∀ W V, Below w0.heap.size w0 W → V < W.heap.size → W.cell? ⟨V, 0, none⟩ = some (.slice a1 SX c1) → W.cell? ⟨V, 1, none⟩ = some (.slice bt (SY - 1) (d1 - 1)) → Calls Try.prog 102 #[.slice (some ⟨V, 0, none⟩) 2 2] W fun e w' => (∃ a cap, e = .returned (.slice a (SX + (SY - 1)) cap) ∧ Own1 W w' a cap (x.shape ++ y.shape.tail)) ∧ Below W.heap.size W w') := by
        intro W V hW hV h0 h1
        have := concat_any x.shape y.shape.tail a1 bt c1 (d1 - 1) V W (HR.out.1.next hW) (RT.next hW) hV (by rw [HSC.out.1]; exact h0) (by rw [tl]; exact h1) (by rw [HSC.out.1]; exact lx8) (by rw [tl]; omega)
        rw [HSC.out.1, tl] at this
        exact this
      have HC2 : Hid (Calls Try.prog 102 #[.slice (some ⟨wr.heap.size, 0, none⟩) 2 2] (wr.alloc (.cells #[.slice a1 SX c1, .slice bt (SY - 1) (d1 - 1)] 22)).drew fun e w' => (∃ a cap, e = .returned (.slice a (SX + (SY - 1)) cap) ∧ Own1 (wr.alloc (.cells #[.slice a1 SX c1, .slice bt (SY - 1) (d1 - 1)] 22)).drew w' a cap (x.shape ++ y.shape.tail)) ∧ Below (wr.alloc (.cells #[.slice a1 SX c1, .slice bt (SY - 1) (d1 - 1)] 22)).drew.heap.size (wr.alloc (.cells #[.slice a1 SX c1, .slice bt (SY - 1) (d1 - 1)] 22)).drew w') := by
        have BA := one_alloc wr (.cells #[.slice a1 SX c1, .slice bt (SY - 1) (d1 - 1)] 22)
        exact HCC.out _ _ (hNB.trans (BA.mono hNB.size)).drew (by show wr.heap.size < (wr.alloc _).heap.size; simp) (cell_new0 wr _ 22 0 _ rfl) (cell_new0 wr _ 22 1 _ rfl)
      have HST := hide (And.intro hK (And.intro hrow hfu))
      have HTL := hide tl
      clear hK hrow hfu I6 hNB RT hbt tl hc1 hz3 hz4
      go_wp2
      go_cut [9] from 63 to 69 (fun s9 wx => ∃ as' cs' wv, s9 = .slice as' (SX + (SY - 1)) cs' ∧ Below wr.heap.size wr wv ∧ Below wv.heap.size wv wx ∧ Own1 wv wx as' cs' (x.shape ++ y.shape.tail))
      case first =>
        go_region_with (go_at_call 102; refine HC2.out.mono ?_; rintro e w9 ⟨⟨as', cs', rfl, ho⟩, hb9⟩)
        all_goals
          have HF9 := hide (And.intro ho hb9)
          clear ho hb9
          go_wp2
          go_meet
        all_goals
          case rel => exact ⟨as', cs', _, rfl, (one_alloc wr _).drew, HF9.out.2, HF9.out.1⟩
      case rest =>
        obtain ⟨as', cs', wv, rfl, hbv, hb9, ho⟩ := hcut
        have BWC : Below wr.heap.size wr wc := hbv.trans (hb9.mono hbv.size)
        have I9 := HI6.out.next BWC
        have HI9 := hide I9
        have hlen : (x.shape ++ y.shape.tail).length = SX + (SY - 1) := by rw [List.length_append, HSC.out.1, HTL.out]
        have CS := size_any (x.shape ++ y.shape.tail) as' cs' wc ho.2.2
        rw [hlen] at CS
        have HO9 := hide (And.intro ho (And.intro hbv hb9))
        obtain ⟨SE, hSE⟩ : ∃ z, sizeE (x.shape ++ y.shape.tail) = z := ⟨_, rfl⟩
        have HSE := hide hSE
        rw [hSE] at CS HE
        generalize sizeV (x.shape ++ y.shape.tail) = SV at CS
        have HBWC := hide BWC
        clear ho hbv hb9 BWC I9 hSE HCC HC2 hp1 q0 r0
        go_wp2_with fail
        refine CS.mono ?_
        clear CS
        rintro e wz ⟨rfl, rfl⟩
        have HE2 : Hid (lookR x y = if ¬ SE = 0 then (zeroA, SE) else (.mk (x.shape ++ y.shape.tail) (alongA y 0 (lkL x)).cells, 0)) := by unfold Hid; rw [HE.out, if_neg (by omega), if_neg (by rw [HST.out.2.2]; simp)]
        by_cases hS2 : SE = 0
        case neg =>
          have HE5 : Hid (lookR x y = (zeroA, SE)) := by unfold Hid; rw [HE2.out, if_pos hS2]
          have hne : (SE == 0) = false := beq_eq_false_iff_ne.2 hS2
          have HT9 := hide (HI9.out.put (.slice none 0 0) (.slice none 0 0))
          have p0 := HI9.out.p0
          have p1 := HI9.out.p1
          have f0 := HI9.out.f0
          have f1 := HI9.out.f1
          clear HE HE2 HY HR HCF HST
          go_wp2
          exact bodyPost_ret (v := .tuple #[.agg #[.slice none 0 0, .slice none 0 0], .int .i64 SE]) (by simp [results, Try.results80, go_sem, HT9.out.1, HT9.out.2]) rfl (gives2k_of HE5.out caps_nil (fun _ _ _ => zeroA_in _ _ _) (HI9.out.fin _ _))
        subst hS2
        have HE5 : Hid (lookR x y = (.mk (x.shape ++ y.shape.tail) (alongA y 0 (lkL x)).cells, 0)) := by unfold Hid; rw [HE2.out, if_neg (by simp)]
        have hll : (lkL x).length = j := by rw [lkL_len, HSC.out.2.1]
        have RR : Row 0 wz (some ⟨W3.heap.size, 0, none⟩) (lkL x) := (row_toF3 (lo := 0) (by rw [hll]; exact HST.out.2.1) (Nat.zero_le _) (by rw [hll]; omega)).next HBWC.out
        have C := along_any (k := 0) HY.out.1 (HB0.out.trans (HI9.out.bel.mono HB0.out.size)) HY.out.2.2 HY.out.2.1 (by rw [HSC.out.2.2.1]; omega) (lkL x) (some ⟨W3.heap.size, 0, none⟩) j RR (fun i hi => by
          rw [hll] at hi
          have h1 := firstUp_zero HST.out.2.2 i (by omega)
          have h2 := firstUp_zero HST.out.2.2 (i + 1) (by omega)
          rw [firstUp_step h1] at h2
          rw [lkL_at x i (by rw [HSC.out.2.1]; exact hi)]
          unfold lkF at h2
          by_cases hk : (cAt x.cells i).1 = 0
          · rw [if_neg (by simpa using hk)] at h2
            by_cases hn : (cAt x.cells i).2.1 < 0 ∨ gI y.shape 0 ≤ (cAt x.cells i).2.1
            · rw [if_pos hn] at h2; omega
            · omega
          · rw [if_pos hk] at h2; omega) (by rw [hll, ← HSC.out.2.1]; exact look_size HX.out HY.out.2.1 (by rw [HSC.out.2.2.1]; omega) HSE.out) (by rw [hll]; exact cx16)
        rw [hll] at C
        have r0 := HI9.out.r0
        have r1 := HI9.out.r1
        obtain ⟨Y, hYY⟩ : ∃ Y, alongA y 0 (lkL x) = Y := ⟨_, rfl⟩
        rw [hYY] at C HE5
        clear HE HE2 RR hYY HR HCF HST hll
        go_wp2_with fail
        refine C.mono ?_
        clear C r0 r1
        rintro e w5 ⟨⟨v, rfl, hcv, hv⟩, hb5⟩
        have NB : Below w0.heap.size w0 w5 := HB0.out.trans ((HI9.out.bel.trans (hb5.mono HI9.out.bel.size)).mono HB0.out.size)
        obtain ⟨z1, m1, z2, m2, rfl, -, -⟩ := (hv w5 NB (Keeps.refl _ _)).form
        have I5 := HI9.out.next hb5
        have p0 := I5.p0
        have p1 := I5.p1
        have f0 := I5.f0
        have f1 := I5.f1
        have fld := field25 z1 z2 Y.shape.length m1 Y.cells.length m2
        have HT := hide (I5.put (.slice as' (SX + (SY - 1)) cs') (.slice z2 Y.cells.length m2))
        have HF : Hid (∀ u v, Gives2K (n + 1) w0 (lookR x y).1 (lookR x y).2 w (.returned (.tuple #[.agg #[.slice as' (SX + (SY - 1)) cs', .slice z2 Y.cells.length m2], .int .i64 0])) ((w5.setCell ⟨w.heap.size + 2, 0, none⟩ u).setCell ⟨w.heap.size + 2, 1, none⟩ v)) := by
          intro u v
          refine gives2k_of HE5.out ⟨_, _, _, _, _, _, rfl, by have := HO9.out.1.1; rw [hlen] at this; exact this, (caps_form hcv).2⟩ (fun W hW hK => ?_) (I5.fin u v)
          have K2 := (keeps_three w5 w.heap.size u v).trans (hK.mono (show w.heap.size ≤ w.heap.size + 3 by omega))
          have hs6 := HI6.out.size
          have hs9 := HI9.out.size
          have hsv := HO9.out.2.1.size
          have A := hv W hW (K2.mono hs9)
          obtain ⟨y1, e1, y2, e2, hval, -, hcells⟩ := A.form
          simp only [Value.agg.injEq, Array.mk.injEq, List.cons.injEq, Value.slice.injEq, and_true] at hval
          obtain ⟨-, rfl, -⟩ := hval
          have RS := ((HO9.out.1.2.2.next hb5).keeps (K2.mono (show w.heap.size + 3 ≤ wv.heap.size by omega))).low (Nat.zero_le _)
          have hcl : Y.cells.length ≤ 5864062014805 := by obtain ⟨_, _, _, _, -, -, h, -⟩ := A; exact h
          exact arIn_mk (x := .mk (x.shape ++ y.shape.tail) Y.cells) RS hcl hcells hlen rfl
        clear I5 hv hcv hb5 NB
        generalize Y.shape.length = YS at *
        generalize Y.cells.length = YC at *
        go_wp2
        exact bodyPost_ret (v := .tuple #[.agg #[.slice as' (SX + (SY - 1)) cs', .slice z2 YC m2], .int .i64 0]) (by simp [results, Try.results80, go_sem, HT.out.1, HT.out.2]) rfl (HF.out _ _)
end Go.Proofs.Ytmjncdhahdpplaa
namespace Go.Proofs.Ytmjncdhahdpplaa
open Go.ChangeShapes Go.WideShapes Go.ChangeAt Go.RowKit
set_option linter.unusedVariables false
set_option maxRecDepth 100000
/-- What listed gives: the argument's own cells, and a shape that has an axis. -/
def LstIs (w0 : World) (x : Ar) (a2 : Option Addr) (c2 : Nat) (w : World) (e : Ending) (w' : World) : Prop := (∃ s1 k1, e = .returned (.agg #[.slice s1 (lstA x).shape.length k1, .slice a2 x.cells.length c2]) ∧ (lstA x).shape.length ≤ k1 ∧ ∀ W, Below w0.heap.size w0 W → Keeps w.heap.size w' W → Row 0 W s1 (lstA x).shape) ∧ Below w.heap.size w w'
set_option maxHeartbeats 4000000 in
theorem plisted_row {n lo : Nat} {x : Ar} {a1 a2 : Option Addr} {c1 c2 : Nat} {w0 w : World} (hx : ArIn (n + 1) lo w0 x (.agg #[.slice a1 x.shape.length c1, .slice a2 x.cells.length c2])) (hb0 : Below w0.heap.size w0 w) (hcap : Caps (.agg #[.slice a1 x.shape.length c1, .slice a2 x.cells.length c2])) : Calls Try.prog 76 #[.agg #[.slice a1 x.shape.length c1, .slice a2 x.cells.length c2]] w fun e w' => LstIs w0 x a2 c2 w e w' := by
  have R : Row lo w0 a1 x.shape := by
    obtain ⟨b1, e1, b2, e2, hv, R, -⟩ := hx.form
    simp only [Value.agg.injEq, Array.mk.injEq, List.cons.injEq, Value.slice.injEq, and_true] at hv
    obtain ⟨⟨rfl, -, rfl⟩, -⟩ := hv
    exact R
  have HRW := hide R
  have I := in2_new w (.slice a1 x.shape.length c1) (.slice a2 x.cells.length c2)
  obtain ⟨W2, e2⟩ : ∃ W2, (w.alloc (.cells #[.slice a1 x.shape.length c1, .slice a2 x.cells.length c2] 25)).alloc (.cells #[.slice none 0 0, .slice none 0 0] 25) = W2 := ⟨_, rfl⟩
  have hz2 : W2.heap.size = w.heap.size + 2 := by rw [← e2]; simp
  have hf0 : W2.frozen? ⟨w.heap.size, 0, none⟩ = false := by
    rw [← e2]
    exact ((one_alloc (w.alloc (.cells #[.slice a1 x.shape.length c1, .slice a2 x.cells.length c2] 25)) _).frozen (p := ⟨w.heap.size, 0, none⟩) (by simp)).trans (frozen_new w _ 25 0)
  rw [e2] at I
  have q0 := I.q0
  have q1 := I.q1
  have HX := hide (And.intro hx hcap)
  by_cases h0 : x.shape.length = 0
  · have HE : Hid (lstA x = .mk [1] x.cells) := by unfold Hid lstA; rw [if_pos h0]
    obtain ⟨W3, e3⟩ : ∃ W3, W2.alloc (.cells #[.int .i64 1] 3) = W3 := ⟨_, rfl⟩
    have B3 : Below W2.heap.size W2 W3 := by rw [← e3]; exact one_alloc _ _
    have z3 : W3.heap.size = w.heap.size + 3 := by rw [← e3]; simp [hz2]
    have o0 : W3.cell? ⟨w.heap.size + 2, 0, none⟩ = some (.int .i64 1) := by rw [← e3, ← hz2]; exact cell_new0 W2 _ 3 0 _ rfl
    have I3 := I.next B3
    have s0 : W3.cell? ⟨w.heap.size, 0, none⟩ = some (.slice a1 x.shape.length c1) := I3.q0
    have s1 : W3.cell? ⟨w.heap.size, 1, none⟩ = some (.slice a2 x.cells.length c2) := I3.q1
    have sf : W3.frozen? ⟨w.heap.size, 0, none⟩ = false := (B3.frozen (p := ⟨w.heap.size, 0, none⟩) (by show w.heap.size < _; omega)).trans hf0
    have p0 := I3.p0
    have p1 := I3.p1
    have f0 := I3.f0
    have f1 := I3.f1
    obtain ⟨W4, e4⟩ : ∃ W4, W3.setCell ⟨w.heap.size, 0, none⟩ (.slice (some ⟨w.heap.size + 2, 0, none⟩) 1 1) = W4 := ⟨_, rfl⟩
    have r0 : W4.cell? ⟨w.heap.size, 0, none⟩ = some (.slice (some ⟨w.heap.size + 2, 0, none⟩) 1 1) := by rw [← e4]; exact World.cell?_setCell_same' _ _ _ (by rw [s0]; rfl)
    have r1 : W4.cell? ⟨w.heap.size, 1, none⟩ = some (.slice a2 x.cells.length c2) := by rw [← e4, World.cell?_setCell_other _ _ _ _ (by simp)]; exact s1
    have g0 : W4.cell? ⟨w.heap.size + 1, 0, none⟩ = some (.slice none 0 0) := by rw [← e4, World.cell?_setCell_other _ _ _ _ (by simp)]; exact p0
    have g1 : W4.cell? ⟨w.heap.size + 1, 1, none⟩ = some (.slice none 0 0) := by rw [← e4, World.cell?_setCell_other _ _ _ _ (by simp)]; exact p1
    have gf0 : W4.frozen? ⟨w.heap.size + 1, 0, none⟩ = false := by rw [← e4]; exact frozen_set _ _ _ _ f0
    have gf1 : W4.frozen? ⟨w.heap.size + 1, 1, none⟩ = false := by rw [← e4]; exact frozen_set _ _ _ _ f1
    have HT := hide (set_two g0 g1 (.slice (some ⟨w.heap.size + 2, 0, none⟩) 1 1) (.slice a2 x.cells.length c2))
    have HF : Hid (∀ u v, LstIs w0 x a2 c2 w (.returned (.agg #[.slice (some ⟨w.heap.size + 2, 0, none⟩) 1 1, .slice a2 x.cells.length c2])) ((W4.setCell ⟨w.heap.size + 1, 0, none⟩ u).setCell ⟨w.heap.size + 1, 1, none⟩ v)) := by
      intro u v
      have B4 : Below w.heap.size w W4 := by rw [← e4]; exact I3.bel.setCell (p := ⟨w.heap.size, 0, none⟩) (Nat.le_refl _) _
      have el : (lstA x).shape = [1] := by rw [HE.out]; rfl
      refine ⟨⟨some ⟨w.heap.size + 2, 0, none⟩, 1, by rw [el]; rfl, by rw [el]; exact Nat.le_refl _, fun W hW hK => ?_⟩, (B4.setCell (p := ⟨w.heap.size + 1, 0, none⟩) (by show _ ≤ w.heap.size + 1; omega) _).setCell (p := ⟨w.heap.size + 1, 1, none⟩) (by show _ ≤ w.heap.size + 1; omega) _⟩
      have K4 : Keeps (w.heap.size + 2) W3 W4 := by rw [← e4]; exact (Keeps.refl _ _).setCell (p := ⟨w.heap.size, 0, none⟩) (by show w.heap.size < _; omega) _
      have K := (K4.trans (keeps_two W4 w.heap.size u v)).trans (hK.mono (show w.heap.size ≤ w.heap.size + 2 by omega))
      have o1 := (K.cell (p := ⟨w.heap.size + 2, 0, none⟩) (Nat.le_refl _) (by show w.heap.size + 2 < _; omega)).trans o0
      have hk := K.1
      rw [el]
      exact row_one (by omega) (Nat.zero_le _) o1
    have HE4 := hide e4
    clear hx R hb0 hcap B3 z3 I I3 o0 HX HRW
    simp only [h0] at q0 e2 ⊢
    clear h0
    generalize x.cells.length = CA at *
    go_enter Try.func76, Try.ntmps76
    go_wp2
    exact bodyPost_ret (v := .agg #[.slice (some ⟨w.heap.size + 2, 0, none⟩) 1 1, .slice a2 CA c2]) (by simp [results, Try.results76, go_sem, HT.out.1, HT.out.2]) rfl (HF.out _ _)
  · have HE : Hid (lstA x = x) := by unfold Hid lstA; rw [if_neg h0]
    have p0 := I.p0
    have p1 := I.p1
    have f0 := I.f0
    have f1 := I.f1
    have HT := hide (I.put (.slice a1 x.shape.length c1) (.slice a2 x.cells.length c2))
    have HF : Hid (∀ u v, LstIs w0 x a2 c2 w (.returned (.agg #[.slice a1 x.shape.length c1, .slice a2 x.cells.length c2])) ((W2.setCell ⟨w.heap.size + 1, 0, none⟩ u).setCell ⟨w.heap.size + 1, 1, none⟩ v)) := fun u v => ⟨⟨a1, c1, by rw [HE.out], by rw [HE.out]; exact (caps_form HX.out.2).1, fun W hW _ => by rw [HE.out]; exact ((HRW.out.low (Nat.zero_le _)).next hW)⟩, I.fin u v⟩
    have hSb : ((x.shape.length : Int) == 0) = false := by simp; exact fun h => h0 (by rw [h]; rfl)
    clear hx R hb0 hcap I h0 HX HRW
    generalize x.cells.length = CA at *
    generalize x.shape.length = SA at *
    go_enter Try.func76, Try.ntmps76
    go_wp2
    exact bodyPost_ret (v := .agg #[.slice a1 SA c1, .slice a2 CA c2]) (by simp [results, Try.results76, go_sem, HT.out.1, HT.out.2]) rfl (HF.out _ _)
set_option maxHeartbeats 4000000 in
theorem pieces_44 {n lo lo' : Nat} {x y : Ar} {va vb : Value} {w0 w : World} (hx : ArIn (n + 1) lo w0 x va) (hy : ArIn (n + 1) lo' w0 y vb) (hb0 : Below w0.heap.size w0 w) (hcx : chkA 8 x = 0) (hcy : chkA 8 y = 0) (hcapx : Caps va) (hcapy : Caps vb) :
    Calls Try.prog 46 #[.int .i64 44, va, vb] w fun e w' => Gives2K (n + 1) w0 (rotR x y 0).1 (rotR x y 0).2 w e w' := by
  obtain ⟨a1, c1, a2, c2, rfl, R, hc⟩ := hx.form
  obtain ⟨b1, d1, b2, d2, rfl, R', hc'⟩ := hy.form
  have I := in3_new w (.slice a1 x.shape.length c1) (.slice a2 x.cells.length c2) (.slice b1 y.shape.length d1) (.slice b2 y.cells.length d2)
  obtain ⟨W3, e3⟩ : ∃ W3, ((w.alloc (.cells #[.slice a1 x.shape.length c1, .slice a2 x.cells.length c2] 25)).alloc (.cells #[.slice b1 y.shape.length d1, .slice b2 y.cells.length d2] 25)).alloc (.cells #[.slice none 0 0, .slice none 0 0] 25) = W3 := ⟨_, rfl⟩
  rw [e3] at I
  have NB : Below w0.heap.size w0 W3 := hb0.trans (I.bel.mono hb0.size)
  have q0 := I.q0
  have q1 := I.q1
  have r0 := I.r0
  have r1 := I.r1
  have HI := hide I
  have HNB := hide NB
  obtain ⟨lx8, cx16⟩ := chk_len hcx
  obtain ⟨ly8, cy16⟩ := chk_len hcy
  have C := rotated_any hx hy NB hcx hcy hcapy 0 0 (fun h => ⟨h, rfl⟩)
  obtain ⟨⟨Y, EY⟩, hR⟩ : ∃ p, rotR x y 0 = p := ⟨_, rfl⟩
  rw [hR] at C ⊢
  simp only at C ⊢
  clear hR R hc R' hc' hx hy hcx hcy hcapx hcapy NB I hb0
  generalize x.shape.length = SX at *
  generalize x.cells.length = CX at *
  generalize y.shape.length = SY at *
  generalize y.cells.length = CY at *
  go_enter Try.func46, Try.ntmps46
  go_wp2_with fail
  clear e3
  refine C.mono ?_
  clear C
  rintro e w2 ⟨⟨v, rfl, hcv, hv⟩, hb2⟩
  obtain ⟨z1, m1, z2, m2, rfl, -, -⟩ := (hv w2 (HNB.out.trans (hb2.mono HNB.out.size)) (Keeps.refl _ _)).form
  have I2 := HI.out.next hb2
  have p0 := I2.p0
  have p1 := I2.p1
  have f0 := I2.f0
  have f1 := I2.f1
  have HT := hide (I2.put (.slice z1 Y.shape.length m1) (.slice z2 Y.cells.length m2))
  have HCV := hide hcv
  have hs3 := HI.out.size
  have HF : Hid (∀ u v W, Below w0.heap.size w0 W → Keeps w.heap.size ((w2.setCell ⟨w.heap.size + 2, 0, none⟩ u).setCell ⟨w.heap.size + 2, 1, none⟩ v) W → ArIn (n + 1) 0 W Y (.agg #[.slice z1 Y.shape.length m1, .slice z2 Y.cells.length m2])) := by
    intro u v W hW hK
    exact hv W hW (((keeps_three w2 w.heap.size u v).trans (hK.mono (show w.heap.size ≤ w.heap.size + 3 by omega))).mono hs3)
  have HFI := hide I2.fin
  clear I2 hv hcv hb2 HI hs3 q0 q1 r0 r1 HNB
  generalize Y.shape.length = YS at *
  generalize Y.cells.length = YC at *
  go_wp2
  exact bodyPost_ret (v := .tuple #[.agg #[.slice z1 YS m1, .slice z2 YC m2], .int .i64 EY]) (by simp [results, Try.results46, go_sem, HT.out.1, HT.out.2]) rfl ⟨⟨_, rfl, HCV.out, HF.out _ _⟩, HFI.out _ _⟩
set_option maxHeartbeats 4000000 in
theorem pieces_45 {n lo lo' : Nat} {x y : Ar} {va vb : Value} {w0 w : World} (hx : ArIn (n + 1) lo w0 x va) (hy : ArIn (n + 1) lo' w0 y vb) (hb0 : Below w0.heap.size w0 w) (hcx : chkA 8 x = 0) (hcy : chkA 8 y = 0) (hcapx : Caps va) (hcapy : Caps vb) :
    Calls Try.prog 46 #[.int .i64 45, va, vb] w fun e w' => Gives2K (n + 1) w0 (rotR x y (y.shape.length - 1)).1 (rotR x y (y.shape.length - 1)).2 w e w' := by
  obtain ⟨a1, c1, a2, c2, rfl, R, hc⟩ := hx.form
  obtain ⟨b1, d1, b2, d2, rfl, R', hc'⟩ := hy.form
  have I := in3_new w (.slice a1 x.shape.length c1) (.slice a2 x.cells.length c2) (.slice b1 y.shape.length d1) (.slice b2 y.cells.length d2)
  obtain ⟨W3, e3⟩ : ∃ W3, ((w.alloc (.cells #[.slice a1 x.shape.length c1, .slice a2 x.cells.length c2] 25)).alloc (.cells #[.slice b1 y.shape.length d1, .slice b2 y.cells.length d2] 25)).alloc (.cells #[.slice none 0 0, .slice none 0 0] 25) = W3 := ⟨_, rfl⟩
  rw [e3] at I
  have NB : Below w0.heap.size w0 W3 := hb0.trans (I.bel.mono hb0.size)
  have q0 := I.q0
  have q1 := I.q1
  have r0 := I.r0
  have r1 := I.r1
  have HI := hide I
  have HNB := hide NB
  obtain ⟨lx8, cx16⟩ := chk_len hcx
  obtain ⟨ly8, cy16⟩ := chk_len hcy
  have C := rotated_any hx hy NB hcx hcy hcapy (y.shape.length - 1) ((y.shape.length : Int) - 1) (fun h => ⟨by omega, by omega⟩)
  obtain ⟨⟨Y, EY⟩, hR⟩ : ∃ p, rotR x y (y.shape.length - 1) = p := ⟨_, rfl⟩
  rw [hR] at C ⊢
  simp only at C ⊢
  clear hR R hc R' hc' hx hy hcx hcy hcapx hcapy NB I hb0
  generalize x.shape.length = SX at *
  generalize x.cells.length = CX at *
  generalize y.shape.length = SY at *
  generalize y.cells.length = CY at *
  go_enter Try.func46, Try.ntmps46
  go_wp2_with fail
  clear e3
  refine C.mono ?_
  clear C
  rintro e w2 ⟨⟨v, rfl, hcv, hv⟩, hb2⟩
  obtain ⟨z1, m1, z2, m2, rfl, -, -⟩ := (hv w2 (HNB.out.trans (hb2.mono HNB.out.size)) (Keeps.refl _ _)).form
  have I2 := HI.out.next hb2
  have p0 := I2.p0
  have p1 := I2.p1
  have f0 := I2.f0
  have f1 := I2.f1
  have HT := hide (I2.put (.slice z1 Y.shape.length m1) (.slice z2 Y.cells.length m2))
  have HCV := hide hcv
  have hs3 := HI.out.size
  have HF : Hid (∀ u v W, Below w0.heap.size w0 W → Keeps w.heap.size ((w2.setCell ⟨w.heap.size + 2, 0, none⟩ u).setCell ⟨w.heap.size + 2, 1, none⟩ v) W → ArIn (n + 1) 0 W Y (.agg #[.slice z1 Y.shape.length m1, .slice z2 Y.cells.length m2])) := by
    intro u v W hW hK
    exact hv W hW (((keeps_three w2 w.heap.size u v).trans (hK.mono (show w.heap.size ≤ w.heap.size + 3 by omega))).mono hs3)
  have HFI := hide I2.fin
  clear I2 hv hcv hb2 HI hs3 q0 q1 r0 r1 HNB
  generalize Y.shape.length = YS at *
  generalize Y.cells.length = YC at *
  go_wp2
  exact bodyPost_ret (v := .tuple #[.agg #[.slice z1 YS m1, .slice z2 YC m2], .int .i64 EY]) (by simp [results, Try.results46, go_sem, HT.out.1, HT.out.2]) rfl ⟨⟨_, rfl, HCV.out, HF.out _ _⟩, HFI.out _ _⟩
set_option maxHeartbeats 4000000 in
theorem pieces_52 {n lo lo' : Nat} {x y : Ar} {va vb : Value} {w0 w : World} (hx : ArIn (n + 1) lo w0 x va) (hy : ArIn (n + 1) lo' w0 y vb) (hb0 : Below w0.heap.size w0 w) (hcx : chkA 8 x = 0) (hcy : chkA 8 y = 0) (hcapx : Caps va) (hcapy : Caps vb) :
    Calls Try.prog 46 #[.int .i64 52, va, vb] w fun e w' => Gives2K (n + 1) w0 (lookR x y).1 (lookR x y).2 w e w' := by
  obtain ⟨a1, c1, a2, c2, rfl, R, hc⟩ := hx.form
  obtain ⟨b1, d1, b2, d2, rfl, R', hc'⟩ := hy.form
  have I := in3_new w (.slice a1 x.shape.length c1) (.slice a2 x.cells.length c2) (.slice b1 y.shape.length d1) (.slice b2 y.cells.length d2)
  obtain ⟨W3, e3⟩ : ∃ W3, ((w.alloc (.cells #[.slice a1 x.shape.length c1, .slice a2 x.cells.length c2] 25)).alloc (.cells #[.slice b1 y.shape.length d1, .slice b2 y.cells.length d2] 25)).alloc (.cells #[.slice none 0 0, .slice none 0 0] 25) = W3 := ⟨_, rfl⟩
  rw [e3] at I
  have NB : Below w0.heap.size w0 W3 := hb0.trans (I.bel.mono hb0.size)
  have q0 := I.q0
  have q1 := I.q1
  have r0 := I.r0
  have r1 := I.r1
  have HI := hide I
  have HNB := hide NB
  obtain ⟨lx8, cx16⟩ := chk_len hcx
  obtain ⟨ly8, cy16⟩ := chk_len hcy
  have C := looked_any hx hy NB hcx hcy hcapy
  obtain ⟨⟨Y, EY⟩, hR⟩ : ∃ p, lookR x y = p := ⟨_, rfl⟩
  rw [hR] at C ⊢
  simp only at C ⊢
  clear hR R hc R' hc' hx hy hcx hcy hcapx hcapy NB I hb0
  generalize x.shape.length = SX at *
  generalize x.cells.length = CX at *
  generalize y.shape.length = SY at *
  generalize y.cells.length = CY at *
  go_enter Try.func46, Try.ntmps46
  go_wp2_with fail
  clear e3
  refine C.mono ?_
  clear C
  rintro e w2 ⟨⟨v, rfl, hcv, hv⟩, hb2⟩
  obtain ⟨z1, m1, z2, m2, rfl, -, -⟩ := (hv w2 (HNB.out.trans (hb2.mono HNB.out.size)) (Keeps.refl _ _)).form
  have I2 := HI.out.next hb2
  have p0 := I2.p0
  have p1 := I2.p1
  have f0 := I2.f0
  have f1 := I2.f1
  have HT := hide (I2.put (.slice z1 Y.shape.length m1) (.slice z2 Y.cells.length m2))
  have HCV := hide hcv
  have hs3 := HI.out.size
  have HF : Hid (∀ u v W, Below w0.heap.size w0 W → Keeps w.heap.size ((w2.setCell ⟨w.heap.size + 2, 0, none⟩ u).setCell ⟨w.heap.size + 2, 1, none⟩ v) W → ArIn (n + 1) 0 W Y (.agg #[.slice z1 Y.shape.length m1, .slice z2 Y.cells.length m2])) := by
    intro u v W hW hK
    exact hv W hW (((keeps_three w2 w.heap.size u v).trans (hK.mono (show w.heap.size ≤ w.heap.size + 3 by omega))).mono hs3)
  have HFI := hide I2.fin
  clear I2 hv hcv hb2 HI hs3 q0 q1 r0 r1 HNB
  generalize Y.shape.length = YS at *
  generalize Y.cells.length = YC at *
  go_wp2
  exact bodyPost_ret (v := .tuple #[.agg #[.slice z1 YS m1, .slice z2 YC m2], .int .i64 EY]) (by simp [results, Try.results46, go_sem, HT.out.1, HT.out.2]) rfl ⟨⟨_, rfl, HCV.out, HF.out _ _⟩, HFI.out _ _⟩
set_option maxHeartbeats 4000000 in
theorem pieces_53 {n lo lo' : Nat} {x y : Ar} {va vb : Value} {w0 w : World} (hx : ArIn (n + 1) lo w0 x va) (hy : ArIn (n + 1) lo' w0 y vb) (hb0 : Below w0.heap.size w0 w) (hcx : chkA 8 x = 0) (hcy : chkA 8 y = 0) (hcapx : Caps va) (hcapy : Caps vb) :
    Calls Try.prog 46 #[.int .i64 53, va, vb] w fun e w' => Gives2K (n + 1) w0 (lookR y x).1 (lookR y x).2 w e w' := by
  obtain ⟨a1, c1, a2, c2, rfl, R, hc⟩ := hx.form
  obtain ⟨b1, d1, b2, d2, rfl, R', hc'⟩ := hy.form
  have I := in3_new w (.slice a1 x.shape.length c1) (.slice a2 x.cells.length c2) (.slice b1 y.shape.length d1) (.slice b2 y.cells.length d2)
  obtain ⟨W3, e3⟩ : ∃ W3, ((w.alloc (.cells #[.slice a1 x.shape.length c1, .slice a2 x.cells.length c2] 25)).alloc (.cells #[.slice b1 y.shape.length d1, .slice b2 y.cells.length d2] 25)).alloc (.cells #[.slice none 0 0, .slice none 0 0] 25) = W3 := ⟨_, rfl⟩
  rw [e3] at I
  have NB : Below w0.heap.size w0 W3 := hb0.trans (I.bel.mono hb0.size)
  have q0 := I.q0
  have q1 := I.q1
  have r0 := I.r0
  have r1 := I.r1
  have HI := hide I
  have HNB := hide NB
  obtain ⟨lx8, cx16⟩ := chk_len hcx
  obtain ⟨ly8, cy16⟩ := chk_len hcy
  have C := looked_any hy hx NB hcy hcx hcapx
  obtain ⟨⟨Y, EY⟩, hR⟩ : ∃ p, lookR y x = p := ⟨_, rfl⟩
  rw [hR] at C ⊢
  simp only at C ⊢
  clear hR R hc R' hc' hx hy hcx hcy hcapx hcapy NB I hb0
  generalize x.shape.length = SX at *
  generalize x.cells.length = CX at *
  generalize y.shape.length = SY at *
  generalize y.cells.length = CY at *
  go_enter Try.func46, Try.ntmps46
  go_wp2_with fail
  clear e3
  refine C.mono ?_
  clear C
  rintro e w2 ⟨⟨v, rfl, hcv, hv⟩, hb2⟩
  obtain ⟨z1, m1, z2, m2, rfl, -, -⟩ := (hv w2 (HNB.out.trans (hb2.mono HNB.out.size)) (Keeps.refl _ _)).form
  have I2 := HI.out.next hb2
  have p0 := I2.p0
  have p1 := I2.p1
  have f0 := I2.f0
  have f1 := I2.f1
  have HT := hide (I2.put (.slice z1 Y.shape.length m1) (.slice z2 Y.cells.length m2))
  have HCV := hide hcv
  have hs3 := HI.out.size
  have HF : Hid (∀ u v W, Below w0.heap.size w0 W → Keeps w.heap.size ((w2.setCell ⟨w.heap.size + 2, 0, none⟩ u).setCell ⟨w.heap.size + 2, 1, none⟩ v) W → ArIn (n + 1) 0 W Y (.agg #[.slice z1 Y.shape.length m1, .slice z2 Y.cells.length m2])) := by
    intro u v W hW hK
    exact hv W hW (((keeps_three w2 w.heap.size u v).trans (hK.mono (show w.heap.size ≤ w.heap.size + 3 by omega))).mono hs3)
  have HFI := hide I2.fin
  clear I2 hv hcv hb2 HI hs3 q0 q1 r0 r1 HNB
  generalize Y.shape.length = YS at *
  generalize Y.cells.length = YC at *
  go_wp2
  exact bodyPost_ret (v := .tuple #[.agg #[.slice z1 YS m1, .slice z2 YC m2], .int .i64 EY]) (by simp [results, Try.results46, go_sem, HT.out.1, HT.out.2]) rfl ⟨⟨_, rfl, HCV.out, HF.out _ _⟩, HFI.out _ _⟩
theorem lst_facts {y : Ar} (h : chkA 8 y = 0) : chkA 8 (lstA y) = 0 ∧ (lstA y).cells = y.cells ∧ 0 < (lstA y).shape.length := by
  by_cases h0 : y.shape.length = 0
  · have e : lstA y = .mk [1] y.cells := by unfold lstA; rw [if_pos h0]
    obtain ⟨-, h1⟩ := atom_one h h0
    have hf := fine_mk (l := [1]) (by decide) (fun z hz => by simp at hz; omega) (Or.inr (by simp [prodL]))
    rw [e]
    refine ⟨chk_of h hf.1 (by rw [hf.2, h1]; simp [prodL]) ?_ (fun i hi => ⟨i, hi, rfl⟩), rfl, by show 0 < ([1] : List Int).length; simp⟩
    rintro ⟨z, hz, hl⟩
    simp at hz
    omega
  · have e : lstA y = y := by unfold lstA; rw [if_neg h0]
    rw [e]
    exact ⟨h, rfl, by omega⟩
set_option maxHeartbeats 4000000 in
theorem pieces_42 {n lo lo' : Nat} {x y : Ar} {va vb : Value} {w0 w : World} (hx : ArIn (n + 1) lo w0 x va) (hy : ArIn (n + 1) lo' w0 y vb) (hb0 : Below w0.heap.size w0 w) (hcx : chkA 8 x = 0) (hcy : chkA 8 y = 0) (hcapx : Caps va) (hcapy : Caps vb) :
    Calls Try.prog 46 #[.int .i64 42, va, vb] w fun e w' => Gives2K (n + 1) w0 (takR x (lstA y)).1 (takR x (lstA y)).2 w e w' := by
  obtain ⟨a1, c1, a2, c2, rfl, R, hc⟩ := hx.form
  obtain ⟨b1, d1, b2, d2, rfl, R', hc'⟩ := hy.form
  have I := in3_new w (.slice a1 x.shape.length c1) (.slice a2 x.cells.length c2) (.slice b1 y.shape.length d1) (.slice b2 y.cells.length d2)
  obtain ⟨W3, e3⟩ : ∃ W3, ((w.alloc (.cells #[.slice a1 x.shape.length c1, .slice a2 x.cells.length c2] 25)).alloc (.cells #[.slice b1 y.shape.length d1, .slice b2 y.cells.length d2] 25)).alloc (.cells #[.slice none 0 0, .slice none 0 0] 25) = W3 := ⟨_, rfl⟩
  rw [e3] at I
  have NB : Below w0.heap.size w0 W3 := hb0.trans (I.bel.mono hb0.size)
  have q0 := I.q0
  have q1 := I.q1
  have r0 := I.r0
  have r1 := I.r1
  have HI := hide I
  have HNB := hide NB
  obtain ⟨lx8, cx16⟩ := chk_len hcx
  obtain ⟨ly8, cy16⟩ := chk_len hcy
  obtain ⟨k1, k2, k3⟩ := lst_facts hcy
  have HC1 := hide (plisted_row hy NB.drew hcapy)
  have HC2 : Hid (∀ W s1 j1, Below w0.heap.size w0 W → Row 0 W s1 (lstA y).shape → (lstA y).shape.length ≤ j1 → Calls Try.prog 75 #[.agg #[.slice a1 x.shape.length c1, .slice a2 x.cells.length c2], .agg #[.slice s1 (lstA y).shape.length j1, .slice b2 y.cells.length d2]] W fun e w' => Gives2K (n + 1) w0 (takR x (lstA y)).1 (takR x (lstA y)).2 W e w') := by
    intro W s1 j1 hW hRW hj
    have := taken_row (y := lstA y) (b2 := b2) (d1 := j1) (d2 := d2) hx hRW (by rw [k2]; exact hc') hW hcx k1 (by rw [k2]; exact ⟨_, _, _, _, _, _, rfl, hj, (caps_form hcapy).2⟩) k3
    rw [k2] at this
    exact this
  obtain ⟨⟨Y, EY⟩, hR⟩ : ∃ p, takR x (lstA y) = p := ⟨_, rfl⟩
  rw [hR] at HC2 ⊢
  simp only at HC2 ⊢
  unfold LstIs at HC1
  obtain ⟨SL, hSL⟩ : ∃ SL, (lstA y).shape.length = SL := ⟨_, rfl⟩
  rw [hSL] at HC1 HC2
  obtain ⟨lsh, hlsh⟩ : ∃ l, (lstA y).shape = l := ⟨_, rfl⟩
  rw [hlsh] at HC1 HC2
  have HID : Hid (In3 w (.slice a1 x.shape.length c1) (.slice a2 x.cells.length c2) (.slice b1 y.shape.length d1) (.slice b2 y.cells.length d2) W3.drew) := I.next (Below.refl _ _).drew
  clear hR R hc R' hc' hx hy hcx hcy hcapx hcapy NB I hb0 k1 k2 k3 hSL hlsh
  generalize x.shape.length = SX at *
  generalize x.cells.length = CX at *
  generalize y.shape.length = SY at *
  generalize y.cells.length = CY at *
  go_enter Try.func46, Try.ntmps46
  go_wp2
  clear e3
  go_region_with (first
    | (go_at_call 76; refine HC1.out.mono ?_; rintro e w1 ⟨⟨s1, j1, rfl, hj, hrw⟩, hb1⟩; have I1 := HID.out.next hb1; have t0 := I1.q0; have t1 := I1.q1; have NB1 := (HNB.out.drew.trans (hb1.mono HNB.out.drew.size)); have RW1 := hrw w1 NB1 (Keeps.refl _ _))
    | (go_at_call 75; refine (HC2.out _ _ _ NB1 RW1 hj).mono ?_; rintro e w2 ⟨⟨v, rfl, hcv, hv⟩, hb2⟩; obtain ⟨z1, m1, z2, m2, rfl, -, -⟩ := (hv w2 (NB1.trans (hb2.mono NB1.size)) (Keeps.refl _ _)).form; have I2 := I1.next hb2; have p0 := I2.p0; have p1 := I2.p1; have f0 := I2.f0; have f1 := I2.f1))
  all_goals
    have HT := hide (I2.put (.slice z1 Y.shape.length m1) (.slice z2 Y.cells.length m2))
    have HCV := hide hcv
    have hs3 := I1.size
    have HF : Hid (∀ u v W, Below w0.heap.size w0 W → Keeps w.heap.size ((w2.setCell ⟨w.heap.size + 2, 0, none⟩ u).setCell ⟨w.heap.size + 2, 1, none⟩ v) W → ArIn (n + 1) 0 W Y (.agg #[.slice z1 Y.shape.length m1, .slice z2 Y.cells.length m2])) := by
      intro u v W hW hK
      exact hv W hW (((keeps_three w2 w.heap.size u v).trans (hK.mono (show w.heap.size ≤ w.heap.size + 3 by omega))).mono hs3)
    have HFI := hide I2.fin
    clear I2 hv hcv hb2 HI hs3 q0 q1 r0 r1 HNB I1 t0 t1 NB1 RW1 hrw hb1 HC1 HC2 HID
    generalize Y.shape.length = YS at *
    generalize Y.cells.length = YC at *
    go_wp2
    exact bodyPost_ret (v := .tuple #[.agg #[.slice z1 YS m1, .slice z2 YC m2], .int .i64 EY]) (by simp [results, Try.results46, go_sem, HT.out.1, HT.out.2]) rfl ⟨⟨_, rfl, HCV.out, HF.out _ _⟩, HFI.out _ _⟩
end Go.Proofs.Ytmjncdhahdpplaa
namespace Go.Proofs.Ytmjncdhahdpplaa
open Go.ChangeShapes Go.WideShapes Go.ChangeAt Go.RowKit
set_option linter.unusedVariables false
set_option maxRecDepth 100000
/-- An array in new memory and an error; its slices are no longer than their rows. -/
def GivesD (n : Nat) (x : Ar) (E : Int) (w : World) (e : Ending) (w' : World) : Prop := (∃ v, e = .returned (.tuple #[v, .int .i64 E]) ∧ Caps v ∧ ArIn n w.heap.size w' x v) ∧ Below w.heap.size w w'
set_option maxHeartbeats 4000000 in
theorem dy_of {n lo lo' : Nat} {op : Int} {x y : Ar} {va vb : Value} {w : World} {R : Ar × Int} (hx : ArIn (n + 1) lo w x va) (hy : ArIn (n + 1) lo' w y vb) (hcx : chkA 8 x = 0) (hcy : chkA 8 y = 0)
    (hP : ∀ W, Below w.heap.size w W → Calls Try.prog 46 #[.int .i64 op, va, vb] W fun e w' => Gives2K (n + 1) w R.1 R.2 W e w') (hz : ¬ R.2 = 0 → R.1 = zeroA) (hchk : R.2 = 0 → chkA 8 R.1 = 0) :
    Calls Try.prog 19 #[.int .i64 op, va, vb] w fun e w' => GivesD (n + 1) R.1 R.2 w e w' := by
  obtain ⟨a1, c1, a2, c2, rfl, RX, hc⟩ := hx.form
  obtain ⟨b1, d1, b2, d2, rfl, R', hc'⟩ := hy.form
  have I := in3_new w (.slice a1 x.shape.length c1) (.slice a2 x.cells.length c2) (.slice b1 y.shape.length d1) (.slice b2 y.cells.length d2)
  obtain ⟨W3, e3⟩ : ∃ W3, ((w.alloc (.cells #[.slice a1 x.shape.length c1, .slice a2 x.cells.length c2] 25)).alloc (.cells #[.slice b1 y.shape.length d1, .slice b2 y.cells.length d2] 25)).alloc (.cells #[.slice none 0 0, .slice none 0 0] 25) = W3 := ⟨_, rfl⟩
  rw [e3] at I
  have q0 := I.q0
  have q1 := I.q1
  have CK := check_any (n + 1) x _ _ W3 (hx.next I.bel)
  rw [hcx] at CK
  have HI := hide I
  have HY := hide (And.intro hy hcy)
  have HP := hide hP
  obtain ⟨Y, E⟩ := R
  simp only at HP hz hchk ⊢
  have HZC := hide (And.intro hz hchk)
  obtain ⟨SX, hSX⟩ : ∃ SX, x.shape.length = SX := ⟨_, rfl⟩
  obtain ⟨CX, hCX⟩ : ∃ CX, x.cells.length = CX := ⟨_, rfl⟩
  obtain ⟨SY, hSY⟩ : ∃ SY, y.shape.length = SY := ⟨_, rfl⟩
  obtain ⟨CY, hCY⟩ : ∃ CY, y.cells.length = CY := ⟨_, rfl⟩
  simp only [hSX, hCX, hSY, hCY] at CK e3 q0 q1 HI HY HP ⊢
  clear RX hc I hx hy R' hc' hSX hCX hSY hCY hcx hcy hP hz hchk
  go_enter Try.func19, Try.ntmps19
  go_wp2_with fail
  clear e3 q0 q1
  refine CK.mono ?_
  clear CK
  rintro e w1 ⟨rfl, hb1⟩
  have I1 := HI.out.next hb1
  have r0 := I1.r0
  have r1 := I1.r1
  have CK2 := check_any (n + 1) y _ _ w1 (HY.out.1.next I1.bel)
  rw [HY.out.2] at CK2
  have HI1 := hide I1
  clear I1 hb1 HI
  go_wp2_with fail
  refine CK2.mono ?_
  clear CK2 r0 r1
  rintro e w2 ⟨rfl, hb2⟩
  have I2 := HI1.out.next hb2
  have q0 := I2.q0
  have q1 := I2.q1
  have r0 := I2.r0
  have r1 := I2.r1
  have CP := HP.out w2 I2.bel
  have HI2 := hide I2
  clear I2 hb2 HI1 HP
  go_wp2_with fail
  clear q0 q1 r0 r1
  refine CP.mono ?_
  clear CP
  rintro e w3 ⟨⟨v, rfl, hcv, hv⟩, hb3⟩
  have NB : Below w.heap.size w w3 := HI2.out.bel.trans (hb3.mono HI2.out.bel.size)
  have hA := hv w3 NB (Keeps.refl _ _)
  obtain ⟨z1, m1, z2, m2, rfl, -, -⟩ := hA.form
  have I3 := HI2.out.next hb3
  obtain ⟨YS, hYS⟩ : ∃ z, Y.shape.length = z := ⟨_, rfl⟩
  obtain ⟨YC, hYC⟩ : ∃ z, Y.cells.length = z := ⟨_, rfl⟩
  simp only [hYS, hYC] at hA ⊢
  have HYL := hide (And.intro hYS hYC)
  obtain ⟨W4, e4⟩ : ∃ W4, w3.alloc (.cells #[.slice z1 YS m1, .slice z2 YC m2] 25) = W4 := ⟨_, rfl⟩
  have B4 : Below w3.heap.size w3 W4 := by rw [← e4]; exact one_alloc _ _
  have o0 : W4.cell? ⟨w3.heap.size, 0, none⟩ = some (.slice z1 YS m1) := by rw [← e4]; exact cell_new0 w3 _ 25 0 _ rfl
  have o1 : W4.cell? ⟨w3.heap.size, 1, none⟩ = some (.slice z2 YC m2) := by rw [← e4]; exact cell_new0 w3 _ 25 1 _ rfl
  have I4 := I3.next B4
  have HI4 := hide I4
  by_cases hE : E = 0
  case neg =>
    have p0 := I4.p0
    have p1 := I4.p1
    have f0 := I4.f0
    have f1 := I4.f1
    have HT := hide (I4.put (.slice none 0 0) (.slice none 0 0))
    have hne : (E == 0) = false := beq_eq_false_iff_ne.2 hE
    have HYZ : Hid (Y = zeroA) := HZC.out.1 hE
    clear I3 I4 hA hv hb3 NB B4 hcv o0 o1 hYS hYC
    go_wp2
    exact bodyPost_ret (v := .tuple #[.agg #[.slice none 0 0, .slice none 0 0], .int .i64 E]) (by simp [results, Try.results19, go_sem, HT.out.1, HT.out.2]) rfl ⟨⟨_, rfl, caps_nil, by rw [HYZ.out]; exact zeroA_in _ _ _⟩, HI4.out.fin _ _⟩
  subst hE
  have CC := copy_at n 8 Y 0 _ W4 (HZC.out.2 rfl) (hA.next B4)
  clear I3 I4 hA hv hb3 NB B4 hcv hYS hYC
  go_wp2_with fail
  clear e4 o0 o1
  refine CC.mono ?_
  clear CC
  rintro e w5 ⟨⟨v, rfl, hv5, ap⟩, hb5⟩
  obtain ⟨bs, bc, rfl, -⟩ := ap
  rw [HYL.out.1, HYL.out.2] at hv5 ⊢
  have I5 := HI4.out.next hb5.b
  have p0 := I5.p0
  have p1 := I5.p1
  have f0 := I5.f0
  have f1 := I5.f1
  have HT := hide (I5.put (.slice (some ⟨bs, 0, none⟩) YS YS) (.slice (some ⟨bc, 0, none⟩) YC YC))
  have HF := hide (I5.give hv5 HI4.out.size)
  have HFI := hide I5.fin
  clear I5 hv5 hb5
  go_wp2
  exact bodyPost_ret (v := .tuple #[.agg #[.slice (some ⟨bs, 0, none⟩) YS YS, .slice (some ⟨bc, 0, none⟩) YC YC], .int .i64 0]) (by simp [results, Try.results19, go_sem, HT.out.1, HT.out.2]) rfl ⟨⟨_, rfl, ⟨_, _, _, _, _, _, rfl, Nat.le_refl _, Nat.le_refl _⟩, HF.out _ _⟩, HFI.out _ _⟩
end Go.Proofs.Ytmjncdhahdpplaa
namespace Go.Proofs.Ytmjncdhahdpplaa
open Go.ChangeShapes Go.WideShapes Go.ChangeAt Go.RowKit
set_option linter.unusedVariables false
set_option maxRecDepth 100000
theorem alongQ_lt {r : Nat} {x : Ar} (h : chkA r x = 0) {k : Nat} {l : List Int} (hk : k < x.shape.length) (hin : ∀ i, i < l.length → 0 ≤ gI l i ∧ gI l i < gI x.shape k) (hs : sizeE (x.shape.set k (l.length : Int)) = 0) (i : Nat) (hi : i < (sizeV (x.shape.set k (l.length : Int))).toNat) :
    alongQ (gI x.shape k).toNat (sizeV (x.shape.drop (k + 1))).toNat l.length (fun i => (gI l i).toNat) i < x.cells.length := by
  obtain ⟨A, D, wd, hD, hwd, hw0, hL0, hNA, hCAA, -, -, -⟩ := along_facts h hk hs (fun h0 => by have := hin 0 h0; omega) (by omega)
  rw [hD, hwd, Int.toNat_natCast, Int.toNat_natCast]
  rw [hNA, Int.toNat_natCast] at hi
  have hM0 : 0 < l.length * wd := Nat.mul_pos hL0 hw0
  have hr : i / (l.length * wd) < A := by rw [Nat.div_lt_iff_lt_mul hM0]; exact hi
  have hj : i % (l.length * wd) / wd < l.length := by rw [Nat.div_lt_iff_lt_mul hw0]; exact Nat.mod_lt _ hM0
  have hq : i % (l.length * wd) % wd < wd := Nat.mod_lt _ hw0
  have e1 : i = (i / (l.length * wd) * l.length + i % (l.length * wd) / wd) * wd + i % (l.length * wd) % wd := by
    have h1 := Nat.div_add_mod i (l.length * wd)
    have h2 := Nat.div_add_mod (i % (l.length * wd)) wd
    rw [Nat.add_mul, Nat.mul_assoc, Nat.mul_comm (i / (l.length * wd)), Nat.mul_comm (i % (l.length * wd) / wd)]
    omega
  rw [e1, alongQ_at D wd l.length (fun i => (gI l i).toNat) _ _ _ hj hq]
  have h1 := hin _ hj
  rw [hD] at h1
  have a1 : ((gI l (i % (l.length * wd) / wd)).toNat + 1) * wd ≤ D * wd := Nat.mul_le_mul_right _ (by omega)
  have a2 : (i / (l.length * wd) + 1) * (D * wd) ≤ A * (D * wd) := Nat.mul_le_mul_right _ hr
  rw [Nat.add_mul, Nat.one_mul] at a1 a2
  omega
theorem alongA_cells {r : Nat} {x : Ar} (h : chkA r x = 0) {k : Nat} {l : List Int} (hk : k < x.shape.length) (hin : ∀ i, i < l.length → 0 ≤ gI l i ∧ gI l i < gI x.shape k) (hs : sizeE (x.shape.set k (l.length : Int)) = 0) : ((alongA x k l).cells.length : Int) = sizeV (x.shape.set k (l.length : Int)) ∧ ∀ i, i < (alongA x k l).cells.length → ∃ j, j < x.cells.length ∧ cAt (alongA x k l).cells i = cAt x.cells j := by
  have hl : (alongA x k l).cells.length = (sizeV (x.shape.set k (l.length : Int))).toNat := by show (mkCs _ _).length = _; rw [mkCs_len]
  have h0 := (sizeV_le hs).1
  refine ⟨by rw [hl]; omega, fun i hi => ?_⟩
  rw [hl] at hi
  refine ⟨_, alongQ_lt h hk hin hs i hi, ?_⟩
  show cAt (mkCs _ _) i = _
  rw [mkCs_at _ _ _ hi]
theorem rot_chk {x y : Ar} (hy : chkA 8 y = 0) (k : Nat) (hk : 0 < y.shape.length → k < y.shape.length) : (¬ (rotR x y k).2 = 0 → (rotR x y k).1 = zeroA) ∧ ((rotR x y k).2 = 0 → chkA 8 (rotR x y k).1 = 0) := by
  unfold rotR
  by_cases h1 : (numR x).2 = 0
  · rw [if_neg (by simpa using h1)]
    by_cases h2 : y.shape.length = 0
    · rw [if_pos h2]; exact ⟨fun h => absurd rfl h, fun _ => hy⟩
    · rw [if_neg h2]
      refine ⟨fun h => absurd rfl h, fun _ => ?_⟩
      have hkk := hk (by omega)
      have hD := (chk_axes hy).1 (gI y.shape k) (getD_mem hkk)
      obtain ⟨D, hDn⟩ : ∃ D : Nat, gI y.shape k = (D : Int) := ⟨(gI y.shape k).toNat, by omega⟩
      rw [hDn, Int.toNat_natCast]
      have hset : y.shape.set k ((rotL (numR x).1 D).length : Int) = y.shape := by rw [rotL_len, ← hDn]; exact set_gI _ _ hkk
      have hin : ∀ i, i < (rotL (numR x).1 D).length → 0 ≤ gI (rotL (numR x).1 D) i ∧ gI (rotL (numR x).1 D) i < gI y.shape k := fun i hi => by
        rw [rotL_len] at hi
        rw [rotL_at _ D i hi, hDn]
        exact (rot_rem _ D i hi).2.2.2
      obtain ⟨g1, g2, g3, -⟩ := (chkA_iff 8 y).1 hy
      have hA := alongA_cells hy hkk hin (by rw [hset]; exact g1)
      have e : alongA y k (rotL (numR x).1 D) = .mk y.shape (alongA y k (rotL (numR x).1 D)).cells := by
        unfold alongA; rw [hset]; rfl
      rw [e]
      exact chk_of hy g1 (by rw [hset] at hA; exact hA.1.symm) g3 hA.2
  · rw [if_pos h1]; exact ⟨fun _ => rfl, fun h => absurd h h1⟩
theorem look_chk {x y : Ar} (hx : chkA 8 x = 0) (hy : chkA 8 y = 0) : (¬ (lookR x y).2 = 0 → (lookR x y).1 = zeroA) ∧ ((lookR x y).2 = 0 → chkA 8 (lookR x y).1 = 0) := by
  unfold lookR
  by_cases h1 : y.shape.length = 0 ∨ 9 < x.shape.length + y.shape.length
  · rw [if_pos h1]; exact ⟨fun _ => rfl, fun h => by simp at h⟩
  rw [if_neg h1]
  by_cases h2 : firstUp (lkF x y) x.cells.length = 0
  case neg => rw [if_pos h2]; exact ⟨fun _ => rfl, fun h => absurd h h2⟩
  rw [if_neg (by simpa using h2)]
  by_cases h3 : sizeE (x.shape ++ y.shape.tail) = 0
  case neg => rw [if_pos h3]; exact ⟨fun _ => rfl, fun h => absurd h h3⟩
  rw [if_neg (by simpa using h3)]
  refine ⟨fun h => absurd rfl h, fun _ => ?_⟩
  have hS : 0 < y.shape.length := by omega
  have hsz := look_size hx hy hS h3
  rw [← lkL_len] at hsz
  have hin : ∀ i, i < (lkL x).length → 0 ≤ gI (lkL x) i ∧ gI (lkL x) i < gI y.shape 0 := fun i hi => by
    rw [lkL_len] at hi
    have g1 := firstUp_zero h2 i (by omega)
    have g2 := firstUp_zero h2 (i + 1) (by omega)
    rw [firstUp_step g1] at g2
    rw [lkL_at x i hi]
    unfold lkF at g2
    by_cases hk : (cAt x.cells i).1 = 0
    · rw [if_neg (by simpa using hk)] at g2
      by_cases hn : (cAt x.cells i).2.1 < 0 ∨ gI y.shape 0 ≤ (cAt x.cells i).2.1
      · rw [if_pos hn] at g2; omega
      · omega
    · rw [if_pos hk] at g2; omega
  have hA := alongA_cells hy hS hin hsz
  obtain ⟨x1, x2, x3, -⟩ := (chkA_iff 8 x).1 hx
  obtain ⟨y1, y2, y3, -⟩ := (chkA_iff 8 y).1 hy
  refine chk_of hy h3 ?_ ?_ hA.2
  · rw [hA.1, sizeV_prod h3, sizeV_prod hsz, prodL_append, lkL_len, ← x2, sizeV_prod x1]
    obtain ⟨d, t, hdt⟩ : ∃ d t, y.shape = d :: t := by
      cases hsh : y.shape with
      | nil => rw [hsh] at hS; simp at hS
      | cons d t => exact ⟨d, t, rfl⟩
    rw [hdt]; rfl
  · rintro ⟨z, hz, hl⟩
    rcases List.mem_append.1 hz with h | h
    · exact x3 ⟨z, h, hl⟩
    · exact y3 ⟨z, List.mem_of_mem_tail h, hl⟩
theorem fill_chk {y : Ar} (h : (fillR y).2.2 = 0) : chkC (inF 8) ((fillR y).1, (fillR y).2.1, []) = 0 := by
  rw [chkC_iff]
  right
  refine ⟨rfl, ?_⟩
  unfold fillR at h ⊢
  by_cases h1 : 0 < y.cells.length
  · simp only [if_pos h1] at h ⊢
    by_cases h2 : (cAt y.cells 0).1 = 1
    · right; simp only [if_pos h2]; exact ⟨trivial, by unfold Good; omega⟩
    · simp only [if_neg h2] at h ⊢
      by_cases h3 : (cAt y.cells 0).1 = 2
      · simp only [if_pos h3] at h; omega
      · left; simp only [if_neg h3]
  · left; simp only [if_neg h1]
theorem tak_chk {x y : Ar} (hy : chkA 8 y = 0) (hS : 0 < y.shape.length) : (¬ (takR x y).2 = 0 → (takR x y).1 = zeroA) ∧ ((takR x y).2 = 0 → chkA 8 (takR x y).1 = 0) := by
  unfold takR
  by_cases h1 : (numR x).2 = 0
  case neg => rw [if_pos h1]; exact ⟨fun _ => rfl, fun h => absurd h h1⟩
  rw [if_neg (by simpa using h1)]
  by_cases h2 : 16384 < (numR x).1 ∨ (numR x).1 < -16384
  · rw [if_pos h2]; exact ⟨fun _ => rfl, fun h => by simp at h⟩
  rw [if_neg h2]
  generalize (numR x).1 = Nn at *
  obtain ⟨sh, hsh⟩ : ∃ sh, y.shape.set 0 (Nn.natAbs : Int) = sh := ⟨_, rfl⟩
  rw [hsh]
  by_cases h3 : sizeE sh = 0
  case neg => rw [if_pos h3]; exact ⟨fun _ => rfl, fun h => absurd h h3⟩
  rw [if_neg (by simpa using h3)]
  obtain ⟨N, hN⟩ : ∃ N, (sizeV sh).toNat = N := ⟨_, rfl⟩
  have hN0 := (sizeV_le h3).1
  rw [hN]
  by_cases h4 : y.cells.length < N ∧ ¬ (fillR y).2.2 = 0
  · rw [if_pos h4]; exact ⟨fun _ => rfl, fun h => absurd h h4.2⟩
  rw [if_neg h4]
  refine ⟨fun h => absurd rfl h, fun _ => ?_⟩
  obtain ⟨y1, y2, y3, y4⟩ := (chkA_iff 8 y).1 hy
  refine (chkA_iff 8 _).2 ⟨h3, ?_, ?_, fun i hi => ?_⟩
  · show sizeV sh = ((mkCs _ _).length : Int)
    rw [mkCs_len]; omega
  · show ¬ hasLong sh
    rintro ⟨z, hz, hl⟩
    rw [← hsh] at hz
    rcases List.mem_or_eq_of_mem_set hz with h | h
    · exact y3 ⟨z, h, hl⟩
    · omega
  · have hi' : i < N := by
      have : (mkCs N (layC y.cells (fillR y).1 (fillR y).2.1 (if Nn < 0 then N - y.cells.length else 0) (if Nn < 0 then y.cells.length - N else 0) (Nat.min y.cells.length N))).length = N := mkCs_len _ _
      rw [← this]; exact hi
    show chkC (inF 8) (cAt (mkCs N _) i) = 0
    rw [mkCs_at _ _ _ hi']
    have hmn : y.cells.length ≤ N ∧ Nat.min y.cells.length N = y.cells.length ∨ N ≤ y.cells.length ∧ Nat.min y.cells.length N = N := by
      rcases Nat.le_total y.cells.length N with h | h
      · exact Or.inl ⟨h, Nat.min_eq_left h⟩
      · exact Or.inr ⟨h, Nat.min_eq_right h⟩
    unfold layC
    by_cases hneg : Nn < 0
    · simp only [if_pos hneg]
      split
      · exact y4 _ (by omega)
      · have hlt : y.cells.length < N := by omega
        have hFE : (fillR y).2.2 = 0 := Decidable.byContradiction fun h => h4 ⟨hlt, h⟩
        exact fill_chk hFE
    · simp only [if_neg hneg]
      split
      · exact y4 _ (by omega)
      · have hlt : y.cells.length < N := by omega
        have hFE : (fillR y).2.2 = 0 := Decidable.byContradiction fun h => h4 ⟨hlt, h⟩
        exact fill_chk hFE
theorem dy_42 {n lo lo' : Nat} {x y : Ar} {va vb : Value} {w : World} (hx : ArIn (n + 1) lo w x va) (hy : ArIn (n + 1) lo' w y vb) (hcx : chkA 8 x = 0) (hcy : chkA 8 y = 0) (kx : Caps va) (ky : Caps vb) : Calls Try.prog 19 #[.int .i64 42, va, vb] w fun e w' => GivesD (n + 1) (takR x (lstA y)).1 (takR x (lstA y)).2 w e w' :=
  dy_of hx hy hcx hcy (fun W hW => pieces_42 hx hy hW hcx hcy kx ky) (tak_chk (lst_facts hcy).1 (lst_facts hcy).2.2).1 (tak_chk (lst_facts hcy).1 (lst_facts hcy).2.2).2
theorem dy_44 {n lo lo' : Nat} {x y : Ar} {va vb : Value} {w : World} (hx : ArIn (n + 1) lo w x va) (hy : ArIn (n + 1) lo' w y vb) (hcx : chkA 8 x = 0) (hcy : chkA 8 y = 0) (kx : Caps va) (ky : Caps vb) : Calls Try.prog 19 #[.int .i64 44, va, vb] w fun e w' => GivesD (n + 1) (rotR x y 0).1 (rotR x y 0).2 w e w' :=
  dy_of hx hy hcx hcy (fun W hW => pieces_44 hx hy hW hcx hcy kx ky) (rot_chk hcy 0 (fun h => h)).1 (rot_chk hcy 0 (fun h => h)).2
theorem dy_45 {n lo lo' : Nat} {x y : Ar} {va vb : Value} {w : World} (hx : ArIn (n + 1) lo w x va) (hy : ArIn (n + 1) lo' w y vb) (hcx : chkA 8 x = 0) (hcy : chkA 8 y = 0) (kx : Caps va) (ky : Caps vb) : Calls Try.prog 19 #[.int .i64 45, va, vb] w fun e w' => GivesD (n + 1) (rotR x y (y.shape.length - 1)).1 (rotR x y (y.shape.length - 1)).2 w e w' :=
  dy_of hx hy hcx hcy (fun W hW => pieces_45 hx hy hW hcx hcy kx ky) (rot_chk hcy _ (fun h => by omega)).1 (rot_chk hcy _ (fun h => by omega)).2
theorem dy_52 {n lo lo' : Nat} {x y : Ar} {va vb : Value} {w : World} (hx : ArIn (n + 1) lo w x va) (hy : ArIn (n + 1) lo' w y vb) (hcx : chkA 8 x = 0) (hcy : chkA 8 y = 0) (kx : Caps va) (ky : Caps vb) : Calls Try.prog 19 #[.int .i64 52, va, vb] w fun e w' => GivesD (n + 1) (lookR x y).1 (lookR x y).2 w e w' :=
  dy_of hx hy hcx hcy (fun W hW => pieces_52 hx hy hW hcx hcy kx ky) (look_chk hcx hcy).1 (look_chk hcx hcy).2
theorem dy_53 {n lo lo' : Nat} {x y : Ar} {va vb : Value} {w : World} (hx : ArIn (n + 1) lo w x va) (hy : ArIn (n + 1) lo' w y vb) (hcx : chkA 8 x = 0) (hcy : chkA 8 y = 0) (kx : Caps va) (ky : Caps vb) : Calls Try.prog 19 #[.int .i64 53, va, vb] w fun e w' => GivesD (n + 1) (lookR y x).1 (lookR y x).2 w e w' :=
  dy_of hx hy hcx hcy (fun W hW => pieces_53 hx hy hW hcx hcy kx ky) (look_chk hcy hcx).1 (look_chk hcy hcx).2
end Go.Proofs.Ytmjncdhahdpplaa
namespace Go.Proofs.Ytmjncdhahdpplaa
open Go.ChangeShapes Go.WideShapes Go.ChangeAt Go.RowKit
set_option linter.unusedVariables false
set_option maxRecDepth 100000
def joiS (x y : Ar) : Ar × Ar := if x.shape.length = 0 ∧ y.shape.length = 0 then (lstA x, lstA y) else (x, y)
def joiK (last : Bool) (x y : Ar) : Nat := if last then max x.shape.length y.shape.length - 1 else 0
def joiC (x y : Ar) (P Q : List Int) (k : Nat) : List Ce :=
  mkCs ((cinL x.shape.length x.cells (sizeV P).toNat).length + (cinL y.shape.length y.cells (sizeV Q).toNat).length)
    (turnF (cAt (cinL x.shape.length x.cells (sizeV P).toNat)) (cAt (cinL y.shape.length y.cells (sizeV Q).toNat)) ((cinL x.shape.length x.cells (sizeV P).toNat).length / (sizeV (P.take k)).toNat) ((cinL y.shape.length y.cells (sizeV Q).toNat).length / (sizeV (P.take k)).toNat))
def joiT (x y : Ar) (k : Nat) (F : List Int × List Int × Int) : Ar × Int :=
  if ¬ F.2.2 = 0 then (zeroA, F.2.2) else if ¬ sizeE (F.1.set k (gI F.1 k + gI F.2.1 k)) = 0 then (zeroA, sizeE (F.1.set k (gI F.1 k + gI F.2.1 k))) else
  if 16384 < gI F.1 k + gI F.2.1 k then (zeroA, 12) else if sizeV (F.1.set k (gI F.1 k + gI F.2.1 k)) = 0 then (.mk (F.1.set k (gI F.1 k + gI F.2.1 k)) [], 0) else
  (.mk (F.1.set k (gI F.1 k + gI F.2.1 k)) (joiC x y F.1 F.2.1 k), 0)
def joiR (last : Bool) (x y : Ar) : Ar × Int := joiT (joiS x y).1 (joiS x y).2 (joiK last (joiS x y).1 (joiS x y).2) (fitR (joiS x y).1.shape (joiS x y).2.shape (joiK last (joiS x y).1 (joiS x y).2))
theorem fit_ok {s o P Q : List Int} {k : Nat} (h : fitR s o k = (P, Q, 0)) : besR s o k = (P, 0) ∧ besR o s k = (Q, 0) ∧ P.length = max s.length o.length ∧ Q.length = P.length ∧ ∀ i, i < P.length → ¬ i = k → gI P i = gI Q i := by
  unfold fitR at h
  by_cases h1 : (besR s o k).2 = 0
  case neg => rw [if_pos h1] at h; simp only [Prod.mk.injEq] at h; exact absurd h.2.2 h1
  rw [if_neg (by simpa using h1)] at h
  by_cases h2 : (besR o s k).2 = 0
  case neg => rw [if_pos h2] at h; simp only [Prod.mk.injEq] at h; exact absurd h.2.2 h2
  rw [if_neg (by simpa using h2)] at h
  by_cases h3 : firstUp (fitF (besR s o k).1 (besR o s k).1 k) (besR s o k).1.length = 0
  case neg => rw [if_pos h3] at h; simp only [Prod.mk.injEq] at h; exact absurd h.2.2 (by decide)
  rw [if_neg (by simpa using h3)] at h
  simp only [Prod.mk.injEq] at h
  obtain ⟨rfl, rfl, -⟩ := h
  have l1 := bes_len h1
  have l2 := bes_len h2
  refine ⟨by rw [← h1], by rw [← h2], l1, by omega, fun i hi hik => ?_⟩
  have g1 := firstUp_zero h3 i (by omega)
  have g2 := firstUp_zero h3 (i + 1) (by omega)
  rw [firstUp_step g1] at g2
  unfold fitF at g2
  by_cases hg : gI (besR s o k).1 i = gI (besR o s k).1 i
  · exact hg
  · rw [if_pos ⟨hik, hg⟩] at g2; omega
theorem bes_prod {s o P : List Int} {k : Nat} (h : besR s o k = (P, 0)) (h0 : 0 < s.length) : prodL P = prodL s := by
  unfold besR at h
  by_cases h1 : o.length ≤ s.length
  · rw [if_pos h1] at h; simp only [Prod.mk.injEq] at h; rw [← h.1]
  rw [if_neg h1, if_neg (by omega)] at h
  by_cases h3 : o.length = s.length + 1
  · rw [if_pos h3] at h; simp only [Prod.mk.injEq] at h
    rw [← h.1, prodL_append]
    have : prodL (1 :: s.drop k) = 1 * prodL (s.drop k) := rfl
    rw [this, Int.one_mul, ← prodL_append, List.take_append_drop]
  · rw [if_neg h3] at h; simp at h
theorem bes_mem {s o P : List Int} {k : Nat} (h : besR s o k = (P, 0)) {z : Int} (hz : z ∈ P) : z ∈ s ∨ z ∈ o ∨ z = 1 := by
  unfold besR at h
  by_cases h1 : o.length ≤ s.length
  · rw [if_pos h1] at h; simp only [Prod.mk.injEq] at h; rw [← h.1] at hz; exact Or.inl hz
  rw [if_neg h1] at h
  by_cases h2 : s.length = 0
  · rw [if_pos h2] at h; simp only [Prod.mk.injEq] at h; rw [← h.1] at hz
    rcases List.mem_or_eq_of_mem_set hz with h | h
    · exact Or.inr (Or.inl h)
    · exact Or.inr (Or.inr h)
  rw [if_neg h2] at h
  by_cases h3 : o.length = s.length + 1
  · rw [if_pos h3] at h; simp only [Prod.mk.injEq] at h; rw [← h.1] at hz
    rcases List.mem_append.1 hz with h | h
    · exact Or.inl (List.mem_of_mem_take h)
    · rcases List.mem_cons.1 h with h | h
      · exact Or.inr (Or.inr h)
      · exact Or.inl (List.mem_of_mem_drop h)
  · rw [if_neg h3] at h; simp at h
theorem take_set (P : List Int) (k : Nat) (v : Int) : (P.set k v).take k = P.take k := by rw [List.take_set, List.set_eq_of_length_le (by rw [List.length_take]; omega)]
/-- What is known where there is a cell at all. -/
theorem joi_facts {x y : Ar} (hx : chkA 8 x = 0) (hy : chkA 8 y = 0) {k : Nat} {P Q : List Int} (hF : fitR x.shape y.shape k = (P, Q, 0)) (hk : k < P.length) (hs : sizeE (P.set k (gI P k + gI Q k)) = 0) (hN : ¬ sizeV (P.set k (gI P k + gI Q k)) = 0) :
    ∃ t one two NP NQ : Nat, 0 < t ∧ t ≤ 16384 ∧ sizeV (P.take k) = (t : Int) ∧ sizeV P = (NP : Int) ∧ NP ≤ 16384 ∧ sizeV Q = (NQ : Int) ∧ NQ ≤ 16384 ∧ (cinL x.shape.length x.cells NP).length = t * one ∧ (cinL y.shape.length y.cells NQ).length = t * two ∧ sizeV (P.set k (gI P k + gI Q k)) = ((t * one + t * two : Nat) : Int) ∧ t * one + t * two ≤ 16384 := by
  obtain ⟨hP, hQ, lP, lQ, hsame⟩ := fit_ok hF
  have nP : ∀ z ∈ P, 0 ≤ z := fun z hz => by
    rcases bes_mem hP hz with h | h | h
    · exact ((chk_axes hx).1 z h).1
    · exact ((chk_axes hy).1 z h).1
    · omega
  have nQ : ∀ z ∈ Q, 0 ≤ z := fun z hz => by
    rcases bes_mem hQ hz with h | h | h
    · exact ((chk_axes hy).1 z h).1
    · exact ((chk_axes hx).1 z h).1
    · omega
  obtain ⟨l8, -, hc⟩ := fine_cases hs
  rw [List.length_set] at l8
  rcases hc with ⟨-, h0⟩ | ⟨hpos, hle, hv⟩
  · exact absurd h0 hN
  have hp0 := nP _ (getD_mem hk)
  have hq0 := nQ _ (getD_mem (l := Q) (k := k) (by omega))
  change 0 ≤ gI P k at hp0
  change 0 ≤ gI Q k at hq0
  have hL0 : 0 < gI P k + gI Q k := hpos _ (mem_set_self' hk _)
  have e1 := prodL_set P k hk (gI P k + gI Q k)
  have e2 := prodL_set P k hk (gI P k)
  rw [set_gI _ _ hk] at e2
  have e3 := prodL_set Q k (by omega) (gI Q k)
  rw [set_gI _ _ (by omega)] at e3
  have tk : Q.take k = P.take k := gI_ext (by rw [List.length_take, List.length_take, lQ]) fun i hi => by
    rw [List.length_take] at hi
    have h1 : gI (Q.take k) i = gI Q i := by unfold gI; rw [List.getElem?_take_of_lt (by omega)]
    have h2 : gI (P.take k) i = gI P i := by unfold gI; rw [List.getElem?_take_of_lt (by omega)]
    rw [h1, h2]; exact (hsame i (by omega) (by omega)).symm
  have dk : Q.drop (k + 1) = P.drop (k + 1) := gI_ext (by rw [List.length_drop, List.length_drop, lQ]) fun i hi => by
    rw [List.length_drop] at hi
    have h1 : gI (Q.drop (k + 1)) i = gI Q (k + 1 + i) := by unfold gI; rw [List.getElem?_drop]
    have h2 : gI (P.drop (k + 1)) i = gI P (k + 1 + i) := by unfold gI; rw [List.getElem?_drop]
    rw [h1, h2]; exact (hsame _ (by omega) (by omega)).symm
  rw [tk, dk] at e3
  have pT : ∀ z ∈ P.take k, 0 < z := fun z hz => hpos z (by rw [← take_set P k (gI P k + gI Q k)] at hz; exact List.mem_of_mem_take hz)
  have pD : ∀ z ∈ P.drop (k + 1), 0 < z := fun z hz => hpos z (by
    have : (P.set k (gI P k + gI Q k)).drop (k + 1) = P.drop (k + 1) := by rw [List.drop_set_of_lt (by omega)]
    rw [← this] at hz; exact List.mem_of_mem_drop hz)
  have pa := prodL_pos pT
  have pd := prodL_pos pD
  obtain ⟨t, ht⟩ : ∃ t : Nat, prodL (P.take k) = (t : Int) := ⟨(prodL (P.take k)).toNat, by omega⟩
  obtain ⟨d, hd⟩ : ∃ d : Nat, prodL (P.drop (k + 1)) = (d : Int) := ⟨(prodL (P.drop (k + 1))).toNat, by omega⟩
  obtain ⟨p, hp⟩ : ∃ p : Nat, gI P k = (p : Int) := ⟨(gI P k).toNat, by omega⟩
  obtain ⟨q, hq⟩ : ∃ q : Nat, gI Q k = (q : Int) := ⟨(gI Q k).toNat, by omega⟩
  rw [hp, hq, ht, hd] at e1
  rw [hp, ht, hd] at e2
  rw [hq, ht, hd] at e3
  have c1 : prodL (P.set k ((p : Int) + (q : Int))) = ((t * (p * d) + t * (q * d) : Nat) : Int) := by
    rw [e1]; push_cast; rw [Int.add_mul, Int.mul_add]
  have c2 : prodL P = ((t * (p * d) : Nat) : Int) := by rw [e2]; push_cast; rfl
  have c3 : prodL Q = ((t * (q * d) : Nat) : Int) := by rw [e3]; push_cast; rfl
  rw [hp, hq] at hle hv
  rw [c1] at hle hv
  have h16 : t * (p * d) + t * (q * d) ≤ 16384 := by omega
  have ht16 : t ≤ 16384 := by
    have a1 : 1 ≤ (p + q) * d := Nat.mul_pos (by omega) (by omega)
    have a2 : t * 1 ≤ t * ((p + q) * d) := Nat.mul_le_mul_left _ a1
    rw [Nat.add_mul, Nat.mul_add] at a2
    omega
  have fT := fine_mk (l := P.take k) (by rw [List.length_take]; omega) (fun z hz => by have := pT z hz; omega) (Or.inr (by rw [ht]; omega))
  have fP := fine_mk (l := P) l8 nP (Or.inr (by rw [c2]; omega))
  have fQ := fine_mk (l := Q) (by omega) nQ (Or.inr (by rw [c3]; omega))
  have gx := (chkA_iff 8 x).1 hx
  have gy := (chkA_iff 8 y).1 hy
  refine ⟨t, p * d, q * d, t * (p * d), t * (q * d), by omega, ht16, by rw [fT.2, ht], by rw [fP.2, c2], by omega, by rw [fQ.2, c3], by omega, ?_, ?_, ?_, h16⟩
  · unfold cinL
    by_cases h0 : 0 < x.shape.length
    · rw [if_pos h0]
      have := bes_prod hP h0
      have e := sizeV_prod gx.1
      rw [gx.2.1, ← this, c2] at e
      omega
    · rw [if_neg h0, List.length_replicate]
  · unfold cinL
    by_cases h0 : 0 < y.shape.length
    · rw [if_pos h0]
      have := bes_prod hQ h0
      have e := sizeV_prod gy.1
      rw [gy.2.1, ← this, c3] at e
      omega
    · rw [if_neg h0, List.length_replicate]
  · rw [hp, hq, hv]
theorem cin_chk {x : Ar} (hx : chkA 8 x = 0) (N i : Nat) (hi : i < (cinL x.shape.length x.cells N).length) : chkC (inF 8) (cAt (cinL x.shape.length x.cells N) i) = 0 := by
  have g := ((chkA_iff 8 x).1 hx).2.2.2
  unfold cinL at hi ⊢
  by_cases h0 : 0 < x.shape.length
  · rw [if_pos h0] at hi ⊢; exact g i hi
  · rw [if_neg h0, List.length_replicate] at hi
    rw [if_neg h0, replicate_at _ hi]
    exact g 0 (by have := (atom_one hx (by omega)).2; omega)
theorem turn_in' {cA cB : Nat → Ce} {t one two i : Nat} {p : Ce → Prop} (ht : 0 < t) (hA : ∀ j, j < t * one → p (cA j)) (hB : ∀ j, j < t * two → p (cB j)) (hi : i < t * one + t * two) : p (turnF cA cB one two i) := by
  unfold turnF
  have hm : 0 < one + two := by
    rcases Nat.eq_zero_or_pos (one + two) with h | h
    · rw [show one = 0 by omega, show two = 0 by omega] at hi; omega
    · exact h
  have hr : i / (one + two) < t := by rw [Nat.div_lt_iff_lt_mul hm, Nat.mul_add]; exact hi
  have hq := Nat.mod_lt i hm
  by_cases h : i % (one + two) < one
  · rw [if_pos h]
    refine hA _ ?_
    have : (i / (one + two) + 1) * one ≤ t * one := Nat.mul_le_mul_right _ hr
    rw [Nat.add_mul, Nat.one_mul] at this
    omega
  · rw [if_neg h]
    refine hB _ ?_
    have : (i / (one + two) + 1) * two ≤ t * two := Nat.mul_le_mul_right _ hr
    rw [Nat.add_mul, Nat.one_mul] at this
    omega
theorem joiT_chk {x y : Ar} (hx : chkA 8 x = 0) (hy : chkA 8 y = 0) {k : Nat} (hk : k < max x.shape.length y.shape.length) : (¬ (joiT x y k (fitR x.shape y.shape k)).2 = 0 → (joiT x y k (fitR x.shape y.shape k)).1 = zeroA) ∧ ((joiT x y k (fitR x.shape y.shape k)).2 = 0 → chkA 8 (joiT x y k (fitR x.shape y.shape k)).1 = 0) := by
  obtain ⟨⟨P, Q, E⟩, hF⟩ : ∃ F, fitR x.shape y.shape k = F := ⟨_, rfl⟩
  rw [hF]
  unfold joiT
  simp only
  by_cases h1 : E = 0
  case neg => rw [if_pos h1]; exact ⟨fun _ => rfl, fun h => absurd h h1⟩
  subst h1
  rw [if_neg (by simp)]
  obtain ⟨hP, hQ, lP, lQ, hsame⟩ := fit_ok hF
  by_cases h2 : sizeE (P.set k (gI P k + gI Q k)) = 0
  case neg => rw [if_pos h2]; exact ⟨fun _ => rfl, fun h => absurd h h2⟩
  rw [if_neg (by simpa using h2)]
  by_cases h3 : 16384 < gI P k + gI Q k
  · rw [if_pos h3]; exact ⟨fun _ => rfl, fun h => absurd h (by decide)⟩
  rw [if_neg h3]
  have hlong : ¬ hasLong (P.set k (gI P k + gI Q k)) := by
    rintro ⟨z, hz, hl⟩
    rcases List.mem_or_eq_of_mem_set hz with h | h
    · rcases bes_mem hP h with h | h | h
      · exact ((chkA_iff 8 x).1 hx).2.2.1 ⟨z, h, hl⟩
      · exact ((chkA_iff 8 y).1 hy).2.2.1 ⟨z, h, hl⟩
      · omega
    · omega
  by_cases h4 : sizeV (P.set k (gI P k + gI Q k)) = 0
  · rw [if_pos h4]
    refine ⟨fun h => absurd rfl h, fun _ => ?_⟩
    rw [chkA_iff]
    exact ⟨h2, h4, hlong, fun i hi => by simp [Ar.cells] at hi⟩
  rw [if_neg h4]
  refine ⟨fun h => absurd rfl h, fun _ => ?_⟩
  obtain ⟨t, one, two, NP, NQ, ht, ht16, sT, sP, -, sQ, -, lA, lB, sS, h16⟩ := joi_facts hx hy hF (by omega) h2 h4
  have hlen : (joiC x y P Q k).length = t * one + t * two := by unfold joiC; rw [mkCs_len, sP, sQ, Int.toNat_natCast, Int.toNat_natCast, lA, lB]
  rw [chkA_iff]
  refine ⟨h2, by show sizeV (P.set k (gI P k + gI Q k)) = ((joiC x y P Q k).length : Int); rw [sS, hlen], hlong, fun i hi => ?_⟩
  change i < (joiC x y P Q k).length at hi
  show chkC (inF 8) (cAt (joiC x y P Q k) i) = 0
  rw [hlen] at hi
  unfold joiC
  rw [sP, sQ, Int.toNat_natCast, Int.toNat_natCast, sT, Int.toNat_natCast, mkCs_at _ _ _ (by rw [lA, lB]; exact hi), lA, lB, Nat.mul_div_cancel_left _ ht, Nat.mul_div_cancel_left _ ht]
  exact turn_in' (p := fun c => chkC (inF 8) c = 0) ht (fun j hj => cin_chk hx NP j (by rw [lA]; exact hj)) (fun j hj => cin_chk hy NQ j (by rw [lB]; exact hj)) hi
end Go.Proofs.Ytmjncdhahdpplaa
