/-
  For all int, bool and lists of int64 the statement FoldEnds holds: the last of what is folded as far as each item is the whole folded; the first is the first item; no condition (the given row speaks of what a machine of 64 bits can hold, and of the table of layer 4 as its text lays it).
-/
import Derived.Test.YtlfacpclihmnnaaDoorM8
import Derived.WalkKit
import Derived.Test.YtlfacpclihmnnaaDoorChecked
import GoSem.Claim
import GoSem.ClaimJoined
import GoSem.ClaimMapViews
import Derived.JoinedTies
import Derived.KernelRfl
import Derived.ProofKit
import Derived.Below
import Derived.Deep.OwnRows
import Derived.Deep.QuietTactic
import Derived.BigQuiet
import Derived.Deep.RegionWith
import Derived.Laws.MakeOwn
import Derived.Deep.RegionHeld3
import Derived.OpenShut
import Derived.Lib.Mul64
import Derived.Laws.Bits64b
import Derived.ChangeOld
import Derived.SizedLaws
import Derived.Deep.Slices
import Derived.Deep.Strs
import Derived.Deep.LoopGhost
import Derived.Laws.IdiomCopy
import Derived.Deep.Cut
import Derived.Deep.RegionLaw
import Derived.Laws.AppendOwnNone
import Derived.BigFrame
import Derived.Laws.OwnMore
import Derived.OwnWalk
import Derived.Lib.SliceRun
import Derived.Deep.CutRange
import Derived.Laws.EntriesVeiled
import GoSem.ClaimSeven
import Derived.LaidByTextLater
import Derived.SevenTiedAt
import Derived.LaidSub
import Derived.LaidOnce
import Derived.Deep.DeepHandedRow
import Derived.Lib.LaidTab
namespace Go.Proofs.YtlfacpclihmnnaaDoor
open Go.ChangeShapes Go.WideShapes Go.ChangeAt Go.RowKit
open Num (resV resE In64 sgnI absI)
set_option linter.unusedVariables false
set_option linter.unusedSimpArgs false
theorem mkCs_self (l : List Ce) (g : Nat → Ce) (h : ∀ i, i < l.length → g i = cAt l i) : mkCs l.length g = l :=
  cs_ext (mkCs_len _ _) fun i hi => by rw [mkCs_len] at hi; rw [mkCs_at _ _ _ hi]; exact h i hi
theorem bytes2 : Tryd.prog.bytesOf 2 = 8 := by kernel_rfl
end Go.Proofs.YtlfacpclihmnnaaDoor
namespace Go.Proofs.YtlfacpclihmnnaaDoor
open Go.ChangeShapes Go.WideShapes Go.ChangeAt Go.RowKit
open Num (resV resE In64 sgnI absI)
set_option linter.unusedVariables false
set_option linter.unusedSimpArgs false
theorem ends_math (op : Int) (t : Bool) (l : List Int) (h1 : 0 < l.length) (h60 : l.length ≤ 60) :
    ((scanR op t true (numsA l)).2 ≠ 0 → (scanR op t true (numsA l)).1 = zeroA) ∧
    ((scanR op t true (numsA l)).2 = 0 → (scanR op t true (numsA l)).1.cells.length = l.length ∧ (cAt (scanR op t true (numsA l)).1.cells 0).2.1 = l[0]?.getD 0 ∧ (redR op t true (numsA l)).2 = 0 ∧ (redR op t true (numsA l)).1.cells.length = 1 ∧ cAt (scanR op t true (numsA l)).1.cells (l.length - 1) = cAt (redR op t true (numsA l)).1.cells 0) := by
  have hcl : (numsA l).cells.length = l.length := numCs_len 0 l
  have hsh : (numsA l).shape = [(l.length : Int)] := rfl
  have hm : mN true (numsA l).shape = 1 := by
    unfold mN
    have e : outS true (numsA l).shape = [] := rfl
    rw [e, size_nil.2]; rfl
  have hlg : lgN true (numsA l).shape = l.length := by
    unfold lgN lgI
    simp [hsh, gI]
  have hnx : nxN true (numsA l).shape = l.length := hlg
  have hst : ∀ m, stN true m = 1 := fun m => rfl
  have hln : lnC (numsA l).cells l.length 1 l.length 0 = (numsA l).cells := by
    unfold lnC
    simp only [Nat.zero_mul, Nat.zero_add, Nat.mul_one]
    rw [← hcl]
    exact mkCs_self _ _ (fun i _ => rfl)
  have hscG : ∀ i, scG op t true (numsA l) 0 i = rowP op t (numsA l).cells i := fun i => by
    unfold scG
    rw [hlg, hnx, hst, hln]
  have hred : redG op t true (numsA l) 0 = rowR op t (numsA l).cells := by
    unfold redG
    rw [hlg, hnx, hst, hln]
  have hlast : rowP op t (numsA l).cells (l.length - 1) = rowR op t (numsA l).cells := by
    unfold rowP
    rw [show l.length - 1 + 1 = (numsA l).cells.length by omega, List.take_length]
  by_cases hf : fchk op (fun _ => chkA 8 (numsA l)) 1 ≠ 0
  · have e : scanR op t true (numsA l) = (zeroA, fchk op (fun _ => chkA 8 (numsA l)) 1) := by unfold scanR; rw [if_pos hf]
    rw [e]
    exact ⟨fun _ => rfl, fun h => absurd h hf⟩
  · have hsc : scanR op t true (numsA l) = if firstUp (scE op t true (numsA l)) 1 ≠ 0 then (zeroA, firstUp (scE op t true (numsA l)) 1)
        else (.mk (numsA l).shape (mkCs l.length fun p => (scG op t true (numsA l) (lnO true l.length 1 p) (psO true l.length 1 p)).1), 0) := by
      unfold scanR
      rw [if_neg hf, if_neg (fun h => by
        rcases h with h | h
        · rw [hsh] at h; simp at h
        · rw [hcl] at h; omega), hm, hlg, hcl]
    have hE : firstUp (scE op t true (numsA l)) 1 = firstUp (fun i => (rowP op t (numsA l).cells i).2) l.length := by
      simp only [firstUp, if_true]
      unfold scE
      rw [hlg]
      congr 1
      funext i
      rw [hscG]
    rw [hE] at hsc
    by_cases h0 : firstUp (fun i => (rowP op t (numsA l).cells i).2) l.length ≠ 0
    · rw [hsc, if_pos h0]
      exact ⟨fun _ => rfl, fun h => absurd h h0⟩
    · have h0' := Classical.not_not.1 h0
      rw [if_neg h0] at hsc
      have hcs : ∀ p, p < l.length → cAt (scanR op t true (numsA l)).1.cells p = (rowP op t (numsA l).cells p).1 := fun p hp => by
        rw [hsc]
        show cAt (mkCs _ _) p = _
        rw [mkCs_at _ _ _ hp]
        have e1 : lnO true l.length 1 p = 0 := by simp [lnO, Nat.div_eq_of_lt hp]
        have e2 : psO true l.length 1 p = p := by simp [psO, Nat.mod_eq_of_lt hp]
        rw [e1, e2, hscG]
      have hlE : (rowP op t (numsA l).cells (l.length - 1)).2 = 0 := by
        obtain ⟨k, hk⟩ : ∃ k, l.length = k + 1 := ⟨l.length - 1, by omega⟩
        rw [hk] at h0' ⊢
        by_cases h : firstUp (fun i => (rowP op t (numsA l).cells i).2) k = 0
        · rw [firstUp_step h] at h0'
          exact h0'
        · rw [firstUp_stays h (k + 1) (by omega)] at h0'
          exact absurd h0' h
      rw [hlast] at hlE
      have hR : redR op t true (numsA l) = (.mk [] (mkCs 1 fun i => (redG op t true (numsA l) i).1), 0) := by
        unfold redR
        have e : outS true (numsA l).shape = [] := rfl
        rw [if_neg hf, if_neg (by rw [hsh]; simp), e, size_nil.1, if_neg (by simp), size_nil.2]
        unfold filR
        have e2 : firstUp (fun i => (redG op t true (numsA l) i).2) (1 : Int).toNat = 0 := by
          show firstUp _ 1 = 0
          simp only [firstUp, if_true]
          rw [hred]
          exact hlE
        rw [if_pos e2]
        rfl
      refine ⟨fun h => absurd (by rw [hsc]) h, fun _ => ⟨?_, ?_, ?_, ?_, ?_⟩⟩
      · rw [hsc]; exact mkCs_len _ _
      · rw [hcs 0 h1, rowP_zero op t _ (by omega)]
        show (cAt (numCs 0 l) 0).2.1 = _
        rw [numCs_at 0 l 0 h1]
      · rw [hR]
      · rw [hR]; rfl
      · rw [hcs _ (by omega), hlast, hR]
        show _ = cAt (mkCs 1 _) 0
        rw [mkCs_at _ _ _ (by omega), hred]
theorem ints64_rowB {H : Type} {enc : TypeId × Value → H} {W : World} {ts : List TypeId} {ds : List (DataW H)} {j : Nat} {d : DataW H} {a : Option Addr} {len cap : Nat} {p : List MemPlace}
    (hsz : (DataW.weightsEach Tryd.prog ts ds).all (· ≤ reachBytes) = true) (ht : ts[j]? = some 39) (hd : ds[j]? = some d)
    (h : DataW.Trod enc Tryd.prog W 0 (fun _ => true) true 39 (.slice a len cap) d p) : ∃ zs : List Int, zs.length = len ∧ Row 0 W a zs ∧ len * 8 ≤ 140737488351232 ∧ ∀ z ∈ zs, In64 z := by
  obtain ⟨fuel, hf⟩ := h
  rcases open_ints Tryd.underlying39 Tryd.underlying2 (by kernel_rfl) hf with ⟨hcs, hx⟩ | ⟨x, l, c, zs, hcs, _, hl, hm, hz, hx, hcell, hwz⟩
  · simp [Value.cells] at hcs
    obtain ⟨rfl, rfl, rfl⟩ := hcs
    exact ⟨[], rfl, row_nil _ _ _, by omega, fun z hz => by simp at hz⟩
  · simp [Value.cells] at hcs
    obtain ⟨rfl, rfl, rfl⟩ := hcs
    have hd' := (Prod.mk.inj hx).1
    have hz' : zs.length = cap := by simpa using hz
    rw [hd'] at hd
    have hs := sized_slice hsz (j := j) (t := 39) (e := 2) ht hd Tryd.underlying39
    rw [bytes2] at hs
    simp only [lits, List.length_map, List.length_take, List.length_drop, reachBytes] at hs
    refine ⟨zs.take len, by rw [List.length_take]; omega, ?_, by omega, fun z hz => bounds_i64 (hwz z (List.mem_of_mem_take hz))⟩
    refine ⟨by rw [List.length_take]; omega, ?_⟩
    by_cases h0 : len = 0
    · left; subst h0; rfl
    · right
      obtain ⟨b, off, spot⟩ := x
      have hc0 := hcell 0 (by omega)
      have hspot : spot = none := by simpa [Addr.add] using World.cell?_spot hc0
      subst hspot
      refine ⟨b, off, rfl, Nat.zero_le _, ?_, ?_⟩
      · refine Decidable.byContradiction fun hb => ?_
        have : W.heap[b]? = none := by simp; omega
        simp [Addr.add, World.cell?, this] at hc0
      · intro i hi
        have hi' : i < len := by rw [List.length_take] at hi; omega
        have := hcell i (by omega)
        rw [add_off] at this
        rw [this]
        simp [hi']
end Go.Proofs.YtlfacpclihmnnaaDoor
namespace Go.Proofs.YtlfacpclihmnnaaDoor.foldEnds
open Go.ChangeShapes Go.WideShapes Go.ChangeAt Go.RowKit
open Num (resV resE In64 sgnI absI)
set_option linter.unusedVariables false
set_option linter.unusedSimpArgs false
set_option maxRecDepth 100000 in
set_option maxHeartbeats 16000000 in
theorem walk (op : Int) (t : Bool) (al : Option Addr) (L cl : Nat) (l : List Int) (w : World) (T : Tab w) (ho : I64 op) (hl : l.length = L ∧ Row 0 w al l ∧ L * 8 ≤ 140737488351232 ∧ ∀ z ∈ l, In64 z) :
    Calls Tryd.prog 6 #[.int .i64 op, .bool t, .slice al L cl] w fun e w' => e = .returned (.bool true) ∧ Below w.heap.size w w' := by
  obtain ⟨hL, R, h8, hin⟩ := hl
  have HT := hide (fun W (h : Below w.heap.size w W) => T.next h)
  by_cases h60 : 60 < L
  · have hz : (60 : Int) < (L : Int) := by omega
    have CW := works11 w T
    clear T R hin HT hL
    go_enter Tryd.func6, Tryd.ntmps6
    go_wp2_with fail
    refine CW.mono ?_
    rintro e w9 ⟨rfl, hb9⟩
    go_wp2
    go_ret
    exact ⟨rfl, hb9⟩
  by_cases h0 : L = 0
  · have CW := works11 w T
    subst h0
    clear T R hin HT hL
    go_enter Tryd.func6, Tryd.ntmps6
    go_wp2_with fail
    refine CW.mono ?_
    rintro e w9 ⟨rfl, hb9⟩
    go_wp2
    go_ret
    exact ⟨rfl, hb9⟩
  have hz1 : ¬ ((60 : Int) < (L : Int)) := by omega
  have hz2 : ((L : Int) == 0) = false := beq_eq_false_iff_ne.2 (by omega)
  obtain ⟨hbad, hgood⟩ := ends_math op t l (by omega) (by omega)
  have HM := hide (And.intro hbad hgood)
  have HINN := hide (in_nums hin)
  obtain ⟨bl, ol, rfl, hbl, hl0⟩ := row_at R (j := 0) (by omega)
  have HL0 := hide hl0
  have CN := rnums_at 0 l L hL (some ⟨bl, ol, none⟩) cl w R (by omega)
  clear T R hin hbad hgood hl0
  go_enter Tryd.func6, Tryd.ntmps6
  go_wp2_with fail
  refine CN.mono ?_
  rintro e w1 ⟨⟨a1, c1, a2, c2, rfl, ha⟩, hb1⟩
  clear CN
  have n1 := two_allocs w1 (.cells #[.slice a1 1 c1, .slice a2 L c2] 25) (.cells #[.int .i64 op, .bool t] 32)
  have q0 := cell_new1 w1 #[.slice a1 1 c1, .slice a2 L c2] 25 (0, 0) (.cells #[.int .i64 op, .bool t] 32) 0 _ rfl
  have q1 := cell_new1 w1 #[.slice a1 1 c1, .slice a2 L c2] 25 (0, 0) (.cells #[.int .i64 op, .bool t] 32) 1 _ rfl
  have r0 := cell_new2 w1 #[.int .i64 op, .bool t] 32 (0, 0) (.cells #[.slice a1 1 c1, .slice a2 L c2] 25) 0 _ rfl
  have r1 := cell_new2 w1 #[.int .i64 op, .bool t] 32 (0, 0) (.cells #[.slice a1 1 c1, .slice a2 L c2] 25) 1 _ rfl
  have s2 := size_two w1 (.cells #[.slice a1 1 c1, .slice a2 L c2] 25) (.cells #[.int .i64 op, .bool t] 32)
  obtain ⟨W2, e2⟩ : ∃ W2, (w1.alloc (.cells #[.slice a1 1 c1, .slice a2 L c2] 25)).alloc (.cells #[.int .i64 op, .bool t] 32) = W2 := ⟨_, rfl⟩
  rw [e2] at n1 q0 q1 r0 r1 s2
  have HA : Hid (∀ W, Below W2.heap.size W2 W → ArIn 1 0 W (numsA l) (.agg #[.slice a1 1 c1, .slice a2 L c2])) := fun W h => ha.mono (Nat.zero_le _) (n1.trans (h.mono n1.size))
  have HQ : Hid (∀ W, Below W2.heap.size W2 W → (W.cell? ⟨w1.heap.size, 0, none⟩ = some (.slice a1 1 c1) ∧ W.cell? ⟨w1.heap.size, 1, none⟩ = some (.slice a2 L c2)) ∧ W.cell? ⟨w1.heap.size + 1, 0, none⟩ = some (.int .i64 op) ∧ W.cell? ⟨w1.heap.size + 1, 1, none⟩ = some (.bool t)) := fun W h => ⟨⟨(h.cell (p := ⟨w1.heap.size, 0, none⟩) (by show w1.heap.size < _; omega)).trans q0, (h.cell (p := ⟨w1.heap.size, 1, none⟩) (by show w1.heap.size < _; omega)).trans q1⟩, (h.cell (p := ⟨w1.heap.size + 1, 0, none⟩) (by show w1.heap.size + 1 < _; omega)).trans r0, (h.cell (p := ⟨w1.heap.size + 1, 1, none⟩) (by show w1.heap.size + 1 < _; omega)).trans r1⟩
  have B2 := hb1.trans (n1.mono hb1.size)
  have HB2 : Hid (∀ W, Below W2.heap.size W2 W → Below w.heap.size w W) := fun W h => B2.trans (h.mono B2.size)
  have CS := scan15 (op := op) (t := t) (last := true) (HA.out W2 (Below.refl _ _)) HINN.out (HT.out _ B2)
  have HE2 := hide e2
  clear ha hb1 B2 n1 e2 q0 q1 r0 r1
  obtain ⟨⟨q0, q1⟩, r0, r1⟩ := HQ.out W2 (Below.refl _ _)
  obtain ⟨SE, hSE⟩ : ∃ SE, (scanR op t true (numsA l)).2 = SE := ⟨_, rfl⟩
  rw [hSE] at HM
  obtain ⟨XA, hXA⟩ : ∃ XA, scanR op t true (numsA l) = (XA, SE) := ⟨(scanR op t true (numsA l)).1, by rw [← hSE]⟩
  rw [hXA] at CS HM
  simp only at HM
  go_upto_region 5 with fail
  rw [HE2.out]
  clear HE2
  go_wp2_with fail
  refine CS.mono ?_
  rintro e w3 ⟨⟨v, rfl, hv⟩, hb3⟩
  clear CS q0 q1 r0 r1
  obtain ⟨g1, g2, g3, g4, rfl⟩ := hv.form
  have n3 := one_alloc w3 (.cells #[.slice g1 XA.shape.length g2, .slice g3 XA.cells.length g4] 25)
  have x1 := cell_new0 w3 #[.slice g1 XA.shape.length g2, .slice g3 XA.cells.length g4] 25 1 _ rfl
  obtain ⟨W4, e4⟩ : ∃ W4, w3.alloc (.cells #[.slice g1 XA.shape.length g2, .slice g3 XA.cells.length g4] 25) = W4 := ⟨_, rfl⟩
  rw [e4] at n3 x1
  have hl4 : w3.heap.size < W4.heap.size := by rw [← e4]; simp
  have HX4 : Hid (∀ W, Below W4.heap.size W4 W → ArIn 1 0 W XA (.agg #[.slice g1 XA.shape.length g2, .slice g3 XA.cells.length g4]) ∧ W.cell? ⟨w3.heap.size, 1, none⟩ = some (.slice g3 XA.cells.length g4)) := fun W h => ⟨hv.mono (Nat.zero_le _) (n3.trans (h.mono n3.size)), (h.cell (p := ⟨w3.heap.size, 1, none⟩) hl4).trans x1⟩
  have HB4 := hide (hb3.trans (n3.mono hb3.size))
  have CR := red12 (op := op) (t := t) (last := true) (HA.out W4 HB4.out) HINN.out (HT.out _ (HB2.out _ HB4.out))
  obtain ⟨RE, hRE⟩ : ∃ RE, (redR op t true (numsA l)).2 = RE := ⟨_, rfl⟩
  obtain ⟨YA, hYA⟩ : ∃ YA, redR op t true (numsA l) = (YA, RE) := ⟨(redR op t true (numsA l)).1, by rw [← hRE]⟩
  rw [hYA] at CR HM
  simp only at HM
  have HE4 := hide e4
  clear hv hb3 n3 e4 x1 hSE hXA hRE hYA
  obtain ⟨⟨q0, q1⟩, r0, r1⟩ := HQ.out W4 HB4.out
  go_upto_region 6 with fail
  rw [HE4.out]
  clear HE4
  go_wp2_with fail
  refine CR.mono ?_
  rintro e w5 ⟨⟨v, rfl, hv⟩, hb5⟩
  clear CR q0 q1 r0 r1
  obtain ⟨h1, h2, h3, h4, rfl⟩ := hv.form
  have n5 := one_alloc w5 (.cells #[.slice h1 YA.shape.length h2, .slice h3 YA.cells.length h4] 25)
  have y1 : (w5.alloc (.cells #[.slice h1 YA.shape.length h2, .slice h3 YA.cells.length h4] 25)).cell? ⟨w5.heap.size, 1, none⟩ = some (.slice h3 YA.cells.length h4) := cell_new0 w5 #[.slice h1 YA.shape.length h2, .slice h3 YA.cells.length h4] 25 1 _ rfl
  obtain ⟨w8, e8⟩ : ∃ w8, w5.alloc (.cells #[.slice h1 YA.shape.length h2, .slice h3 YA.cells.length h4] 25) = w8 := ⟨_, rfl⟩
  rw [e8] at n5 y1
  have hl8 : w5.heap.size < w8.heap.size := by rw [← e8]; simp
  have hY8 := hv.mono (Nat.zero_le _) n5
  have H48 := hb5.trans (n5.mono hb5.size)
  obtain ⟨hX8, x1⟩ := HX4.out w8 H48
  have B8 := HB4.out.trans (H48.mono HB4.out.size)
  have HBW := hide (HB2.out w8 B8)
  have hl35 : w3.heap.size < w8.heap.size := Nat.lt_of_lt_of_le hl4 H48.size
  have HE8 := hide e8
  obtain ⟨xb, hxb⟩ : ∃ xb, w3.heap.size = xb := ⟨_, rfl⟩
  obtain ⟨yb, hyb⟩ : ∃ yb, w5.heap.size = yb := ⟨_, rfl⟩
  rw [hxb] at x1 hl35
  rw [hyb] at y1 hl8
  have HXY := hide (And.intro hxb hyb)
  have HTW : Hid (∀ W, Below w8.heap.size w8 W → Tab W) := fun W h => HT.out W (HBW.out.trans (h.mono HBW.out.size))
  clear hv hb5 n5 e8 H48 B8 hxb hyb HX4 HA HQ HB2 HB4 HT hl4
  by_cases hE0 : ¬ SE = 0
  · have gE : (SE == 0) = false := beq_eq_false_iff_ne.2 hE0
    have hXz := HM.out.1 hE0
    subst hXz
    have hz0 : zeroA.cells.length = 0 := rfl
    rw [hz0] at x1
    have CW := works11 w8 (HTW.out _ (Below.refl _ _))
    clear HM hX8 hY8 HL0 HINN
    go_upto_region 7 with fail
    rw [HE8.out, HXY.out.1]
    clear HE8 HXY
    go_wp2_with fail
    refine CW.mono ?_
    rintro e w9 ⟨rfl, hb9⟩
    go_wp2
    go_ret
    exact ⟨rfl, HBW.out.trans (hb9.mono HBW.out.size)⟩
  have hE1 : SE = 0 := Classical.not_not.1 hE0
  clear hE0
  subst hE1
  obtain ⟨m1, m2, m3, m4, m5⟩ := HM.out.2 rfl
  subst m3
  rw [m1, hL] at x1
  rw [m4] at y1
  rw [hL] at m5
  obtain ⟨b1, k1, b2, k2, he, -, hcX⟩ := hX8.formC
  simp only [Value.agg.injEq, Array.mk.injEq, List.cons.injEq, Value.slice.injEq, and_true] at he
  obtain ⟨⟨-, -, -⟩, rfl, -, rfl⟩ := he
  obtain ⟨b3, k3, b4, k4, he, -, hcY⟩ := hY8.formC
  simp only [Value.agg.injEq, Array.mk.injEq, List.cons.injEq, Value.slice.injEq, and_true] at he
  obtain ⟨⟨-, -, -⟩, rfl, -, rfl⟩ := he
  obtain ⟨M, hM⟩ : ∃ M, L - 1 = M := ⟨_, rfl⟩
  have hx0 : 0 < XA.cells.length := by rw [m1, hL]; omega
  have hy0 : 0 < YA.cells.length := by rw [m4]; decide
  have hxM : M < XA.cells.length := by rw [m1, hL]; omega
  obtain ⟨abx, cbx, hfx⟩ := cells_fn hcX
  obtain ⟨aby, cby, hfy⟩ := cells_fn hcY
  obtain ⟨bx, ox, rfl, -, lx, hx⟩ := hfx hx0
  obtain ⟨by', oy, rfl, -, ly, hy⟩ := hfy hy0
  obtain ⟨-, p1, -, -⟩ := hx 0 hx0
  obtain ⟨p2, p3, p4, pce⟩ := hx M hxM
  obtain ⟨p5, p6, p7, yce⟩ := hy 0 hy0
  clear hfx hfy hx hy hcX hcY
  rw [m2] at p1
  have l0 := (HBW.out.cell (p := ⟨bl, ol + 0, none⟩) hbl).trans HL0.out
  rw [hM] at m5
  rw [Nat.add_zero] at l0
  rw [Nat.zero_mul, Nat.add_zero] at p1 p5 p6 p7
  have CC0 := fun W (h : Below w8.heap.size w8 W) => rcell_any 0 (rcmp_any 0) (cAt XA.cells M) (cAt YA.cells 0) 0 0 W _ _ _ _ _ _ (pce.mono (Nat.le_refl _) h fun y v hy => hy.next h) (yce.mono (Nat.le_refl _) h fun y v hy => hy.next h)
  have hcc : cmpC (cmpA 0) (cAt XA.cells M) (cAt YA.cells 0) = 0 := by rw [m5]; exact cmpC_self (cmpA_self 0) _
  rw [hcc] at CC0
  generalize l[0]?.getD 0 = z0 at *
  generalize (cAt XA.cells M).1 = u0 at *
  generalize (cAt XA.cells M).2.1 = u1 at *
  generalize (cAt XA.cells M).2.2.length = um at *
  generalize (cAt YA.cells 0).1 = v0 at *
  generalize (cAt YA.cells 0).2.1 = v1 at *
  generalize (cAt YA.cells 0).2.2.length = vm at *
  generalize abx M = ua at *
  generalize cbx M = uc at *
  generalize aby 0 = va at *
  generalize cby 0 = vc at *
  generalize g4 = xc at *
  generalize h4 = yc at *
  have CC : Hid (∀ W, Below w8.heap.size w8 W → Calls Tryd.prog 20 #[.agg #[.int .i64 u0, .int .i64 u1, .slice ua um uc], .agg #[.int .i64 v0, .int .i64 v1, .slice va vm vc]] W fun e w' => e = .returned (.int .i64 0) ∧ Below w8.heap.size w8 w') := fun W hW => by
    refine (CC0 W hW).mono ?_
    rintro e w' ⟨rfl, hb'⟩
    exact ⟨rfl, hW.trans (hb'.mono hW.size)⟩
  have CW : Hid (∀ W, Below w8.heap.size w8 W → Calls Tryd.prog 11 #[] W fun e w' => e = .returned (.bool true) ∧ Below w8.heap.size w8 w') := fun W hW => by
    refine (works11 W (HTW.out W hW)).mono ?_
    rintro e w' ⟨rfl, hb'⟩
    exact ⟨rfl, hW.trans (hb'.mono hW.size)⟩
  have hlw : bl < w8.heap.size := Nat.lt_of_lt_of_le hbl HBW.out.size
  have KS : Hid (∀ W, Below w8.heap.size w8 W → (Below w8.heap.size w8 W ∧ W.cell? ⟨xb, 1, none⟩ = some (.slice (some ⟨bx, ox, none⟩) L xc) ∧ W.cell? ⟨bx, ox + 1, none⟩ = some (.int .i64 z0) ∧ W.cell? ⟨yb, 1, none⟩ = some (.slice (some ⟨by', oy, none⟩) 1 yc) ∧ W.cell? ⟨bl, ol, none⟩ = some (.int .i64 z0) ∧ W.cell? ⟨bx, ox + M * 3, none⟩ = some (.int .i64 u0) ∧ W.cell? ⟨bx, ox + M * 3 + 1, none⟩ = some (.int .i64 u1) ∧ W.cell? ⟨bx, ox + M * 3 + 2, none⟩ = some (.slice ua um uc) ∧ W.cell? ⟨by', oy, none⟩ = some (.int .i64 v0) ∧ W.cell? ⟨by', oy + 1, none⟩ = some (.int .i64 v1) ∧ W.cell? ⟨by', oy + 2, none⟩ = some (.slice va vm vc))) := fun W h =>
    ⟨h, (h.cell (p := ⟨xb, 1, none⟩) hl35).trans x1, (h.cell (p := ⟨bx, ox + 1, none⟩) lx).trans p1, (h.cell (p := ⟨yb, 1, none⟩) hl8).trans y1, (h.cell (p := ⟨bl, ol, none⟩) hlw).trans l0, (h.cell (p := ⟨bx, ox + M * 3, none⟩) lx).trans p2, (h.cell (p := ⟨bx, ox + M * 3 + 1, none⟩) lx).trans p3, (h.cell (p := ⟨bx, ox + M * 3 + 2, none⟩) lx).trans p4, (h.cell (p := ⟨by', oy, none⟩) ly).trans p5, (h.cell (p := ⟨by', oy + 1, none⟩) ly).trans p6, (h.cell (p := ⟨by', oy + 2, none⟩) ly).trans p7⟩
  have HD0 : Hid (Below w8.heap.size w8 w8.drew) := (Below.refl _ _).drew
  have hMz : (M : Int) < (L : Int) := by omega
  have hM0 : (0 : Int) ≤ (M : Int) := by omega
  have hLz : (0 : Int) < (L : Int) := by omega
  have hLn : 0 < L := by omega
  have hwM : IntKind.i64.wrap ((L : Int) - 1) = (M : Int) := by rw [IntWalk.i64_in _ ⟨by omega, by omega⟩]; omega
  clear hx0 hy0 hxM HM hX8 hY8 HL0 HINN p1 p2 p3 p4 p5 p6 p7 pce yce l0 x1 y1 CC0 hcc m1 m2 m4 m5 HTW hM hL
  go_upto_region 9 with fail
  rw [HE8.out, HXY.out.1, HXY.out.2]
  clear HE8 HXY
  go_region_held3 (fun W => Below w8.heap.size w8 W ∧ W.cell? ⟨xb, 1, none⟩ = some (.slice (some ⟨bx, ox, none⟩) L xc) ∧ W.cell? ⟨bx, ox + 1, none⟩ = some (.int .i64 z0) ∧ W.cell? ⟨yb, 1, none⟩ = some (.slice (some ⟨by', oy, none⟩) 1 yc) ∧ W.cell? ⟨bl, ol, none⟩ = some (.int .i64 z0) ∧ W.cell? ⟨bx, ox + M * 3, none⟩ = some (.int .i64 u0) ∧ W.cell? ⟨bx, ox + M * 3 + 1, none⟩ = some (.int .i64 u1) ∧ W.cell? ⟨bx, ox + M * 3 + 2, none⟩ = some (.slice ua um uc) ∧ W.cell? ⟨by', oy, none⟩ = some (.int .i64 v0) ∧ W.cell? ⟨by', oy + 1, none⟩ = some (.int .i64 v1) ∧ W.cell? ⟨by', oy + 2, none⟩ = some (.slice va vm vc))
    (first | with_reducible exact KS.out _ HD0.out | with_reducible exact KS.out _ (by with_reducible assumption))
    (first | (go_at_call 20; (with_reducible refine (CC.out _ HD0.out).mono ?_); rintro e wA ⟨rfl, gA⟩) | (go_at_call 11; (with_reducible refine (CW.out _ (by with_reducible assumption)).mono ?_); rintro e wB ⟨rfl, gB⟩))
  all_goals
    have HF := hide (HBW.out.trans (gB.mono HBW.out.size))
    clear gA gB KS HD0 CC CW
    go_wp2
    go_ret
    exact ⟨rfl, HF.out⟩
theorem laid_met (os : Os) : laidMet Tryd.prog Rows.foldEndsRow.laid ((laidWorld os).forCall (fun _ _ => 0) ⟨#[], #[.int .i64 0, .bool false, .slice none 0 0], []⟩).memory :=
  laidMet_of_run' 8 (by kernel_rfl) (by kernel_rfl)
theorem reads (os : Os) {H : Type} (enc : TypeId × Value → H) : ∃ places, DataW.whole enc Tryd.prog ((laidWorld os).forCall (fun _ _ => 0) ⟨#[], #[.int .i64 0, .bool false, .slice none 0 0], []⟩).memory Tryd.f6.params.toList Rows.foldEndsSpec.vars false #[Value.int .i64 0, Value.bool false, Value.slice none 0 0].toList 8 = some ([.lit (.int .i64 0), .lit (.bool false), .nil], [], places) :=
  ⟨[], by kernel_rfl⟩
set_option maxRecDepth 100000 in
theorem lifted (os : Os) (started : os.Started) (H : Type) (enc : TypeId × Value → H) (F : Stop.Interp) :
    ReturnsInHanded {} Tryd.checked os 6 .any ((OpenSpec.ofChange Rows.foldEndsSpec).preRow enc Tryd.prog Tryd.f6 Rows.foldEndsRow.domain false Rows.foldEndsRow.laid) (((OpenSpec.ofChange Rows.foldEndsSpec).at F).post enc Tryd.prog Tryd.f6 false true false false) := by
  obtain ⟨places, hx⟩ := reads os enc
  refine returnsInHanded_of_row (C := Tryd.checked) (s := OpenSpec.ofChange Rows.foldEndsSpec) own started (by kernel_rfl) Tryd.func6
    (witness_row_at (enc := enc) (C := Tryd.checked) false (laidWorld os) #[.int .i64 0, .bool false, .slice none 0 0] rfl (by kernel_rfl) (by kernel_rfl) (by kernel_rfl)
      (OpenSpec.preRow_of_cond 8 hx (by kernel_rfl) (fun k hk => by cases hk) (by kernel_rfl) (laid_met os))) ?_
  intro W base args ds gs before hval0 hW _ hcond hsz0 hL _ _
  have hsz : (DataW.weightsEach Tryd.prog (Tryd.f6.params.toList ++ Rows.foldEndsSpec.plain.varTypes Tryd.prog) (ds ++ gs)).all (· ≤ reachBytes) = true := hsz0
  clear hsz0
  have hval : ∀ (j : Nat) t v, Tryd.f6.params[j]? = some t → args[j]? = some v → Value.okWide Tryd.prog W .any base t v := hval0
  have hW' := hW
  obtain ⟨p, q, hA0, hV, rfl, hfz, hnd⟩ := hW
  have hA : DataW.TrodAll enc Tryd.prog W 0 (fun _ => true) true Tryd.f6.params.toList args.toList ds p := hA0
  rw [Tryd.params6] at hA hval hsz
  obtain ⟨v0, vs0, d0, ds0, p0, q0, hargs, rfl, rfl, h0, r0⟩ := trodAll_cons hA
  obtain ⟨v1, vs1, d1, ds1, p1, q1, rfl, rfl, rfl, h1, r1⟩ := trodAll_cons r0
  obtain ⟨v2, vs2, d2, ds2, p2, q2, rfl, rfl, rfl, h2, r2⟩ := trodAll_cons r1
  obtain ⟨rfl, rfl, rfl⟩ := trodAll_nil r2
  obtain rfl : args = #[v0, v1, v2] := by cases args; simp_all
  obtain ⟨rfl, rfl⟩ := trodVars_none hV
  obtain ⟨x0, rfl, rfl, rfl, w0⟩ := open_int Tryd.underlying3 (hval 0 3 v0 rfl rfl) h0
  obtain ⟨x1, rfl, rfl, rfl⟩ := open_bool Tryd.underlying4 (hval 1 4 v1 rfl rfl) h1
  obtain ⟨a2, len2, cap2, rfl⟩ := okWide_slice Tryd.underlying39 (hval 2 39 v2 rfl rfl)
  have k2 := h2
  have lt2 : ∀ x ∈ p2, x.block < W.heap.size := by obtain ⟨m, hm⟩ := k2; exact DataW.trod_lt m _ _ _ hm
  obtain ⟨z2, w2⟩ := ints64_rowB hsz (j := 2) rfl rfl h2
  clear hA0 hval0
  refine (walk x0 x1 a2 len2 cap2 z2 W (tab_of hL) (bounds_i64 w0) w2).mono fun e W' ⟨he, bel⟩ => ?_
  subst he
  exact ⟨_, rfl, _, _, _, [], _, [], hW', trodAll_mk1 (shut_bool Tryd.underlying4 _), (trodAll_cons_mk (shut_int Tryd.underlying3 w0) (trodAll_cons_mk (shut_bool Tryd.underlying4 _) (trodAll_cons_mk (Below.trod laidOut (by kernel_rfl) (of_decide_eq_true (by kernel_rfl)) k2 bel lt2) trodAll_mk0))), rfl, bel.frame _, fun h => by cases h⟩
theorem said : Rows.FoldEndsSaid :=
  OpenClaim.holds_of_cond 6 Tryd.f6 rfl rfl rfl rfl rfl rfl rfl ⟨rfl, rfl, rfl, rfl, rfl⟩ rfl rfl rfl rfl rfl (by kernel_rfl) Tryd.func6 (by kernel_rfl)
    (of_decide_eq_true (by kernel_rfl)) (by unfold Func.isWrapper; first | (rw [if_pos (by decide +kernel)]; kernel_rfl) | (rw [if_neg (by decide +kernel)]; exact ⟨rfl, rfl⟩))
    (fun os started H enc _ F => by rw [OpenClaim.pre_eq_preRow]; exact lifted os started H enc F)
theorem plain (f : FuncId) (fn : Func) (hf : Tryd.pinned.checked.prog.funcNamed "triglyph/triglyphlaw08.FoldEnds" = some f) (hfn : Tryd.pinned.checked.prog.funcs[f]? = some fn) :
    false = Tryd.pinned.checked.prog.looks [] ∧ ∀ (j : Nat) t, fn.params[j]? = some t → Tryd.pinned.checked.prog.wantsStandIn t = false := by
  obtain rfl : f = 6 := Option.some.inj ((show Tryd.prog.funcNamed "triglyph/triglyphlaw08.FoldEnds" = some 6 by kernel_rfl).symm.trans hf) |>.symm
  obtain rfl : fn = Tryd.f6 := (Option.some.inj (Tryd.func6.symm.trans hfn)).symm
  refine ⟨by kernel_rfl, fun j t ht => ?_⟩
  rw [Tryd.params6] at ht
  have hm : t = 3 ∨ t = 4 ∨ t = 39 := by simpa using Array.mem_of_getElem? ht
  rcases hm with rfl | rfl | rfl
  · exact (show Tryd.prog.wantsStandIn 3 = false by kernel_rfl)
  · exact (show Tryd.prog.wantsStandIn 4 = false by kernel_rfl)
  · exact (show Tryd.prog.wantsStandIn 39 = false by kernel_rfl)
theorem proved : Rows.FoldEndsCardSaid :=
  Claim7.holds_tied_plain_at .later [] _ _ _ _ said (fun _ h => by cases h) (by kernel_rfl) (fun _ h => by cases h) foldEnds_row_tie rfl ⟨rfl, rfl⟩ (by kernel_rfl) rfl plain (by kernel_rfl)
end Go.Proofs.YtlfacpclihmnnaaDoor.foldEnds
namespace Go.Proofs.YtlfacpclihmnnaaDoor
theorem foldEnds_holds : Rows.FoldEndsCardSaid := foldEnds.proved
#print axioms foldEnds_holds
end Go.Proofs.YtlfacpclihmnnaaDoor
