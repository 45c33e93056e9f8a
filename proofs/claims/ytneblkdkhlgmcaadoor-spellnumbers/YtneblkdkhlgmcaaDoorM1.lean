/-
  Literals: whether an array can be written as it is, by both; for all arrays.
  Signs between two quotes: what stands ahead of a sign, the signs' bytes; the contracts of isText, guard and signs; for all cells whose signs are good.
  The signs between two quotes as a string: the contract of signs; for all cells whose signs are good.
  An array as a text: the contracts of literal and Literal; for all arrays that can be written.
  A program as a text, as plain mathematics, by depth; which programs have their parts in place. No program is named. One word more, one piece more: put and glue.
  The writer's small functions: number, inBrackets, ahead, ofOne; what the writer of a part promises.
  The writer of functions: outer, lambda, train, and function of a depth more.
-/
import Derived.Test.YtneblkdkhlgmcaaDoorM0
import Derived.Shelf.Strconv.Itoa4
import Derived.Test.YtneblkdkhlgmcaaDoorProg
import Derived.WalkKit
import Derived.Test.YtneblkdkhlgmcaaDoorChecked
import GoSem.Claim
import GoSem.ClaimJoined
import GoSem.ClaimMapViews
import Derived.JoinedTies
import Derived.KernelRfl
import Derived.ProofKit
import Derived.Below
import Derived.Deep.OwnRows
import Derived.Deep.QuietTactic
import Derived.BigQuiet
import Derived.Deep.RegionWith
import Derived.Lib.AppendIntMem
import Derived.Lib.ConvBytes
import Derived.Lib.Builder
import Derived.Lib.AppendStr
import Derived.Lib.UnsafeStr
import Derived.Deep.LoopGhost
import Derived.Deep.RegionHeld3
import Derived.Lib.MakeNoZero
import Derived.Laws.MakeOwn
import Derived.Laws.BitsAllLaws
import Derived.Lib.Bits
import Derived.Deep.Cut
import Derived.Deep.MidRow
import Derived.Deep.RegionLaw
import GoSem.ClaimSeven
import Derived.LaidByTextLater
import Derived.SevenTiedAt
import Derived.LaidSub
import Derived.LaidOnce
import Derived.Deep.DeepHandedRow
import Derived.Lib.LaidTab
import Derived.OpenShut
import Derived.Lay
import Derived.ChangeOld
import Derived.SizedLaws
namespace Go.Proofs.YtneblkdkhlgmcaaDoor
open Go.ChangeShapes Go.WideShapes Go.ChangeAt Go.RowKit
set_option maxRecDepth 100000
set_option linter.unusedVariables false
set_option linter.unusedSimpArgs false
def atomL (x : Ar) : Bool := decide (x.shape.length = 0) || (decide (x.shape.length = 1) && !decide (x.shape[0]?.getD 0 = 1))
def numC (c : Ce) : Bool := decide (c.1 = 0)
def plC (c : Ce) : Bool := decide (c.1 = 1) && (decide (32 ≤ c.2.1) && !decide (c.2.1 = 127))
def allC (p : Ce → Bool) (cs : List Ce) : Bool := !anyUp (fun i => !p (cAt cs i)) cs.length
/-- Can an array be written as it is? -/
def litB (x : Ar) : Bool := atomL x && (allC numC x.cells || allC plC x.cells) && decide (chkA 8 x = 0)
theorem allC_iff {p : Ce → Bool} {cs : List Ce} : allC p cs = true ↔ ∀ i, i < cs.length → p (cAt cs i) = true := by
  unfold allC
  rw [Bool.not_eq_true', anyUp_none]
  constructor
  · intro h i hi; have := h i hi; simpa using this
  · intro h i hi; simp [h i hi]
set_option maxHeartbeats 1000000 in
theorem isNum39 (c : Ce) (v2 : Value) (a : Option Addr) (l cc : Nat) (hv : v2 = .slice a l cc) (w : World) : Calls Tryd.prog 53 #[.agg #[.int .i64 c.1, .int .i64 c.2.1, v2]] w fun e w' => e = .returned (.bool (numC c)) ∧ Below w.heap.size w w' := by
  subst hv
  unfold numC
  have hb := fun z1 z2 => one_alloc w (.cells #[.int .i64 z1, .int .i64 z2, .slice a l cc] 72)
  generalize c.1 = K
  generalize c.2.1 = Z
  go_enter Tryd.func53, Tryd.ntmps53
  go_wp2
  go_ret
  exact ⟨retB (by rw [Bool.eq_iff_iff]; simp), hb _ _⟩
set_option maxHeartbeats 1000000 in
theorem isPl40 (c : Ce) (v2 : Value) (a : Option Addr) (l cc : Nat) (hv : v2 = .slice a l cc) (w : World) : Calls Tryd.prog 54 #[.agg #[.int .i64 c.1, .int .i64 c.2.1, v2]] w fun e w' => e = .returned (.bool (plC c)) ∧ Below w.heap.size w w' := by
  subst hv
  unfold plC
  have hb := fun z1 z2 => one_alloc w (.cells #[.int .i64 z1, .int .i64 z2, .slice a l cc] 72)
  generalize c.1 = K
  generalize c.2.1 = Z
  by_cases k1 : K = 1
  · subst k1
    by_cases k2 : 32 ≤ Z
    · have k2' : decide (32 ≤ Z) = true := by simp [k2]
      by_cases k3 : Z = 127
      · subst k3
        go_enter Tryd.func54, Tryd.ntmps54
        go_wp2
        go_ret
        exact ⟨retB (by simp), hb _ _⟩
      · have k3' : (Z == 127) = false := beq_eq_false_iff_ne.2 k3
        go_enter Tryd.func54, Tryd.ntmps54
        go_wp2
        go_ret
        exact ⟨retB (by simp [k3, k2]), hb _ _⟩
    · have k2' : decide (32 ≤ Z) = false := by simp [k2]
      go_enter Tryd.func54, Tryd.ntmps54
      go_wp2
      go_ret
      exact ⟨retB (by simp [k2]), hb _ _⟩
  · have k1' : (K == 1) = false := beq_eq_false_iff_ne.2 k1
    go_enter Tryd.func54, Tryd.ntmps54
    go_wp2
    go_ret
    exact ⟨retB (by simp [k1]), hb _ _⟩

set_option maxHeartbeats 2000000 in
theorem all39 {n lo : Nat} (cs : List Ce) (a2 : Option Addr) (c2 : Nat) (w : World) (hl : cs.length ≤ 5864062014805) (hc : CellsIn n lo w cs a2) :
    Calls Tryd.prog 52 #[.slice a2 cs.length c2, .func (.func 53) #[] #[]] w fun e w' => e = .returned (.bool (allC numC cs)) ∧ Below w.heap.size w w' := by
  have HB : Hid (∀ i, i < cs.length → ∃ b off z0 z1 ab nb cb, a2 = some ⟨b, off, none⟩ ∧ ∀ wr, Below w.heap.size w wr → wr.cell? ⟨b, off + i * 3, none⟩ = some (.int .i64 z0) ∧ wr.cell? ⟨b, off + i * 3 + 1, none⟩ = some (.int .i64 z1) ∧ wr.cell? ⟨b, off + i * 3 + 2, none⟩ = some (.slice ab nb cb) ∧ ∀ w, Calls Tryd.prog 53 #[.agg #[.int .i64 z0, .int .i64 z1, .slice ab nb cb]] w fun e w' => e = .returned (.bool (numC (cAt cs i))) ∧ Below w.heap.size w w') := by
    intro i hi
    obtain ⟨b, off, z0, z1, ab, nb, cb, ha, hw⟩ := cells_at hc i hi
    refine ⟨b, off, z0, z1, ab, nb, cb, ha, fun wr hwr => ?_⟩
    obtain ⟨g0, g1, g2, g3⟩ := hw wr hwr
    obtain ⟨e0, e1, -⟩ := g3
    injection e0 with _ e0
    injection e1 with _ e1
    exact ⟨g0, g1, g2, fun w => by rw [e0, e1]; exact isNum39 (cAt cs i) _ ab nb cb rfl w⟩
  clear hc
  have HHIT : Hid (∀ j, j < cs.length → numC (cAt cs j) = false → allC numC cs = false) := fun j hj h => by
    unfold allC
    rw [anyUp_hit hj (by simp [h])]
    rfl
  have HNO : Hid ((∀ j, j < cs.length → numC (cAt cs j) = true) → allC numC cs = true) := fun h => allC_iff.2 h
  generalize hF : (fun i => numC (cAt cs i)) = F at *
  have HF : Hid (∀ j, numC (cAt cs j) = F j) := fun j => by rw [← hF]
  clear hF
  generalize allC numC cs = Z at *
  generalize cs.length = L at *
  go_enter Tryd.func52, Tryd.ntmps52
  go_wp2
  go_loopg [9] L (fun g i wr => ∃ (j : Nat), g + j = L ∧ i = .int .i64 (j : Int) ∧ (∀ i, i < j → F i = true) ∧ Below w.heap.size w wr)
  case atStart => exact ⟨0, rfl, rfl, (by intro i hi; omega), Below.refl _ _⟩
  case round =>
    obtain ⟨j, hj, rfl, hno, hnx⟩ := hrel
    have HN := hide hno
    clear hno
    by_cases hlt : j < L
    · obtain ⟨b, off, z0, z1, ab, nb, cb, rfl, hw⟩ := HB.out j hlt
      obtain ⟨g0, g1, g2, C⟩ := hw wr hnx
      have hb2 : Below w.heap.size w (wr.alloc (.cells #[.int .i64 z0, .int .i64 z1, .slice ab nb cb] 72)) := hnx.alloc hnx.size _
      have HB2 := hide hb2
      rw [HF.out j] at C
      have HC := hide C
      have HH := hide (HHIT.out j hlt)
      rw [HF.out j] at HH
      clear C hw HB HHIT HNO HF hb2
      cases hFJ : F j with
      | true =>
        rw [hFJ] at HC
        have HFJ := hide hFJ
        clear hFJ HH
        go_wp2_with fail
        refine (HC.out _).mono ?_
        rintro e w1 ⟨rfl, hb1⟩
        clear HC
        go_wp2
        go_roundg (L - (j + 1))
        case rel =>
          refine ⟨j + 1, by omega, by go_num, fun i hi => ?_, HB2.out.trans (hb1.mono HB2.out.size)⟩
          rcases Nat.lt_succ_iff_lt_or_eq.1 hi with hi | rfl
          · exact HN.out i hi
          · exact HFJ.out
        case measure => omega
      | false =>
        rw [hFJ] at HC
        have HZ := hide (HH.out hFJ)
        clear hFJ HH HN
        go_wp2_with fail
        refine (HC.out _).mono ?_
        rintro e w1 ⟨rfl, hb1⟩
        clear HC
        go_wp2
        go_ret
        exact ⟨retB HZ.out.symm, HB2.out.trans (hb1.mono HB2.out.size)⟩
    · have hje : j = L := by omega
      subst hje
      have HZ := hide (HNO.out fun i hi => by rw [HF.out i]; exact HN.out i hi)
      clear HB HHIT HNO HN HF
      go_wp2
      go_ret
      exact ⟨retB HZ.out.symm, hnx⟩

set_option maxHeartbeats 2000000 in
theorem all40 {n lo : Nat} (cs : List Ce) (a2 : Option Addr) (c2 : Nat) (w : World) (hl : cs.length ≤ 5864062014805) (hc : CellsIn n lo w cs a2) :
    Calls Tryd.prog 52 #[.slice a2 cs.length c2, .func (.func 54) #[] #[]] w fun e w' => e = .returned (.bool (allC plC cs)) ∧ Below w.heap.size w w' := by
  have HB : Hid (∀ i, i < cs.length → ∃ b off z0 z1 ab nb cb, a2 = some ⟨b, off, none⟩ ∧ ∀ wr, Below w.heap.size w wr → wr.cell? ⟨b, off + i * 3, none⟩ = some (.int .i64 z0) ∧ wr.cell? ⟨b, off + i * 3 + 1, none⟩ = some (.int .i64 z1) ∧ wr.cell? ⟨b, off + i * 3 + 2, none⟩ = some (.slice ab nb cb) ∧ ∀ w, Calls Tryd.prog 54 #[.agg #[.int .i64 z0, .int .i64 z1, .slice ab nb cb]] w fun e w' => e = .returned (.bool (plC (cAt cs i))) ∧ Below w.heap.size w w') := by
    intro i hi
    obtain ⟨b, off, z0, z1, ab, nb, cb, ha, hw⟩ := cells_at hc i hi
    refine ⟨b, off, z0, z1, ab, nb, cb, ha, fun wr hwr => ?_⟩
    obtain ⟨g0, g1, g2, g3⟩ := hw wr hwr
    obtain ⟨e0, e1, -⟩ := g3
    injection e0 with _ e0
    injection e1 with _ e1
    exact ⟨g0, g1, g2, fun w => by rw [e0, e1]; exact isPl40 (cAt cs i) _ ab nb cb rfl w⟩
  clear hc
  have HHIT : Hid (∀ j, j < cs.length → plC (cAt cs j) = false → allC plC cs = false) := fun j hj h => by
    unfold allC
    rw [anyUp_hit hj (by simp [h])]
    rfl
  have HNO : Hid ((∀ j, j < cs.length → plC (cAt cs j) = true) → allC plC cs = true) := fun h => allC_iff.2 h
  generalize hF : (fun i => plC (cAt cs i)) = F at *
  have HF : Hid (∀ j, plC (cAt cs j) = F j) := fun j => by rw [← hF]
  clear hF
  generalize allC plC cs = Z at *
  generalize cs.length = L at *
  go_enter Tryd.func52, Tryd.ntmps52
  go_wp2
  go_loopg [9] L (fun g i wr => ∃ (j : Nat), g + j = L ∧ i = .int .i64 (j : Int) ∧ (∀ i, i < j → F i = true) ∧ Below w.heap.size w wr)
  case atStart => exact ⟨0, rfl, rfl, (by intro i hi; omega), Below.refl _ _⟩
  case round =>
    obtain ⟨j, hj, rfl, hno, hnx⟩ := hrel
    have HN := hide hno
    clear hno
    by_cases hlt : j < L
    · obtain ⟨b, off, z0, z1, ab, nb, cb, rfl, hw⟩ := HB.out j hlt
      obtain ⟨g0, g1, g2, C⟩ := hw wr hnx
      have hb2 : Below w.heap.size w (wr.alloc (.cells #[.int .i64 z0, .int .i64 z1, .slice ab nb cb] 72)) := hnx.alloc hnx.size _
      have HB2 := hide hb2
      rw [HF.out j] at C
      have HC := hide C
      have HH := hide (HHIT.out j hlt)
      rw [HF.out j] at HH
      clear C hw HB HHIT HNO HF hb2
      cases hFJ : F j with
      | true =>
        rw [hFJ] at HC
        have HFJ := hide hFJ
        clear hFJ HH
        go_wp2_with fail
        refine (HC.out _).mono ?_
        rintro e w1 ⟨rfl, hb1⟩
        clear HC
        go_wp2
        go_roundg (L - (j + 1))
        case rel =>
          refine ⟨j + 1, by omega, by go_num, fun i hi => ?_, HB2.out.trans (hb1.mono HB2.out.size)⟩
          rcases Nat.lt_succ_iff_lt_or_eq.1 hi with hi | rfl
          · exact HN.out i hi
          · exact HFJ.out
        case measure => omega
      | false =>
        rw [hFJ] at HC
        have HZ := hide (HH.out hFJ)
        clear hFJ HH HN
        go_wp2_with fail
        refine (HC.out _).mono ?_
        rintro e w1 ⟨rfl, hb1⟩
        clear HC
        go_wp2
        go_ret
        exact ⟨retB HZ.out.symm, HB2.out.trans (hb1.mono HB2.out.size)⟩
    · have hje : j = L := by omega
      subst hje
      have HZ := hide (HNO.out fun i hi => by rw [HF.out i]; exact HN.out i hi)
      clear HB HHIT HNO HN HF
      go_wp2
      go_ret
      exact ⟨retB HZ.out.symm, hnx⟩

theorem atomL_0 {x : Ar} (h : x.shape.length = 0) : atomL x = true := by simp [atomL, h]
theorem atomL_1 {x : Ar} (h : x.shape.length = 1) : atomL x = !decide (x.shape[0]?.getD 0 = 1) := by simp [atomL, h]
theorem atomL_2 {x : Ar} (h : ¬ x.shape.length = 0) (h' : ¬ x.shape.length = 1) : atomL x = false := by simp [atomL, h, h']
set_option maxHeartbeats 1000000 in
theorem atom37 {lo : Nat} (x : Ar) (a1 : Option Addr) (c1 : Nat) (a2 : Option Addr) (L2 c2 : Nat) (w : World) (R : Row lo w a1 x.shape) :
    Calls Tryd.prog 51 #[.agg #[.slice a1 x.shape.length c1, .slice a2 L2 c2]] w fun e w' => e = .returned (.bool (atomL x)) ∧ Below w.heap.size w w' := by
  have hb := fun l => one_alloc w (.cells #[.slice a1 l c1, .slice a2 L2 c2] 31)
  by_cases h0 : x.shape.length = 0
  · rw [atomL_0 h0, h0]
    go_enter Tryd.func51, Tryd.ntmps51
    go_wp2
    go_ret
    exact ⟨rfl, hb _⟩
  by_cases h1 : x.shape.length = 1
  · rw [atomL_1 h1]
    obtain ⟨b, off, rfl, hbb, hc⟩ := row_at R (j := 0) (by omega)
    rw [h1]
    have hc2 := cell_one hc hbb (.cells #[.slice (some ⟨b, off, none⟩) 1 c1, .slice a2 L2 c2] 31)
    simp only [Nat.add_zero] at hc hc2
    generalize x.shape[0]?.getD 0 = Z at *
    clear R h0 h1
    go_enter Tryd.func51, Tryd.ntmps51
    go_wp2
    go_ret
    exact ⟨retB (by rw [Bool.eq_iff_iff]; simp), hb _⟩
  · rw [atomL_2 h0 h1]
    have h0' : ((x.shape.length : Int) == 0) = false := beq_eq_false_iff_ne.2 (by omega)
    have h1' : ((x.shape.length : Int) == 1) = false := beq_eq_false_iff_ne.2 (by omega)
    generalize x.shape.length = SA at *
    go_enter Tryd.func51, Tryd.ntmps51
    go_wp2
    go_ret
    exact ⟨rfl, hb _⟩
theorem litB_a {x : Ar} (h : atomL x = false) : litB x = false := by simp [litB, h]
theorem litB_b {x : Ar} (h1 : allC numC x.cells = false) (h2 : allC plC x.cells = false) : litB x = false := by simp [litB, h1, h2]
theorem litB_c {x : Ar} (h : atomL x = true) (h1 : allC numC x.cells = true ∨ allC plC x.cells = true) : litB x = decide (chkA 8 x = 0) := by
  rcases h1 with h1 | h1 <;> simp [litB, h, h1]
set_option maxHeartbeats 2000000 in
theorem lit17 {n lo : Nat} (x : Ar) (va : Value) (w : World) (hx : ArIn n lo w x va) : Calls Tryd.prog 33 #[va] w fun e w' => e = .returned (.bool (litB x)) ∧ Below w.heap.size w w' := by
  have CK : ∀ wr, Below w.heap.size w wr → Calls Tryd.prog 55 #[va] wr fun e w' => e = .returned (.int .i64 (chkA 8 x)) ∧ Below wr.heap.size wr w' := fun wr hw => check_any n x lo va wr (hx.next hw)
  cases n with
  | zero => exact hx.elim
  | succ n =>
  obtain ⟨a1, c1, a2, c2, rfl, R, hl, hc⟩ := hx
  have hb0 := one_alloc w (.cells #[.slice a1 x.shape.length c1, .slice a2 x.cells.length c2] 31)
  have q0 := cell_new0 w #[.slice a1 x.shape.length c1, .slice a2 x.cells.length c2] 31 0 _ rfl
  have q1 := cell_new0 w #[.slice a1 x.shape.length c1, .slice a2 x.cells.length c2] 31 1 _ rfl
  have CA := hide (fun wr (hw : Below w.heap.size w wr) => atom37 x a1 c1 a2 x.cells.length c2 wr (R.next hw))
  have CN := hide (fun wr (hw : Below w.heap.size w wr) => all39 (n := n) (lo := lo) x.cells a2 c2 wr hl ((show CellsIn n lo w x.cells a2 from hc).mono (Nat.le_refl _) hw))
  have CP := hide (fun wr (hw : Below w.heap.size w wr) => all40 (n := n) (lo := lo) x.cells a2 c2 wr hl ((show CellsIn n lo w x.cells a2 from hc).mono (Nat.le_refl _) hw))
  have HCK := hide CK
  have HQ := hide (And.intro hb0 (And.intro q0 (And.intro q1 (show w.heap.size < (w.alloc (.cells #[.slice a1 x.shape.length c1, .slice a2 x.cells.length c2] 31)).heap.size by simp))))
  clear R hc CK
  have HLA : Hid (atomL x = false → litB x = false) := litB_a
  have HLB : Hid (allC numC x.cells = false → allC plC x.cells = false → litB x = false) := litB_b
  have HLC : Hid (atomL x = true → (allC numC x.cells = true ∨ allC plC x.cells = true) → litB x = decide (chkA 8 x = 0)) := litB_c
  generalize chkA 8 x = CH at *
  generalize litB x = Z at *
  generalize x.shape.length = SA at *
  generalize hLN : x.cells.length = LN at *
  generalize allC numC x.cells = AN at *
  generalize allC plC x.cells = AP at *
  generalize atomL x = AT at *
  clear hLN
  cases AT
  · have HZ := hide (HLA.out rfl)
    go_enter Tryd.func33, Tryd.ntmps33
    go_wp2_with fail
    refine (CA.out _ hb0).mono ?_
    rintro e w1 ⟨rfl, hb1⟩
    go_wp2
    go_ret
    exact ⟨retB HZ.out.symm, hb0.trans (hb1.mono hb0.size)⟩
  · go_enter Tryd.func33, Tryd.ntmps33
    go_wp2_with fail
    refine (CA.out _ hb0).mono ?_
    rintro e w1 ⟨rfl, hb1⟩
    have hw1 := hb0.trans (hb1.mono hb0.size)
    have q10 := (hb1.cell (p := ⟨w.heap.size, 0, none⟩) HQ.out.2.2.2).trans q0
    have q11 := (hb1.cell (p := ⟨w.heap.size, 1, none⟩) HQ.out.2.2.2).trans q1
    have hs1 := Nat.lt_of_lt_of_le HQ.out.2.2.2 hb1.size
    have HS1 := hide hs1
    clear q0 q1 CA hb1 hb0 hs1
    cases AN
    · cases AP
      · have HZ := hide (HLB.out (by first | trivial | rfl) (by first | trivial | rfl))
        go_wp2_with fail
        refine (CN.out _ hw1).mono ?_
        rintro e w2 ⟨rfl, hb2⟩
        have hw2 := hw1.trans (hb2.mono hw1.size)
        have q20 := (hb2.cell (p := ⟨w.heap.size, 0, none⟩) HS1.out).trans q10
        have q21 := (hb2.cell (p := ⟨w.heap.size, 1, none⟩) HS1.out).trans q11
        clear hb2
        go_wp2_with fail
        refine (CP.out _ hw2).mono ?_
        rintro e w3 ⟨rfl, hb3⟩
        go_wp2
        go_ret
        exact ⟨retB HZ.out.symm, hw2.trans (hb3.mono hw2.size)⟩
      · have HZ := hide (HLC.out (by first | trivial | rfl) (by first | exact Or.inr rfl | trivial | simp))
        go_wp2_with fail
        refine (CN.out _ hw1).mono ?_
        rintro e w2 ⟨rfl, hb2⟩
        have hw2 := hw1.trans (hb2.mono hw1.size)
        have q20 := (hb2.cell (p := ⟨w.heap.size, 0, none⟩) HS1.out).trans q10
        have q21 := (hb2.cell (p := ⟨w.heap.size, 1, none⟩) HS1.out).trans q11
        have HS2 := hide (Nat.lt_of_lt_of_le HS1.out hb2.size)
        clear hb2 q10 q11
        go_wp2_with fail
        refine (CP.out _ hw2).mono ?_
        rintro e w3 ⟨rfl, hb3⟩
        have hw3 := hw2.trans (hb3.mono hw2.size)
        have q30 := (hb3.cell (p := ⟨w.heap.size, 0, none⟩) HS2.out).trans q20
        have q31 := (hb3.cell (p := ⟨w.heap.size, 1, none⟩) HS2.out).trans q21
        clear hb3 q20 q21
        go_wp2_with fail
        refine (HCK.out _ hw3).mono ?_
        rintro e w4 ⟨rfl, hb4⟩
        go_wp2
        go_ret
        exact ⟨retB (by rw [HZ.out, Bool.eq_iff_iff]; simp), hw3.trans (hb4.mono hw3.size)⟩
    · have HZ := hide (HLC.out (by first | trivial | rfl) (by first | exact Or.inl rfl | trivial | simp))
      go_wp2_with fail
      refine (CN.out _ hw1).mono ?_
      rintro e w2 ⟨rfl, hb2⟩
      have hw2 := hw1.trans (hb2.mono hw1.size)
      have q20 := (hb2.cell (p := ⟨w.heap.size, 0, none⟩) HS1.out).trans q10
      have q21 := (hb2.cell (p := ⟨w.heap.size, 1, none⟩) HS1.out).trans q11
      clear hb2 q10 q11
      go_wp2_with fail
      refine (HCK.out _ hw2).mono ?_
      rintro e w4 ⟨rfl, hb4⟩
      go_wp2
      go_ret
      exact ⟨retB (by rw [HZ.out, Bool.eq_iff_iff]; simp), hw2.trans (hb4.mono hw2.size)⟩

end Go.Proofs.YtneblkdkhlgmcaaDoor
namespace Go.Proofs.YtneblkdkhlgmcaaDoor
open Go.ChangeShapes Go.WideShapes Go.ChangeAt Go.RowKit
open Rn (Good Byte enc put)
set_option maxRecDepth 100000
set_option linter.unusedVariables false
set_option linter.unusedSimpArgs false
/-- What stands ahead of a sign between two quotes; 0: nothing. -/
def gd (q : ByteArray) (z : Int) : Int := if q.toList = [39] then (if z = 39 then 39 else 0) else if z = 34 ∨ z = 92 then 92 else 0
def g1 (q : ByteArray) (z : Int) : List Int := if gd q z = 0 then [z] else [gd q z, z]
/-- The signs between two quotes. -/
def gl (q : ByteArray) (cs : List Ce) : List Int := cs.flatMap fun c => g1 q c.2.1
/-- Numbers as bytes. -/
def u8 (l : List Int) : List UInt8 := l.map fun z => UInt8.ofNat z.toNat
theorem g1_len (q : ByteArray) (z : Int) : 1 ≤ (g1 q z).length ∧ (g1 q z).length ≤ 2 := by
  unfold g1
  split <;> simp
theorem gl_snoc (q : ByteArray) {cs : List Ce} {j : Nat} (h : j < cs.length) : gl q (cs.take (j + 1)) = gl q (cs.take j) ++ g1 q (cAt cs j).2.1 := by
  rw [List.take_succ_eq_append_getElem h]
  simp only [gl, cAt, List.getElem?_eq_getElem h, List.flatMap_append, List.flatMap_cons, List.flatMap_nil, List.append_nil, Option.getD_some]
theorem gl_len (q : ByteArray) (cs : List Ce) : (gl q cs).length ≤ 2 * cs.length := by
  induction cs with
  | nil => simp [gl]
  | cons c r ih =>
    have := (g1_len q c.2.1).2
    simp only [gl, List.flatMap_cons, List.length_append, List.length_cons] at ih ⊢
    omega
theorem gd_good (q : ByteArray) (z : Int) (h : gd q z ≠ 0) : Good (gd q z) := by
  unfold gd at *
  unfold Good
  repeat' split
  all_goals first | omega | (simp_all)
theorem gl_good (q : ByteArray) {cs : List Ce} (h : ∀ i, i < cs.length → Good (cAt cs i).2.1) : ∀ z ∈ gl q cs, Good z := by
  intro z hz
  obtain ⟨c, hc, hz⟩ := List.mem_flatMap.1 hz
  obtain ⟨i, hi, rfl⟩ := List.mem_iff_getElem.1 hc
  have hg := h i hi
  have e : cAt cs i = cs[i] := by simp [cAt, List.getElem?_eq_getElem hi]
  rw [e] at hg
  unfold g1 at hz
  split at hz
  · simp at hz; rw [hz]; exact hg
  · rename_i h0
    simp at hz
    rcases hz with rfl | rfl
    · exact gd_good _ _ h0
    · exact hg
theorem guard73 (z : Int) (q : ByteArray) (w : World) : Calls Tryd.prog 73 #[.int .i64 z, .string q] w fun e w' => e = .returned (.int .i64 (gd q z)) ∧ w' = w := by
  unfold gd
  by_cases hq : q.toList = [39]
  · rw [if_pos hq]
    have hq2 : (q.toList == [39]) = true := by rw [hq]; rfl
    by_cases hz : z = 39
    · subst hz
      rw [if_pos rfl]
      go_enter Tryd.func73, Tryd.ntmps73
      go_wp2
      go_ret
      exact ⟨rfl, rfl⟩
    · rw [if_neg hz]
      have h1 : (z == 39) = false := beq_eq_false_iff_ne.2 hz
      go_enter Tryd.func73, Tryd.ntmps73
      go_wp2
      go_ret
      exact ⟨rfl, rfl⟩
  · rw [if_neg hq]
    have h2 : (q.toList == [39]) = false := beq_eq_false_iff_ne.2 hq
    by_cases h34 : z = 34
    · subst h34
      rw [if_pos (Or.inl rfl)]
      go_enter Tryd.func73, Tryd.ntmps73
      go_wp2
      go_ret
      exact ⟨rfl, rfl⟩
    · by_cases h92 : z = 92
      · subst h92
        rw [if_pos (Or.inr rfl)]
        go_enter Tryd.func73, Tryd.ntmps73
        go_wp2
        go_ret
        exact ⟨rfl, rfl⟩
      · rw [if_neg (by omega)]
        have h3 : (z == 34) = false := beq_eq_false_iff_ne.2 h34
        have h4 : (z == 92) = false := beq_eq_false_iff_ne.2 h92
        go_enter Tryd.func73, Tryd.ntmps73
        go_wp2
        go_ret
        exact ⟨rfl, rfl⟩
/-- Whether an array is written as a text. -/
def txB (x : Ar) : Bool := decide (x.cells.length = 0) || decide ((cAt x.cells 0).1 = 1)
theorem isText56 {n lo : Nat} {x : Ar} {va : Value} {w : World} (hx : ArIn n lo w x va) : Calls Tryd.prog 56 #[va] w fun e w' => e = .returned (.bool (txB x)) ∧ Below w.heap.size w w' := by
  cases n with
  | zero => exact hx.elim
  | succ n =>
  obtain ⟨a1, c1, a2, c2, rfl, R, hl, hc⟩ := hx
  unfold txB
  by_cases h0 : x.cells.length = 0
  · rw [h0]
    go_enter Tryd.func56, Tryd.ntmps56
    go_wp2
    go_ret
    exact ⟨rfl, one_alloc _ _⟩
  · obtain ⟨b, off, z0, z1, ab, nb, cb, rfl, hw⟩ := cells_at hc 0 (by omega)
    obtain ⟨d0, -, -, e3⟩ := hw (w.alloc (.cells #[.slice a1 x.shape.length c1, .slice (some ⟨b, off, none⟩) x.cells.length c2] 31)) (one_alloc _ _)
    obtain ⟨e0, -, -⟩ := e3
    injection e0 with _ e0
    rw [e0] at d0
    rw [Nat.zero_mul, Nat.add_zero] at d0
    obtain ⟨L, hL⟩ : ∃ L, x.cells.length = L := ⟨_, rfl⟩
    obtain ⟨K, hK⟩ : ∃ K, (cAt x.cells 0).1 = K := ⟨_, rfl⟩
    rw [hL] at h0 hl d0 ⊢
    rw [hK] at d0 ⊢
    have h1 : ((L : Int) == 0) = false := beq_eq_false_iff_ne.2 (by omega)
    have h2 : (0 : Int) < (L : Int) := by omega
    have h3 : decide (L = 0) = false := decide_eq_false h0
    clear hw hc R e0 hK hL
    rw [h3, Bool.false_or]
    go_enter Tryd.func56, Tryd.ntmps56
    go_wp2
    go_ret
    refine ⟨?_, one_alloc _ _⟩
    by_cases hK : K = 1
    · subst hK; rfl
    · rw [decide_eq_false hK]
      rw [show (K == 1) = false from beq_eq_false_iff_ne.2 hK]
      rfl
end Go.Proofs.YtneblkdkhlgmcaaDoor
namespace Go.Proofs.YtneblkdkhlgmcaaDoor
open Go.ChangeShapes Go.WideShapes Go.ChangeAt Go.RowKit
open Rn (Good Byte enc put)
set_option maxRecDepth 100000
set_option linter.unusedVariables false
set_option linter.unusedSimpArgs false
theorem info2 : (Tryd.prog.info? 2).map (fun i => (i.zero, i.size, i.bytes)) = some (some (.int .i64 0), 1, 8) := by kernel_rfl
theorem u8_at (l : List Int) (h : ∀ z ∈ l, Byte z) {j : Nat} (hj : j < (u8 l).length) : (((u8 l)[j]).toNat : Int) = l[j]?.getD 0 := by
  have hj' : j < l.length := by simpa [u8] using hj
  have hb := h l[j] (List.getElem_mem hj')
  unfold Byte at hb
  simp only [u8, List.getElem_map, List.getElem?_eq_getElem hj', Option.getD_some]
  rw [UInt8.toNat_ofNat_of_lt' (by show (l[j]).toNat < 256; omega)]
  omega
theorem conv_none (w : World) (c : Nat) : (convert 44 9 (.slice none 0 c)).run Tryd.prog w = .ok (.string ⟨#[]⟩) w := by
  rw [run_convert_bytes_string w 44 9 5 none 0 c Tryd.underlying44 Tryd.underlying5 Tryd.underlying9]
  rfl
theorem conv_row {w : World} {a : Option Addr} {l : List Int} (R : Rn.Row .u8 w a l) (h : ∀ z ∈ l, Byte z) (c : Nat) : (convert 44 9 (.slice a l.length c)).run Tryd.prog w = .ok (.string ⟨(u8 l).toArray⟩) w := by
  have hul : (u8 l).length = l.length := by simp [u8]
  rcases R.2 with h0 | ⟨b, off, ha, hb, hc⟩
  · subst h0
    cases a with
    | none => exact conv_none w c
    | some ad =>
      exact run_convert_bytes_back w 44 9 5 ad c [] Tryd.underlying44 Tryd.underlying5 Tryd.underlying9 (fun j hj => absurd hj (by simp))
  · rw [← hul, ha]
    refine run_convert_bytes_back w 44 9 5 ⟨b, off, none⟩ c (u8 l) Tryd.underlying44 Tryd.underlying5 Tryd.underlying9 (fun j hj => ?_)
    rw [u8_at l h hj, Lib.add_plain]
    exact hc j (by rw [← hul]; exact hj)
set_option maxHeartbeats 4000000 in
theorem signs57 {n lo : Nat} {cs : List Ce} {a2 : Option Addr} {c2 : Nat} {q : ByteArray} {w : World} (hc : CellsIn n lo w cs a2) (hl : cs.length ≤ 100000) (hg : ∀ i, i < cs.length → Good (cAt cs i).2.1) (T : Rn.Tab w) :
    Calls Tryd.prog 57 #[.slice a2 cs.length c2, .string q] w fun e w' => e = .returned (.string ⟨(u8 (enc (gl q cs))).toArray⟩) ∧ Below w.heap.size w w' := by
  obtain ⟨i2, hi2, hz20, hz21, hz22⟩ := info_parts info2
  have HCF : Hid (∀ i, i < cs.length → ∃ b off z0 ab nb cb, a2 = some ⟨b, off, none⟩ ∧ ∀ wr, Below w.heap.size w wr → wr.cell? ⟨b, off + i * 3, none⟩ = some (.int .i64 z0) ∧ wr.cell? ⟨b, off + i * 3 + 1, none⟩ = some (.int .i64 (cAt cs i).2.1) ∧ wr.cell? ⟨b, off + i * 3 + 2, none⟩ = some (.slice ab nb cb)) := hide fun i hi => by
    obtain ⟨b, off, z0, z1, ab, nb, cb, ha, hw⟩ := cells_at hc i hi
    refine ⟨b, off, z0, ab, nb, cb, ha, fun wr hwr => ?_⟩
    obtain ⟨g0, g1, g2, g3⟩ := hw wr hwr
    obtain ⟨-, e1, -⟩ := g3
    injection e1 with _ e1
    rw [e1] at g1
    exact ⟨g0, g1, g2⟩
  have HGL := hide (fun j (hj : j < cs.length) => gl_snoc q hj)
  have HLN := hide (fun j => gl_len q (cs.take j))
  have HGG := hide (gl_good q hg)
  have HT := hide T
  obtain ⟨L, hL⟩ : ∃ L, cs.length = L := ⟨_, rfl⟩
  have HTK : Hid (cs.take L = cs) := hide (by rw [← hL]; exact List.take_length)
  have HL2 : Hid (∀ j, (cs.take j).length ≤ L) := hide (fun j => by rw [← hL]; rw [List.length_take]; omega)
  rw [hL] at HCF HGL hl ⊢
  clear hc hg T hL
  go_enter Tryd.func57, Tryd.ntmps57
  go_wp2_with (at_make; refine wpList_make_own _ rfl _ _ 47 rfl w.heap.size 2 i2 (.int .i64 0) 1 Tryd.underlying47 hi2 hz20 hz21 .i64 .i64 _ L rfl rfl rfl (by rw [hz22]; omega) (by unfold maxLen; omega) (Nat.le_refl _) ?_; intro w0 hown0 hgrow0)
  have hb0 : Below w.heap.size w w0 := (Below.refl _ _).grown hgrow0 (Nat.le_refl _) (fun q hq => by cases hq)
  clear hgrow0
  go_wp2
  go_loopg [5, 16] L (fun g v i wq => ∃ k : Nat, g + k = L ∧ i = .int .i64 (k : Int) ∧ Below w.heap.size w wq ∧ wq.ownsRow w.heap.size 2 1 v (gl q (cs.take k)).length ((gl q (cs.take k)).map (Value.int .i64)))
  case atStart => exact ⟨0, rfl, rfl, hb0, by simpa [gl] using hown0⟩
  case round =>
    obtain ⟨k, hgk, rfl, hnx, hown⟩ := hrel
    clear hb0 hown0
    by_cases hlk : k < L
    · obtain ⟨b, off, z0, ab, nb, cb, rfl, hw⟩ := HCF.out k hlk
      obtain ⟨d0, d1, d2⟩ := hw wr hnx
      have hst := HGL.out k hlk
      have hln := HLN.out k
      have hl2 := HL2.out k
      obtain ⟨z, hz⟩ : ∃ z, (cAt cs k).2.1 = z := ⟨_, rfl⟩
      obtain ⟨pre, hpre⟩ : ∃ pre, gl q (cs.take k) = pre := ⟨_, rfl⟩
      rw [hz] at d1 hst
      rw [hpre] at hst hln hown
      have HST := hide hst
      have OW1 := hown.alloc (.cells #[.int .i64 z0, .int .i64 z, .slice ab nb cb] 72)
      have HNX := hide hnx
      have hbx : Below w.heap.size w (wr.alloc (.cells #[.int .i64 z0, .int .i64 z, .slice ab nb cb] 72)) := hnx.alloc hnx.size _
      have HBX := hide hbx
      clear hw hz hpre hst hown hnx hbx HCF HGL HLN HL2
      go_wp2_with fail
      refine (guard73 _ _ _).mono ?_
      rintro e w2 ⟨rfl, rfl⟩
      by_cases h0 : gd q z = 0
      · have hg1 : g1 q z = [z] := by unfold g1; rw [if_pos h0]
        rw [hg1] at HST
        rw [h0]
        have OW2 := OW1.alloc (.cells #[.int .i64 z] 2)
        have hb2 := HBX.out.alloc HBX.out.size (.cells #[.int .i64 z] 2)
        have HB2 := hide hb2
        have HSZ : Hid (w.heap.size ≤ ((wr.alloc (.cells #[.int .i64 z0, .int .i64 z, .slice ab nb cb] 72)).alloc (.cells #[.int .i64 z] 2)).heap.size) := hb2.size
        clear hb2 OW1
        go_wp2_with (at_builtin; refine wpList_append_own _ rfl _ _ 47 rfl w.heap.size 2 i2 (.int .i64 0) 1 8 Tryd.underlying47 hi2 hz20 hz21 hz22 rfl (by decide) _ _ _ rfl OW2 ⟨wr.heap.size + 1, 0, none⟩ 1 1 [.int .i64 z] rfl rfl ?c1 ?c2 ?c3 ?c4 ?c5 ?_)
        case c1 =>
          intro j u hj
          match j, hj with
          | 0, hj => simp at hj; subst hj; simp [Addr.add]
        case c2 => intro u hu; simp at hu; subst hu; rfl
        case c3 => unfold maxLen; omega
        case c4 => omega
        case c5 => exact HSZ.out
        intro v' w3 hown3 hgrow3 _
        have HB3 : Hid (Below w.heap.size w w3) := hide (HB2.out.grown hgrow3 HSZ.out (fun q hq => (OW2.lt q hq).1))
        have HO3 : Hid (w3.ownsRow w.heap.size 2 1 v' (gl q (cs.take (k + 1))).length ((gl q (cs.take (k + 1))).map (Value.int .i64))) := hide (by rw [HST.out]; simpa using hown3)
        clear hown3 hgrow3 OW2 HB2 HSZ d0 d1 d2
        go_wp2
        go_roundg (L - (k + 1))
        case rel => exact ⟨k + 1, by omega, by go_num, HB3.out, HO3.out⟩
        case measure => omega
      · have hg1 : g1 q z = [gd q z, z] := by unfold g1; rw [if_neg h0]
        rw [hg1] at HST
        obtain ⟨gz, hgz⟩ : ∃ gz, gd q z = gz := ⟨_, rfl⟩
        rw [hgz] at h0 HST ⊢
        have h0' : (gz != 0) = true := bne_iff_ne.2 h0
        have OW2 := OW1.alloc (.cells #[.int .i64 gz] 2)
        have hb2 := HBX.out.alloc HBX.out.size (.cells #[.int .i64 gz] 2)
        have HB2 := hide hb2
        have HSZ : Hid (w.heap.size ≤ ((wr.alloc (.cells #[.int .i64 z0, .int .i64 z, .slice ab nb cb] 72)).alloc (.cells #[.int .i64 gz] 2)).heap.size) := hb2.size
        have e1 : ((wr.alloc (.cells #[.int .i64 z0, .int .i64 z, .slice ab nb cb] 72)).alloc (.cells #[.int .i64 gz] 2)).cell? ⟨wr.heap.size, 1, none⟩ = some (.int .i64 z) := cell_one (cell_new0 wr #[.int .i64 z0, .int .i64 z, .slice ab nb cb] 72 1 _ rfl) (by simp) _
        clear hb2 OW1 hgz
        go_wp2_with (at_builtin; refine wpList_append_own _ rfl _ _ 47 rfl w.heap.size 2 i2 (.int .i64 0) 1 8 Tryd.underlying47 hi2 hz20 hz21 hz22 rfl (by decide) _ _ _ rfl OW2 ⟨wr.heap.size + 1, 0, none⟩ 1 1 [.int .i64 gz] rfl rfl ?c1 ?c2 ?c3 ?c4 ?c5 ?_)
        case c1 =>
          intro j u hj
          match j, hj with
          | 0, hj => simp at hj; subst hj; simp [Addr.add]
        case c2 => intro u hu; simp at hu; subst hu; rfl
        case c3 => unfold maxLen; omega
        case c4 => omega
        case c5 => exact HSZ.out
        intro v3 w3 hown3 hgrow3 _
        have e3 : w3.cell? ⟨wr.heap.size, 1, none⟩ = some (.int .i64 z) := hgrow3.cell e1 (fun e => by
          rcases OW2.2 with ⟨h8, -⟩ | ⟨g, cap, cur, h8, -, hg8, -⟩
          · rw [h8] at e; cases e
          · rw [h8] at e
            cases e
            have h7 : ((wr.alloc (.cells #[.int .i64 z0, .int .i64 z, .slice ab nb cb] 72)).alloc (.cells #[.int .i64 gz] 2)).heap[wr.heap.size]? = some (.cells #[.int .i64 z0, .int .i64 z, .slice ab nb cb] 72 (0, 0)) := (Lib.alloc_old _ _ wr.heap.size (by simp)).trans (heap_alloc_new wr _)
            have h9 := h7.symm.trans hg8
            cases h9)
        have HB3 := hide (HB2.out.grown hgrow3 HSZ.out (fun q hq => (OW2.lt q hq).1))
        have OW3 := hown3.alloc (.cells #[.int .i64 z] 2)
        have HSZ3 : Hid (w.heap.size ≤ (w3.alloc (.cells #[.int .i64 z] 2)).heap.size) := hide (HB3.out.alloc HB3.out.size _).size
        clear hown3 hgrow3 OW2 HB2 HSZ d0 d1 d2 e1
        go_wp2_with (at_builtin; refine wpList_append_own _ rfl _ _ 47 rfl w.heap.size 2 i2 (.int .i64 0) 1 8 Tryd.underlying47 hi2 hz20 hz21 hz22 rfl (by decide) _ _ _ rfl OW3 ⟨w3.heap.size, 0, none⟩ 1 1 [.int .i64 z] rfl rfl ?k1 ?k2 ?k3 ?k4 ?k5 ?_)
        case k1 =>
          intro j u hj
          match j, hj with
          | 0, hj => simp at hj; subst hj; simp [Addr.add]
        case k2 => intro u hu; simp at hu; subst hu; rfl
        case k3 => unfold maxLen; omega
        case k4 => omega
        case k5 => exact HSZ3.out
        intro v4 w4 hown4 hgrow4 _
        have HB4 : Hid (Below w.heap.size w w4) := hide ((HB3.out.alloc HB3.out.size _).grown hgrow4 HSZ3.out (fun q hq => (OW3.lt q hq).1))
        have HO4 : Hid (w4.ownsRow w.heap.size 2 1 v4 (gl q (cs.take (k + 1))).length ((gl q (cs.take (k + 1))).map (Value.int .i64))) := hide (by rw [HST.out]; simpa [List.append_assoc] using hown4)
        clear hown4 hgrow4 OW3 HB3 HSZ3 e3
        go_wp2
        go_roundg (L - (k + 1))
        case rel => exact ⟨k + 1, by omega, by go_num, HB4.out, HO4.out⟩
        case measure => omega
    · have hke : k = L := by omega
      subst hke
      rw [HTK.out] at hown
      have hl9 : (gl q cs).length ≤ 2 * k := by have := HLN.out k; rw [HTK.out] at this; exact Nat.le_trans this (by have := HL2.out k; rw [HTK.out] at this; omega)
      obtain ⟨a5, c5, rfl, R5, -, -, -⟩ := Rn.row_owned hown (by omega)
      have hT5 : Rn.Tab wr := HT.out.below hnx HT.out.1
      have HW := hide (Rn.write_any (gl q cs) (gl q cs).length a5 c5 wr R5 hT5 (by omega) (Nat.le_refl _) (by rw [List.take_length]; exact HGG.out) (fun h => absurd h (by omega)))
      have HNX := hide hnx
      obtain ⟨M, hM⟩ : ∃ M, (gl q cs).length = M := ⟨_, rfl⟩
      rw [hM] at HW ⊢
      clear hown R5 hT5 hnx
      go_wp2_with fail
      refine HW.out.mono ?_
      rintro e w6 ⟨h6, -, hb6⟩
      obtain ⟨a6, rfl, R6, -⟩ := h6 hM.symm
      have hcv := conv_row R6 (Rn.enc_bytes HGG.out) (enc (gl q cs)).length
      have HB6 := hide (HNX.out.trans (hb6.mono HNX.out.size))
      clear h6 R6 hb6 HW
      go_wp2
      go_ret
      exact ⟨rfl, HB6.out⟩
end Go.Proofs.YtneblkdkhlgmcaaDoor
namespace Go.Proofs.YtneblkdkhlgmcaaDoor
open Go.ChangeShapes Go.WideShapes Go.ChangeAt Go.RowKit
open Rn (Good Byte enc put)
set_option maxRecDepth 100000
set_option linter.unusedVariables false
set_option linter.unusedSimpArgs false
def gV (G : Gs) : Value := .agg #[G.s1, G.s2, G.s3, .string G.outer, .string G.power, .string G.opn, .string G.cls, .string G.left, .string G.right, .string G.minus, .string G.quote, .bool G.trains, .bool G.lone, .bool G.square]
def str (l : List UInt8) : ByteArray := ⟨l.toArray⟩
/-- An array's numbers as words. -/
def numW (m : ByteArray) (cs : List Ce) : List ByteArray := cs.map fun c => str (numT c.2.1 m.data.toList)
/-- An array as a text. -/
def litT (G : Gs) (x : Ar) : List UInt8 := if txB x then G.quote.data.toList ++ u8 (enc (gl G.quote x.cells)) ++ G.quote.data.toList else pT false (numW G.minus x.cells)
def G0 : Gs := ⟨.slice none 0 0, .slice none 0 0, .slice none 0 0, ⟨#[]⟩, ⟨#[]⟩, ⟨#[]⟩, ⟨#[]⟩, ⟨#[]⟩, ⟨#[]⟩, ⟨#[]⟩, ⟨#[]⟩, false, false, false⟩
theorem Wr.new (w : World) (G : Gs) (rt : ByteArray) : Wr w.heap.size (w.alloc (.cells (wC G rt false (.pointer none) (.slice none 0 0)) 60)) w.heap.size G rt false [] (.pointer none) (.slice none 0 0) :=
  ⟨Nat.le_refl _, Or.inl rfl, heap_alloc_new w _, World.ownsRow_nil _ _ _ _⟩
theorem numT_len (z : Int) (m : List UInt8) (h0 : -9223372036854775808 ≤ z) (h1 : z ≤ 9223372036854775807) : (numT z m).length ≤ m.length + 20 := by
  unfold numT
  have := dig_len z.natAbs (by omega)
  split
  · rw [List.length_append]; omega
  · omega
theorem pT_len (bg : Bool) (ws : List ByteArray) (M : Nat) (h : ∀ s ∈ ws, s.size ≤ M) : (pT bg ws).length ≤ ws.length * (M + 1) := by
  induction ws generalizing bg with
  | nil => simp [pT]
  | cons s r ih =>
    have h1 := h s (by simp)
    have h2 := ih true (fun t ht => h t (by simp [ht]))
    have h3 : s.data.toList.length = s.size := by simp
    simp only [pT, List.length_append, List.length_cons, h3]
    have h4 : (if bg = true then [32] else [] : List UInt8).length ≤ 1 := by split <;> simp
    rw [Nat.succ_mul]
    omega
set_option maxHeartbeats 4000000 in
theorem literal34_text {n lo : Nat} {x : Ar} {va : Value} {G : Gs} {w : World} (hx : ArIn n lo w x va) (hl : x.cells.length ≤ 100000) (ht : txB x = true) (hg : ∀ i, i < x.cells.length → Good (cAt x.cells i).2.1) (hq : G.quote.size ≤ 1000000) (T : Rn.Tab w) :
    Calls Tryd.prog 34 #[va, gV G] w fun e w' => e = .returned (.string (str (litT G x))) ∧ Below w.heap.size w w' := by
  have HI := hide (fun wr (hw : Below w.heap.size w wr) => isText56 (hx.next hw))
  rw [ht] at HI
  cases n with
  | zero => exact hx.elim
  | succ n =>
  obtain ⟨a1, c1, a2, c2, rfl, R, hl', hc⟩ := hx
  have HS := hide (fun wr (hw : Below w.heap.size w wr) => signs57 (c2 := c2) (q := G.quote) ((show CellsIn n lo w x.cells a2 from hc).mono (Nat.le_refl _) hw) hl hg (T.below hw T.1))
  have hsl : (u8 (enc (gl G.quote x.cells))).length ≤ 800000 := by
    have e1 : (u8 (enc (gl G.quote x.cells))).length = (enc (gl G.quote x.cells)).length := by simp [u8]
    have e2 := (Rn.enc_len (gl G.quote x.cells)).2
    have e3 := gl_len G.quote x.cells
    omega
  have HR : Hid (litT G x = G.quote.data.toList ++ u8 (enc (gl G.quote x.cells)) ++ G.quote.data.toList) := hide (by unfold litT; rw [ht]; rfl)
  obtain ⟨S, hS⟩ : ∃ S, u8 (enc (gl G.quote x.cells)) = S := ⟨_, rfl⟩
  rw [hS] at HS HR hsl
  obtain ⟨L, hL⟩ : ∃ L, x.cells.length = L := ⟨_, rfl⟩
  obtain ⟨SL, hSL⟩ : ∃ SL, x.shape.length = SL := ⟨_, rfl⟩
  rw [hL] at HS HI
  rw [hSL] at HI
  rw [hL, hSL]
  obtain ⟨W2, hW2⟩ : ∃ W2, (w.alloc (.cells #[.slice a1 SL c1, .slice a2 L c2] 31)).alloc (.cells #[G.s1, G.s2, G.s3, .string G.outer, .string G.power, .string G.opn, .string G.cls, .string G.left, .string G.right, .string G.minus, .string G.quote, .bool G.trains, .bool G.lone, .bool G.square] 27) = W2 := ⟨_, rfl⟩
  have hb2 : Below w.heap.size w W2 := by rw [← hW2]; exact two_allocs _ _ _
  have s2 : W2.heap.size = w.heap.size + 2 := by rw [← hW2]; simp
  have hA : W2.heap[w.heap.size]? = some (.cells #[.slice a1 SL c1, .slice a2 L c2] 31 (0, 0)) := by
    rw [← hW2]; exact (Lib.alloc_old _ _ w.heap.size (by simp)).trans (heap_alloc_new w _)
  have hGb : W2.heap[w.heap.size + 1]? = some (.cells #[G.s1, G.s2, G.s3, .string G.outer, .string G.power, .string G.opn, .string G.cls, .string G.left, .string G.right, .string G.minus, .string G.quote, .bool G.trains, .bool G.lone, .bool G.square] 27 (0, 0)) := by
    have h := heap_alloc_new (w.alloc (.cells #[.slice a1 SL c1, .slice a2 L c2] 31)) (.cells #[G.s1, G.s2, G.s3, .string G.outer, .string G.power, .string G.opn, .string G.cls, .string G.left, .string G.right, .string G.minus, .string G.quote, .bool G.trains, .bool G.lone, .bool G.square] 27)
    have e : (w.alloc (.cells #[.slice a1 SL c1, .slice a2 L c2] 31)).heap.size = w.heap.size + 1 := by simp
    rw [e] at h
    rw [← hW2]; exact h
  have KS : Hid (∀ W, Below W2.heap.size W2 W → (Below W2.heap.size W2 W ∧ W.cell? ⟨w.heap.size, 0, none⟩ = some (.slice a1 SL c1) ∧ W.cell? ⟨w.heap.size, 1, none⟩ = some (.slice a2 L c2)) ∧ W.cell? ⟨w.heap.size + 1, 10, none⟩ = some (.string G.quote) ∧ W.cell? ⟨w.heap.size + 1, 9, none⟩ = some (.string G.minus)) := hide fun W h => by
    have hA2 := (h.block w.heap.size (by omega)).trans hA
    have hG2 := (h.block (w.heap.size + 1) (by omega)).trans hGb
    exact ⟨⟨h, (Lib.cell_of_heap hA2 0).trans rfl, (Lib.cell_of_heap hA2 1).trans rfl⟩, (Lib.cell_of_heap hG2 10).trans rfl, (Lib.cell_of_heap hG2 9).trans rfl⟩
  have HB2 := hide hb2
  have hlen1 : ¬ (9223372036854775807 < G.quote.size + S.length) := by omega
  have hlen2 : ¬ (9223372036854775807 < G.quote.size + S.length + G.quote.size) := by omega
  obtain ⟨⟨-, k0, k1⟩, -⟩ := KS.out W2 (Below.refl _ _)
  unfold gV
  go_enter Tryd.func34, Tryd.ntmps34
  go_upto_region 1 with fail
  try rw [hW2]
  clear hW2 hc hg T R hl' hA hGb
  go_wp2_with fail
  refine (HI.out W2 HB2.out).mono ?_
  rintro e w3 ⟨rfl, hb3⟩
  go_upto_region 2 with fail
  have HB3 := hide hb3
  have HD0 : Hid (Below W2.heap.size W2 w3.drew) := hide (hb3.drew)
  have HB23 : Hid (∀ W, Below W2.heap.size W2 W → Below w.heap.size w W) := hide fun W h => HB2.out.trans (h.mono HB2.out.size)
  clear hb2 hb3 k0 k1
  go_region_held3 (fun W => (Below W2.heap.size W2 W ∧ W.cell? ⟨w.heap.size, 0, none⟩ = some (.slice a1 SL c1) ∧ W.cell? ⟨w.heap.size, 1, none⟩ = some (.slice a2 L c2)) ∧ W.cell? ⟨w.heap.size + 1, 10, none⟩ = some (.string G.quote) ∧ W.cell? ⟨w.heap.size + 1, 9, none⟩ = some (.string G.minus)) (first | with_reducible exact KS.out _ HD0.out | with_reducible exact KS.out _ (by with_reducible assumption)) (first | (go_at_call 57; refine (HS.out _ (HB23.out _ HD0.out)).mono ?_; rintro e w6 ⟨rfl, hb6⟩; have hb7 := HD0.out.trans (hb6.mono HD0.out.size)))
  go_wp2
  go_ret
  refine ⟨?_, HB23.out _ hb7⟩
  rw [HR.out]
  have e : G.quote ++ ⟨S.toArray⟩ ++ G.quote = str (G.quote.data.toList ++ S ++ G.quote.data.toList) := by
    have e1 := cat_l G.quote S
    rw [e1]
    have e2 := str_mk G.quote
    have e3 := cat_mk (G.quote.data.toList ++ S) G.quote.data.toList
    rw [← e2] at e3
    exact e3
  rw [← e]
  rfl
theorem StrR.next {p : Nat} {w w' : World} {ad : Option Addr} {ws : List ByteArray} (h : StrR p w ad ws) (hb : Below w.heap.size w w') : StrR p w' ad ws :=
  ⟨h.1, fun j hj => by
    obtain ⟨b, off, ha, hl, hp, h5, hc⟩ := h.2 j hj
    exact ⟨b, off, ha, Nat.lt_of_lt_of_le hl hb.size, hp, by rw [hb.block b hl]; exact h5, (hb.cell (p := ⟨b, off + j, none⟩) hl).trans hc⟩⟩
theorem info9 : (Tryd.prog.info? 9).map (fun i => (i.zero, i.size, i.bytes)) = some (some (.string ⟨#[]⟩), 1, 16) := by kernel_rfl
theorem numW_snoc (m : ByteArray) {cs : List Ce} {j : Nat} (h : j < cs.length) : numW m (cs.take (j + 1)) = numW m (cs.take j) ++ [str (numT (cAt cs j).2.1 m.data.toList)] := by
  rw [List.take_succ_eq_append_getElem h]
  simp only [numW, cAt, List.getElem?_eq_getElem h, List.map_append, List.map_cons, List.map_nil, Option.getD_some]
theorem StrR.own {p : Nat} {w : World} {base : Nat} {v : Value} {ws : List ByteArray} (h : w.ownsRow base 9 1 v ws.length (ws.map Value.string)) (hp : w.heap.size ≤ p) (hl : ws.length ≤ 1000000) : ∃ ad c, v = .slice ad ws.length c ∧ StrR p w ad ws := by
  rcases h.2 with ⟨rfl, h0⟩ | ⟨g, cap, cur, rfl, hb, hg, hn, -⟩
  · exact ⟨none, 0, by rw [h0], hl, fun j hj => absurd hj (by omega)⟩
  · refine ⟨_, cap, rfl, hl, fun j hj => ⟨g, 0, rfl, lt_heap hg, by have := lt_heap hg; omega, ?_, ?_⟩⟩
    · rintro ⟨cs, fz, h⟩
      rw [hg] at h
      cases h
    · have := h.cells (g := g) rfl j (.string (ws[j]?.getD ⟨#[]⟩)) (by simp [List.getElem?_eq_getElem hj])
      rw [Lib.add_plain] at this
      exact this
set_option maxHeartbeats 8000000 in
theorem literal34_num {n lo : Nat} {x : Ar} {va : Value} {G : Gs} {w : World} (hx : ArIn n lo w x va) (hl : x.cells.length ≤ 100000) (ht : txB x = false) (hg : ∀ i, i < x.cells.length → I64 (cAt x.cells i).2.1) (hq : G.minus.size ≤ 1000000) (T : Pw w) :
    Calls Tryd.prog 34 #[va, gV G] w fun e w' => e = .returned (.string (str (litT G x))) ∧ Below w.heap.size w w' := by
  obtain ⟨i9, hi9, hz90, hz91, hz92⟩ := info_parts info9
  have HI := hide (fun wr (hw : Below w.heap.size w wr) => isText56 (hx.next hw))
  rw [ht] at HI
  cases n with
  | zero => exact hx.elim
  | succ n =>
  obtain ⟨a1, c1, a2, c2, rfl, R, hl', hc⟩ := hx
  have HCF : Hid (∀ i, i < x.cells.length → ∃ b off z0 ab nb cb, a2 = some ⟨b, off, none⟩ ∧ ∀ wr, Below w.heap.size w wr → wr.cell? ⟨b, off + i * 3, none⟩ = some (.int .i64 z0) ∧ wr.cell? ⟨b, off + i * 3 + 1, none⟩ = some (.int .i64 (cAt x.cells i).2.1) ∧ wr.cell? ⟨b, off + i * 3 + 2, none⟩ = some (.slice ab nb cb)) := hide fun i hi => by
    obtain ⟨b, off, z0, z1, ab, nb, cb, ha, hw⟩ := cells_at hc i hi
    refine ⟨b, off, z0, ab, nb, cb, ha, fun wr hwr => ?_⟩
    obtain ⟨g0, g1, g2, g3⟩ := hw wr hwr
    obtain ⟨-, e1, -⟩ := g3
    injection e1 with _ e1
    rw [e1] at g1
    exact ⟨g0, g1, g2⟩
  have HR : Hid (litT G x = pT false (numW G.minus x.cells)) := hide (by unfold litT; rw [ht]; rfl)
  have HSN := hide (fun j (hj : j < x.cells.length) => numW_snoc G.minus hj)
  have HTL := hide (fun (h : numW G.minus (x.cells.take x.cells.length) = numW G.minus x.cells) => h)
  have HTK : Hid (numW G.minus (x.cells.take x.cells.length) = numW G.minus x.cells) := hide (by rw [List.take_length])
  have HNL : Hid (∀ k, k ≤ x.cells.length → (numW G.minus (x.cells.take k)).length = k) := hide (fun k hk => by simp [numW]; omega)
  have HPL : Hid ((pT false (numW G.minus x.cells)).length ≤ 100000 * 1000021) := hide (by
    have h := pT_len false (numW G.minus x.cells) 1000020 (fun s hs => by
      obtain ⟨c, hc1, rfl⟩ := List.mem_map.1 hs
      obtain ⟨i, hi, rfl⟩ := List.mem_iff_getElem.1 hc1
      have h1 := hg i hi
      have e : cAt x.cells i = x.cells[i] := by simp [cAt, List.getElem?_eq_getElem hi]
      rw [e] at h1
      have h2 := numT_len _ G.minus.data.toList h1.1 h1.2
      have h3 : G.minus.data.toList.length = G.minus.size := by simp
      show (str _).data.size ≤ _
      simp only [str, List.size_toArray]
      omega)
    have e : (numW G.minus x.cells).length = x.cells.length := by simp [numW]
    rw [e] at h
    exact Nat.le_trans h (Nat.mul_le_mul hl (Nat.le_refl _)))
  have HG := hide hg
  have HT := hide T
  have HMS := hide hq
  obtain ⟨CS, hCS⟩ : ∃ CS, x.cells = CS := ⟨_, rfl⟩
  rw [hCS] at HCF HSN HTK HNL HPL HG hl HR HI
  rw [hCS]
  obtain ⟨L, hL⟩ : ∃ L, CS.length = L := ⟨_, rfl⟩
  obtain ⟨SL, hSL⟩ : ∃ SL, x.shape.length = SL := ⟨_, rfl⟩
  rw [hL] at HCF HSN HTK HNL HG hl HI
  rw [hSL] at HI
  rw [hL, hSL]
  obtain ⟨W2, hW2⟩ : ∃ W2, (w.alloc (.cells #[.slice a1 SL c1, .slice a2 L c2] 31)).alloc (.cells #[G.s1, G.s2, G.s3, .string G.outer, .string G.power, .string G.opn, .string G.cls, .string G.left, .string G.right, .string G.minus, .string G.quote, .bool G.trains, .bool G.lone, .bool G.square] 27) = W2 := ⟨_, rfl⟩
  have hb2 : Below w.heap.size w W2 := by rw [← hW2]; exact two_allocs _ _ _
  have s2 : W2.heap.size = w.heap.size + 2 := by rw [← hW2]; simp
  have hA : W2.heap[w.heap.size]? = some (.cells #[.slice a1 SL c1, .slice a2 L c2] 31 (0, 0)) := by
    rw [← hW2]; exact (Lib.alloc_old _ _ w.heap.size (by simp)).trans (heap_alloc_new w _)
  have hGb : W2.heap[w.heap.size + 1]? = some (.cells #[G.s1, G.s2, G.s3, .string G.outer, .string G.power, .string G.opn, .string G.cls, .string G.left, .string G.right, .string G.minus, .string G.quote, .bool G.trains, .bool G.lone, .bool G.square] 27 (0, 0)) := by
    have h := heap_alloc_new (w.alloc (.cells #[.slice a1 SL c1, .slice a2 L c2] 31)) (.cells #[G.s1, G.s2, G.s3, .string G.outer, .string G.power, .string G.opn, .string G.cls, .string G.left, .string G.right, .string G.minus, .string G.quote, .bool G.trains, .bool G.lone, .bool G.square] 27)
    have e : (w.alloc (.cells #[.slice a1 SL c1, .slice a2 L c2] 31)).heap.size = w.heap.size + 1 := by simp
    rw [e] at h
    rw [← hW2]; exact h
  have KS : Hid (∀ W, Below W2.heap.size W2 W → (Below W2.heap.size W2 W ∧ W.cell? ⟨w.heap.size, 0, none⟩ = some (.slice a1 SL c1) ∧ W.cell? ⟨w.heap.size, 1, none⟩ = some (.slice a2 L c2)) ∧ W.cell? ⟨w.heap.size + 1, 10, none⟩ = some (.string G.quote) ∧ W.cell? ⟨w.heap.size + 1, 9, none⟩ = some (.string G.minus)) := hide fun W h => by
    have hA2 := (h.block w.heap.size (by omega)).trans hA
    have hG2 := (h.block (w.heap.size + 1) (by omega)).trans hGb
    exact ⟨⟨h, (Lib.cell_of_heap hA2 0).trans rfl, (Lib.cell_of_heap hA2 1).trans rfl⟩, (Lib.cell_of_heap hG2 10).trans rfl, (Lib.cell_of_heap hG2 9).trans rfl⟩
  have HB2 := hide hb2
  obtain ⟨⟨-, k0, k1⟩, -, k9⟩ := KS.out W2 (Below.refl _ _)
  have HB23 : Hid (∀ W, Below W2.heap.size W2 W → Below w.heap.size w W) := hide fun W h => HB2.out.trans (h.mono HB2.out.size)
  unfold gV
  clear HTL hCS hL hSL hq
  go_enter Tryd.func34, Tryd.ntmps34
  go_upto_region 1 with fail
  try rw [hW2]
  clear hW2 hc hg T R hl' hA hGb
  go_wp2_with fail
  refine (HI.out W2 HB2.out).mono ?_
  rintro e w3 ⟨rfl, hb3⟩
  obtain ⟨⟨-, k30, k31⟩, -, k39⟩ := KS.out w3 hb3
  have HB3 := hide hb3
  have h23 := hb3.size
  clear k0 k1 k9 HI hb2
  go_wp2_with (at_make; refine wpList_make_own _ rfl _ _ 25 rfl w3.heap.size 9 i9 (.string ⟨#[]⟩) 1 Tryd.underlying25 hi9 hz90 hz91 .i64 .i64 _ L rfl rfl rfl (by rw [hz92]; omega) (by unfold maxLen; omega) (Nat.le_refl _) ?_; intro w4 hown4 hgrow4; have hb4 : Below w3.heap.size w3 w4 := (Below.refl _ _).grown hgrow4 (Nat.le_refl _) (fun q hq => by cases hq); obtain ⟨⟨-, k40, k41⟩, -, k49⟩ := KS.out w4 (HB3.out.trans (hb4.mono h23)))
  clear k30 k31 k39 k40 k41 k49 hgrow4 hb3
  go_loopg [5, 29] L (fun g v i wq => ∃ k : Nat, g + k = L ∧ i = .int .i64 (k : Int) ∧ Below w3.heap.size w3 wq ∧ wq.ownsRow w3.heap.size 9 1 v k ((numW G.minus (CS.take k)).map Value.string))
  case atStart => exact ⟨0, rfl, rfl, hb4, by simpa [numW] using hown4⟩
  case round =>
    obtain ⟨k, hgk, rfl, hnx, hown⟩ := hrel
    clear hb4 hown4
    have hnx2 : Below W2.heap.size W2 wr := HB3.out.trans (hnx.mono h23)
    by_cases hlk : k < L
    · obtain ⟨b, off, z0, ab, nb, cb, rfl, hw⟩ := HCF.out k hlk
      obtain ⟨d0, d1, d2⟩ := hw wr (HB23.out _ hnx2)
      have hst := HSN.out k hlk
      have h64 := HG.out k hlk
      obtain ⟨z, hz⟩ : ∃ z, (cAt CS k).2.1 = z := ⟨_, rfl⟩
      rw [hz] at d1 hst h64
      have hbx : Below W2.heap.size W2 (wr.alloc (.cells #[.int .i64 z0, .int .i64 z, .slice ab nb cb] 72)) := hnx2.alloc hnx2.size _
      obtain ⟨-, -, k9⟩ := KS.out _ hbx
      have hms : G.minus.size ≤ 140737488355328 := by have := HMS.out; omega
      have hpw : Pw (wr.alloc (.cells #[.int .i64 z0, .int .i64 z, .slice ab nb cb] 72)) :=
        Lib.tabBelow_of_tabIs HT.out _ (HB23.out _ hbx)
      have HN := hide (num5 z G.minus hms h64.1 h64.2 _ hpw)
      have OW1 := hown.alloc (.cells #[.int .i64 z0, .int .i64 z, .slice ab nb cb] 72)
      have hn3 : Below w3.heap.size w3 (wr.alloc (.cells #[.int .i64 z0, .int .i64 z, .slice ab nb cb] 72)) := hnx.alloc hnx.size _
      have HN3 := hide hn3
      have HO1 := hide OW1
      have HST := hide hst
      clear hw hz hst hown hnx hnx2 hbx hms hpw h64 HCF HSN HG hn3 OW1
      go_wp2_with fail
      refine HN.out.mono ?_
      rintro e w5 ⟨rfl, hb5⟩
      have hb35 : Below w3.heap.size w3 w5 := HN3.out.trans (hb5.mono HN3.out.size)
      have OW5 := HO1.out.kept (row := none) ⟨hb5.os, hb5.tape, hb5.output, hb5.size, fun q hq _ => hb5.block q hq⟩ (by cases hv : (_ : Value).ownBlock <;> simp)
      have OW2 := OW5.alloc (.cells #[.string (str (numT z G.minus.data.toList))] 9)
      have hb2 := hb35.alloc hb35.size (.cells #[.string (str (numT z G.minus.data.toList))] 9)
      have HBB := hide hb2
      have HSZ : Hid (w3.heap.size ≤ (w5.alloc (.cells #[.string (str (numT z G.minus.data.toList))] 9)).heap.size) := hb2.size
      clear hb2 OW5 hb35 hb5 HN HO1 HN3
      change Hid (w3.heap.size ≤ (w5.alloc (.cells #[.string ⟨(numT z G.minus.data.toList).toArray⟩] 9)).heap.size) at HSZ
      go_wp2_with (at_builtin; refine wpList_append_own _ rfl _ _ 25 rfl w3.heap.size 9 i9 (.string ⟨#[]⟩) 1 16 Tryd.underlying25 hi9 hz90 hz91 hz92 rfl (by decide) _ _ _ rfl OW2 ⟨w5.heap.size, 0, none⟩ 1 1 [.string (str (numT z G.minus.data.toList))] rfl rfl ?c1 ?c2 ?c3 ?c4 ?c5 ?_)
      case c1 =>
        intro j u hj
        match j, hj with
        | 0, hj => simp at hj; subst hj; simp [Addr.add, str]
      case c2 => intro u hu; simp at hu; subst hu; rfl
      case c3 => unfold maxLen; omega
      case c4 => omega
      case c5 => exact HSZ.out
      intro v' w7 hown7 hgrow7 _
      have HB7 : Hid (Below w3.heap.size w3 w7) := hide (HBB.out.grown hgrow7 HSZ.out (fun q hq => (OW2.lt q hq).1))
      have HO7 : Hid (w7.ownsRow w3.heap.size 9 1 v' (k + 1) ((numW G.minus (CS.take (k + 1))).map Value.string)) := hide (by rw [HST.out, List.map_append]; exact hown7)
      clear hown7 hgrow7 OW2 HBB HSZ d0 d1 d2 k9
      go_wp2
      go_roundg (L - (k + 1))
      case rel => exact ⟨k + 1, by omega, by go_num, HB7.out, HO7.out⟩
      case measure => omega
    · have hke : k = L := by omega
      subst hke
      have hlen := HNL.out k (Nat.le_refl _)
      rw [HTK.out] at hown hlen
      obtain ⟨ad, c, rfl, hst⟩ := StrR.own (p := wr.heap.size) (by rw [hlen]; exact hown) (Nat.le_refl _) (by rw [hlen]; omega)
      rw [hlen]
      have HNX := hide (HB23.out _ hnx2)
      have HW0 := hide (Wr.new wr G0 ⟨#[]⟩)
      have HP := hide (put58 (Wr.new wr G0 ⟨#[]⟩) c (hst.next (alloc_one wr (.cells (wC G0 ⟨#[]⟩ false (.pointer none) (.slice none 0 0)) 60))) (by show 0 + (pT false (numW G.minus CS)).length ≤ _; have := HPL.out; omega))
      rw [hlen] at HP
      have HA := hide (alloc_one wr (.cells (wC G0 ⟨#[]⟩ false (.pointer none) (.slice none 0 0)) 60))
      clear hown hst hnx hnx2 HCF HSN HG
      go_wp2_with fail
      refine HP.out.mono ?_
      rintro e w9 ⟨rfl, ⟨a9, v9, h9⟩, k9⟩
      have HS := hide (string26 h9)
      have HK := hide (HNX.out.trans ((HA.out.trans k9.bel).mono HNX.out.size))
      have hle : wr.heap.size ≤ w9.heap.size := Nat.le_of_lt h9.lt
      clear h9 k9 HP
      go_wp2_with fail
      refine HS.out.mono ?_
      rintro e w10 ⟨rfl, hb10⟩
      have HF := hide (HK.out.trans (hb10.mono (HNX.out.size)))
      clear hb10 HS
      go_wp2
      go_ret
      refine ⟨?_, HF.out⟩
      rw [HR.out]
      rfl
theorem literal34 {n lo : Nat} {x : Ar} {va : Value} {G : Gs} {w : World} (hx : ArIn n lo w x va) (hl : x.cells.length ≤ 100000) (hg : txB x = true → ∀ i, i < x.cells.length → Good (cAt x.cells i).2.1) (h64 : ∀ i, i < x.cells.length → I64 (cAt x.cells i).2.1) (hm : G.minus.size ≤ 1000000) (hq : G.quote.size ≤ 1000000) (T : Rn.Tab w) (P : Pw w) :
    Calls Tryd.prog 34 #[va, gV G] w fun e w' => e = .returned (.string (str (litT G x))) ∧ Below w.heap.size w w' := by
  cases ht : txB x with
  | true => exact literal34_text hx hl ht (hg ht) hq T
  | false => exact literal34_num hx hl ht h64 hm P
end Go.Proofs.YtneblkdkhlgmcaaDoor
namespace Go.Proofs.YtneblkdkhlgmcaaDoor
open Go.ChangeShapes Go.WideShapes Go.ChangeAt Go.RowKit
set_option maxRecDepth 100000
set_option linter.unusedVariables false
set_option linter.unusedSimpArgs false
def bL (s : ByteArray) : List UInt8 := s.data.toList
def sep (bg : Bool) : List UInt8 := if bg then [32] else []
/-- In round brackets. -/
def rdT (s : List UInt8) : List UInt8 := 40 :: 32 :: (s ++ [32, 41])
def kp (x : Nd) (i : Nat) : Nd := nAt x.kids i
/-- A function ahead of an operand, given functions. -/
def apF (F : Nd → List UInt8) (x : Nd) : List UInt8 := if x.kind = 26 then rdT (F x) else F x
structure Tx where
  E : ByteArray → Nd → List UInt8
  O : ByteArray → Nd → List UInt8
  F : Nd → List UInt8
def fnT (G : Gs) (t : Tx) (x : Nd) : List UInt8 :=
  if x.kind = 21 then bL x.name
  else if x.kind = 22 ∨ x.kind = 23 then bL G.opn ++ ([32] ++ t.E (if x.kind = 22 ∧ G.lone = true then G.left else G.right) (kp x 0)) ++ ([32] ++ bL G.cls)
  else if x.kind = 24 then t.F (kp x 0) ++ bL x.name
  else if x.kind = 26 then t.F (kp x 0) ++ (bL G.power ++ numT x.op (bL G.minus))
  else if x.kind = 25 then bL G.outer ++ ([32] ++ (if (kp x 0).kind = 24 ∨ (kp x 0).kind = 25 ∨ (kp x 0).kind = 26 then rdT (t.F (kp x 0)) else t.F (kp x 0)))
  else if x.kind = 27 then rdT (t.F (kp x 0) ++ ([32] ++ t.F (kp x 1)) ++ ([32] ++ t.F (kp x 2)))
  else rdT (t.F (kp x 0) ++ ([32] ++ t.F (kp x 1)))
def oneT (G : Gs) (t : Tx) (x : Nd) : List UInt8 :=
  if G.lone = true ∧ x.kind = 26 then numT x.op (bL G.minus) ++ ([32] ++ t.F (kp x 0)) ++ [47] else apF t.F x
def exA (G : Gs) (t : Tx) (rt : ByteArray) (x : Nd) : List UInt8 :=
  if x.kind = 5 then oneT G t (kp x 0) ++ ([32] ++ t.E rt (kp x 1))
  else t.O rt (kp x 1) ++ ([32] ++ apF t.F (kp x 0)) ++ ([32] ++ t.E rt (kp x 2))
def opT (G : Gs) (t : Tx) (rt : ByteArray) (x : Nd) : List UInt8 :=
  if x.kind = 1 then litT G x.lit
  else if x.kind = 2 then bL x.name
  else if x.kind = 3 then bL G.left
  else if x.kind = 4 then bL rt
  else if x.kind = 8 then t.O rt (kp x 0) ++ [32, 91] ++ ([32] ++ t.E rt (kp x 1)) ++ [32, 93]
  else rdT (exA G t rt x)
def TX (G : Gs) : Nat → Tx
  | 0 => ⟨fun _ _ => [], fun _ _ => [], fun _ => []⟩
  | m + 1 => ⟨fun rt x => if x.kind = 5 ∨ x.kind = 6 then exA G (TX G m) rt x else opT G (TX G m) rt x, opT G (TX G m), fnT G (TX G m)⟩
/-- How many parts a node of a kind has; -1: there is no such kind. -/
def arK (k : Int) : Int :=
  if k = 1 ∨ k = 2 ∨ k = 3 ∨ k = 4 ∨ k = 21 then 0
  else if k = 22 ∨ k = 23 ∨ k = 24 ∨ k = 25 ∨ k = 26 then 1
  else if k = 5 ∨ k = 8 ∨ k = 28 then 2
  else if k = 6 ∨ k = 27 then 3
  else -1
/-- Whether a part must be a function. -/
def fnP (k : Int) (i : Nat) : Bool := decide (k = 24 ∨ k = 25 ∨ k = 26 ∨ k = 27 ∨ k = 28 ∨ (i = 0 ∧ (k = 5 ∨ k = 6)))
/-- Whether a program may be written, but for numbers that say how often. -/
def okN : Nat → Bool → Nd → Prop
  | 0, _, _ => False
  | m + 1, f, x => (x.kids.length : Int) = arK x.kind ∧ f = decide (21 ≤ x.kind) ∧ (x.kind = 1 → litB x.lit = true) ∧ ∀ i, i < x.kids.length → okN m (fnP x.kind i) (kp x i)
/-- What a machine holds. -/
def sndN : Nat → Nd → Prop
  | 0, _ => True
  | m + 1, x => I64 x.op ∧ x.lit.cells.length ≤ 100000 ∧ (∀ i, i < x.lit.cells.length → I64 (cAt x.lit.cells i).2.1) ∧ ∀ i, i < x.kids.length → sndN m (kp x i)
def sndA (x : Nd) : Prop := ∀ m, sndN m x
theorem sndA.kid {x : Nd} (h : sndA x) {i : Nat} (hi : i < x.kids.length) : sndA (kp x i) := fun m => (h (m + 1)).2.2.2 i hi
theorem sndA.op {x : Nd} (h : sndA x) : I64 x.op := (h 1).1
theorem okN.deeper {m : Nat} {f : Bool} {x : Nd} (h : okN m f x) : okN (m + 1) f x := by
  induction m generalizing f x with
  | zero => exact h.elim
  | succ m ih =>
    obtain ⟨h1, h2, h3, h4⟩ := h
    exact ⟨h1, h2, h3, fun i hi => ih (h4 i hi)⟩
/-- One word more. -/
theorem put1 {B : Nat} {w : World} {p : Nat} {G : Gs} {rt : ByteArray} {bg : Bool} {out : List UInt8} {a v : Value} (h : Wr B w p G rt bg out a v) (s : ByteArray) (hl : out.length + (sep bg).length + s.size ≤ 140737488355328) :
    Calls Tryd.prog 58 #[.pointer (some ⟨p, 0, none⟩), .slice (some ⟨w.heap.size, 0, none⟩) 1 1] (w.alloc (.cells #[.string s] 9)) (GvT B p G rt true (out ++ (sep bg ++ bL s)) w) := by
  have hs : s.data.toList.length = s.size := by simp
  have e : pT bg [s] = sep bg ++ bL s := by simp [pT, sep, bL]
  have h1 := put58 (h.next (alloc_one w (.cells #[.string s] 9))) (ad := some ⟨w.heap.size, 0, none⟩) (ws := [s]) 1 (StrR.one h.lt s) (by rw [e, List.length_append]; unfold bL; omega)
  refine h1.mono ?_
  rintro e' w' ⟨rfl, ⟨a', v', hw⟩, hk⟩
  rw [e] at hw
  have hb : (bg || !([s] : List ByteArray).isEmpty) = true := by simp
  rw [hb] at hw
  exact ⟨rfl, ⟨a', v', hw⟩, (Wk.of (alloc_one w _) (Nat.le_trans h.hB (Nat.le_of_lt h.lt))).trans hk⟩
/-- One piece more. -/
theorem glue1 {B : Nat} {w : World} {p : Nat} {G : Gs} {rt : ByteArray} {bg : Bool} {out : List UInt8} {a v : Value} (h : Wr B w p G rt bg out a v) (s : ByteArray) (hl : out.length + s.size ≤ 140737488355328) :
    Calls Tryd.prog 62 #[.pointer (some ⟨p, 0, none⟩), .slice (some ⟨w.heap.size, 0, none⟩) 1 1] (w.alloc (.cells #[.string s] 9)) (GvT B p G rt bg (out ++ bL s) w) := by
  have hs : s.data.toList.length = s.size := by simp
  have e : fl [s] = bL s := by simp [fl, bL]
  have h1 := glue62 (h.next (alloc_one w (.cells #[.string s] 9))) (ad := some ⟨w.heap.size, 0, none⟩) (ws := [s]) 1 (StrR.one h.lt s) (by rw [e]; unfold bL; omega)
  refine h1.mono ?_
  rintro e' w' ⟨rfl, ⟨a', v', hw⟩, hk⟩
  rw [e] at hw
  exact ⟨rfl, ⟨a', v', hw⟩, (Wk.of (alloc_one w _) (Nat.le_trans h.hB (Nat.le_of_lt h.lt))).trans hk⟩
theorem GvT.trans {B p : Nat} {G : Gs} {rt : ByteArray} {bg : Bool} {out : List UInt8} {w w1 : World} {e : Ending} {w' : World} (hk : Wk B p w w1) (h : GvT B p G rt bg out w1 e w') : GvT B p G rt bg out w e w' :=
  ⟨h.1, h.2.1, hk.trans h.2.2⟩
end Go.Proofs.YtneblkdkhlgmcaaDoor
namespace Go.Proofs.YtneblkdkhlgmcaaDoor
open Go.ChangeShapes Go.WideShapes Go.ChangeAt Go.RowKit
set_option maxRecDepth 100000
set_option linter.unusedVariables false
set_option linter.unusedSimpArgs false
/-- What stands about a writer all the while. -/
structure Am (w0 : World) (B p : Nat) (G : Gs) : Prop where
  hB : w0.heap.size ≤ B
  tab : Rn.Tab w0
  pw : Pw w0
  hm : G.minus.size ≤ 1000000
  hq : G.quote.size ≤ 1000000
/-- A writer at work: its block, and an elder world below. -/
structure St (w0 : World) (B : Nat) (w : World) (p : Nat) (G : Gs) (rt : ByteArray) (bg : Bool) (out : List UInt8) : Prop where
  am : Am w0 B p G
  old : Below w0.heap.size w0 w
  wr : ∃ a v, Wr B w p G rt bg out a v
theorem St.lt {w0 : World} {B : Nat} {w : World} {p : Nat} {G : Gs} {rt : ByteArray} {bg : Bool} {out : List UInt8} (h : St w0 B w p G rt bg out) : p < w.heap.size := by
  obtain ⟨a, v, hw⟩ := h.wr; exact hw.lt
theorem St.next {w0 : World} {B : Nat} {w w' : World} {p : Nat} {G : Gs} {rt : ByteArray} {bg : Bool} {out : List UInt8} (h : St w0 B w p G rt bg out) (hb : Below w.heap.size w w') : St w0 B w' p G rt bg out := by
  obtain ⟨a, v, hw⟩ := h.wr
  exact ⟨h.am, h.old.trans (hb.mono h.old.size), a, v, hw.next hb⟩
theorem St.wkn {w0 : World} {B : Nat} {w w' : World} {p : Nat} {G : Gs} {rt : ByteArray} {bg : Bool} {out : List UInt8} (h : St w0 B w p G rt bg out) (hb : Below w.heap.size w w') : Wk B p w w' := by
  obtain ⟨a, v, hw⟩ := h.wr
  exact Wk.of hb (Nat.le_trans hw.hB (Nat.le_of_lt hw.lt))
/-- What a call that writes leaves. -/
theorem St.got {w0 : World} {B : Nat} {w : World} {p : Nat} {G : Gs} {rt rt' : ByteArray} {bg bg' : Bool} {out out' : List UInt8} (h : St w0 B w p G rt bg out) {e : Ending} {w' : World} (g : GvT B p G rt' bg' out' w e w') : St w0 B w' p G rt' bg' out' :=
  ⟨h.am, h.old.trans (g.2.2.bel.mono h.am.hB), g.2.1⟩
/-- A box of a call's own, kept. -/
theorem Wk.box {B p : Nat} {w w' : World} (h : Wk B p w w') {q : Nat} {cs : Array Value} {T : TypeId} (hq : w.heap[q]? = some (.cells cs T (0, 0))) (hp : q ≠ p) (hT : T ≠ 5) : w'.heap[q]? = some (.cells cs T (0, 0)) :=
  (h.keep q (lt_heap hq) hp (by rintro ⟨cs', fz, h'⟩; rw [hq] at h'; cases h'; exact hT rfl)).trans hq
/-- One word more, of a writer at work. -/
theorem St.put {w0 : World} {B : Nat} {w : World} {p : Nat} {G : Gs} {rt : ByteArray} {bg : Bool} {out : List UInt8} (h : St w0 B w p G rt bg out) (s : ByteArray) (hl : out.length + (sep bg).length + s.size ≤ 140737488355328) :
    Calls Tryd.prog 58 #[.pointer (some ⟨p, 0, none⟩), .slice (some ⟨w.heap.size, 0, none⟩) 1 1] (w.alloc (.cells #[.string s] 9)) (GvT B p G rt true (out ++ (sep bg ++ bL s)) w) := by
  obtain ⟨a, v, hw⟩ := h.wr
  exact put1 hw s hl
theorem St.glue {w0 : World} {B : Nat} {w : World} {p : Nat} {G : Gs} {rt : ByteArray} {bg : Bool} {out : List UInt8} (h : St w0 B w p G rt bg out) (s : ByteArray) (hl : out.length + s.size ≤ 140737488355328) :
    Calls Tryd.prog 62 #[.pointer (some ⟨p, 0, none⟩), .slice (some ⟨w.heap.size, 0, none⟩) 1 1] (w.alloc (.cells #[.string s] 9)) (GvT B p G rt bg (out ++ bL s) w) := by
  obtain ⟨a, v, hw⟩ := h.wr
  exact glue1 hw s hl
theorem number60 {w0 : World} {B : Nat} {w : World} {p : Nat} {G : Gs} {rt : ByteArray} {bg : Bool} {out : List UInt8} (h : St w0 B w p G rt bg out) (z : Int) (hz : I64 z) :
    Calls Tryd.prog 60 #[.pointer (some ⟨p, 0, none⟩), .int .i64 z] w fun e w' => e = .returned (.string (str (numT z (bL G.minus)))) ∧ Below w.heap.size w w' := by
  obtain ⟨a, v, hw⟩ := h.wr
  have c9 := hw.all.2.1.1
  have HN := hide (num5 z G.minus (by have := h.am.hm; omega) hz.1 hz.2 w (Lib.tabBelow_of_tabIs h.am.pw _ h.old))
  clear hw h
  go_enter Tryd.func60, Tryd.ntmps60
  go_wp2_with fail
  refine HN.out.mono ?_
  rintro e w' ⟨rfl, hb⟩
  go_wp2
  go_ret
  exact ⟨rfl, hb⟩
abbrev sv (k o : Int) (nm : ByteArray) (v1 v2 v3 : Value) (ps : Int) : Array Value := #[.int .i64 k, .int .i64 o, .string nm, v1, v2, v3, .int .i64 ps]
set_option maxHeartbeats 2000000 in
theorem brack63_25 {w0 : World} {B : Nat} {w : World} {p : Nat} {G : Gs} {rt : ByteArray} {bg : Bool} {out : List UInt8} (h : St w0 B w p G rt bg out) (T : List UInt8) (k o : Int) (nm : ByteArray) (v1 v2 v3 : Value) (h1 : v1.cells.size = 1) (ps : Int)
    (hl : out.length + (sep bg).length + (rdT T).length ≤ 140737488355328)
    (hc : ∀ w1 out1, St w0 B w1 p G rt true out1 → out1.length + 1 + T.length ≤ 140737488355328 → Calls Tryd.prog 25 #[.pointer (some ⟨p, 0, none⟩), .agg (sv k o nm v1 v2 v3 ps)] w1 (GvT B p G rt true (out1 ++ ([32] ++ T)) w1)) :
    Calls Tryd.prog 63 #[.pointer (some ⟨p, 0, none⟩), .agg (sv k o nm v1 v2 v3 ps), .func (.func 25) #[.pointer (some ⟨p, 0, none⟩)] #[]] w (GvT B p G rt true (out ++ (sep bg ++ rdT T)) w) := by
  obtain ⟨W1, hW1⟩ : ∃ W1, w.alloc (.cells (sv k o nm v1 v2 v3 ps) 34) = W1 := ⟨_, rfl⟩
  have hb1 : Below w.heap.size w W1 := by rw [← hW1]; exact alloc_one _ _
  have s1 : W1.heap.size = w.heap.size + 1 := by rw [← hW1]; simp
  have hbx : W1.heap[w.heap.size]? = some (.cells (sv k o nm v1 v2 v3 ps) 34 (0, 0)) := by rw [← hW1]; exact heap_alloc_new w _
  have hlr : (rdT T).length = T.length + 4 := by simp [rdT]
  have hse : (sep true).length = 1 := rfl
  have hs1 : (⟨#[40]⟩ : ByteArray).size = 1 := rfl
  have hs2 : (⟨#[41]⟩ : ByteArray).size = 1 := rfl
  have hql : w.heap.size ≠ p := Nat.ne_of_gt h.lt
  have H1 := hide (h.next hb1)
  have HK1 := hide (h.wkn hb1)
  have HP := hide ((h.next hb1).put ⟨#[40]⟩ (by omega))
  rw [s1] at HP
  have HBX := hide hbx
  have hv1 : sep bg ++ rdT T = (sep bg ++ bL ⟨#[40]⟩) ++ ([32] ++ T) ++ ([32] ++ bL ⟨#[41]⟩) := by simp [rdT, bL]
  rw [hv1]
  clear hb1 hbx h hv1
  go_enter Tryd.func63, Tryd.ntmps63
  go_wp2_with fail
  refine HP.out.mono ?_
  rintro e w2 g2
  have H2 := hide (H1.out.got g2)
  have HK2 := hide (HK1.out.trans g2.2.2)
  have hb2 := g2.2.2.box HBX.out hql (by decide)
  have HB2 := hide hb2
  obtain rfl := g2.1
  have k0 : w2.cell? ⟨w.heap.size, 0, none⟩ = some (.int .i64 k) := (Lib.cell_of_heap hb2 0).trans rfl
  have k1 : w2.cell? ⟨w.heap.size, 1, none⟩ = some (.int .i64 o) := (Lib.cell_of_heap hb2 1).trans rfl
  have k2 : w2.cell? ⟨w.heap.size, 2, none⟩ = some (.string nm) := (Lib.cell_of_heap hb2 2).trans rfl
  have k3 : w2.cell? ⟨w.heap.size, 3, none⟩ = some (v1) := (Lib.cell_of_heap hb2 3).trans rfl
  have k4 : w2.cell? ⟨w.heap.size, 4, none⟩ = some (v2) := (Lib.cell_of_heap hb2 4).trans rfl
  have k5 : w2.cell? ⟨w.heap.size, 5, none⟩ = some (v3) := (Lib.cell_of_heap hb2 5).trans rfl
  have k6 : w2.cell? ⟨w.heap.size, 6, none⟩ = some (.int .i64 ps) := (Lib.cell_of_heap hb2 6).trans rfl
  have HC := hide (hc w2 _ H2.out (by rw [List.length_append, List.length_append]; show _ + (_ + 1) + 1 + _ ≤ _; omega))
  clear g2 hb2 HP H1 HK1 HBX
  go_wp2_with fail
  refine HC.out.mono ?_
  rintro e w3 g3
  have H3 := hide (H2.out.got g3)
  have HK3 := hide (HK2.out.trans g3.2.2)
  obtain rfl := g3.1
  have HQ := hide (H3.out.put ⟨#[41]⟩ (by rw [List.length_append, List.length_append, List.length_append, List.length_append]; show _ + (_ + 1) + (1 + _) + _ + _ ≤ _; omega))
  clear g3 HC H2 HK2 k0 k1 k2 k3 k4 k5 k6
  go_wp2_with fail
  refine HQ.out.mono ?_
  rintro e w4 ⟨rfl, hx, hk⟩
  have HF := hide (And.intro hx (HK3.out.trans hk))
  clear hx hk HQ H3 HK3
  go_wp2
  go_end0
  refine ⟨rfl, ?_, HF.out.2⟩
  have hx := HF.out.1
  simpa [sep, List.append_assoc] using hx
set_option maxHeartbeats 2000000 in
theorem brack63_61 {w0 : World} {B : Nat} {w : World} {p : Nat} {G : Gs} {rt : ByteArray} {bg : Bool} {out : List UInt8} (h : St w0 B w p G rt bg out) (T : List UInt8) (k o : Int) (nm : ByteArray) (v1 v2 v3 : Value) (h1 : v1.cells.size = 1) (ps : Int)
    (hl : out.length + (sep bg).length + (rdT T).length ≤ 140737488355328)
    (hc : ∀ w1 out1, St w0 B w1 p G rt true out1 → out1.length + 1 + T.length ≤ 140737488355328 → Calls Tryd.prog 61 #[.pointer (some ⟨p, 0, none⟩), .agg (sv k o nm v1 v2 v3 ps)] w1 (GvT B p G rt true (out1 ++ ([32] ++ T)) w1)) :
    Calls Tryd.prog 63 #[.pointer (some ⟨p, 0, none⟩), .agg (sv k o nm v1 v2 v3 ps), .func (.func 61) #[.pointer (some ⟨p, 0, none⟩)] #[]] w (GvT B p G rt true (out ++ (sep bg ++ rdT T)) w) := by
  obtain ⟨W1, hW1⟩ : ∃ W1, w.alloc (.cells (sv k o nm v1 v2 v3 ps) 34) = W1 := ⟨_, rfl⟩
  have hb1 : Below w.heap.size w W1 := by rw [← hW1]; exact alloc_one _ _
  have s1 : W1.heap.size = w.heap.size + 1 := by rw [← hW1]; simp
  have hbx : W1.heap[w.heap.size]? = some (.cells (sv k o nm v1 v2 v3 ps) 34 (0, 0)) := by rw [← hW1]; exact heap_alloc_new w _
  have hlr : (rdT T).length = T.length + 4 := by simp [rdT]
  have hse : (sep true).length = 1 := rfl
  have hs1 : (⟨#[40]⟩ : ByteArray).size = 1 := rfl
  have hs2 : (⟨#[41]⟩ : ByteArray).size = 1 := rfl
  have hql : w.heap.size ≠ p := Nat.ne_of_gt h.lt
  have H1 := hide (h.next hb1)
  have HK1 := hide (h.wkn hb1)
  have HP := hide ((h.next hb1).put ⟨#[40]⟩ (by omega))
  rw [s1] at HP
  have HBX := hide hbx
  have hv1 : sep bg ++ rdT T = (sep bg ++ bL ⟨#[40]⟩) ++ ([32] ++ T) ++ ([32] ++ bL ⟨#[41]⟩) := by simp [rdT, bL]
  rw [hv1]
  clear hb1 hbx h hv1
  go_enter Tryd.func63, Tryd.ntmps63
  go_wp2_with fail
  refine HP.out.mono ?_
  rintro e w2 g2
  have H2 := hide (H1.out.got g2)
  have HK2 := hide (HK1.out.trans g2.2.2)
  have hb2 := g2.2.2.box HBX.out hql (by decide)
  have HB2 := hide hb2
  obtain rfl := g2.1
  have k0 : w2.cell? ⟨w.heap.size, 0, none⟩ = some (.int .i64 k) := (Lib.cell_of_heap hb2 0).trans rfl
  have k1 : w2.cell? ⟨w.heap.size, 1, none⟩ = some (.int .i64 o) := (Lib.cell_of_heap hb2 1).trans rfl
  have k2 : w2.cell? ⟨w.heap.size, 2, none⟩ = some (.string nm) := (Lib.cell_of_heap hb2 2).trans rfl
  have k3 : w2.cell? ⟨w.heap.size, 3, none⟩ = some (v1) := (Lib.cell_of_heap hb2 3).trans rfl
  have k4 : w2.cell? ⟨w.heap.size, 4, none⟩ = some (v2) := (Lib.cell_of_heap hb2 4).trans rfl
  have k5 : w2.cell? ⟨w.heap.size, 5, none⟩ = some (v3) := (Lib.cell_of_heap hb2 5).trans rfl
  have k6 : w2.cell? ⟨w.heap.size, 6, none⟩ = some (.int .i64 ps) := (Lib.cell_of_heap hb2 6).trans rfl
  have HC := hide (hc w2 _ H2.out (by rw [List.length_append, List.length_append]; show _ + (_ + 1) + 1 + _ ≤ _; omega))
  clear g2 hb2 HP H1 HK1 HBX
  go_wp2_with fail
  refine HC.out.mono ?_
  rintro e w3 g3
  have H3 := hide (H2.out.got g3)
  have HK3 := hide (HK2.out.trans g3.2.2)
  obtain rfl := g3.1
  have HQ := hide (H3.out.put ⟨#[41]⟩ (by rw [List.length_append, List.length_append, List.length_append, List.length_append]; show _ + (_ + 1) + (1 + _) + _ + _ ≤ _; omega))
  clear g3 HC H2 HK2 k0 k1 k2 k3 k4 k5 k6
  go_wp2_with fail
  refine HQ.out.mono ?_
  rintro e w4 ⟨rfl, hx, hk⟩
  have HF := hide (And.intro hx (HK3.out.trans hk))
  clear hx hk HQ H3 HK3
  go_wp2
  go_end0
  refine ⟨rfl, ?_, HF.out.2⟩
  have hx := HF.out.1
  simpa [sep, List.append_assoc] using hx
theorem nd_form {m n lo : Nat} {w : World} {x : Nd} {v : Value} (h : NdIn m n lo w x v) : ∃ v1 v2 v3, v = .agg (sv x.kind x.op x.name v1 v2 v3 x.pos) ∧ v1.cells.size = 1 := by
  cases m with
  | zero => exact h.elim
  | succ m =>
    obtain ⟨a1, c1, a2, c2, ak, ck, hv, -⟩ := h
    exact ⟨_, _, _, hv, rfl⟩
/-- Seven cells of a node from a place on. -/
def Sv7 (W : World) (b d : Nat) (k o : Int) (nm : ByteArray) (u1 u2 u3 : Value) (ps : Int) : Prop :=
  W.cell? ⟨b, d, none⟩ = some (.int .i64 k) ∧ W.cell? ⟨b, d + 1, none⟩ = some (.int .i64 o) ∧ W.cell? ⟨b, d + 2, none⟩ = some (.string nm) ∧ W.cell? ⟨b, d + 3, none⟩ = some u1 ∧ W.cell? ⟨b, d + 4, none⟩ = some u2 ∧ W.cell? ⟨b, d + 5, none⟩ = some u3 ∧ W.cell? ⟨b, d + 6, none⟩ = some (.int .i64 ps)
theorem nd_kids {m n : Nat} {w : World} {x : Nd} {v : Value} (h : NdIn (m + 1) n 0 w x v) : ∃ v1 v2 ak ck, v = .agg (sv x.kind x.op x.name v1 v2 (.slice ak x.kids.length ck) x.pos) ∧ v1.cells.size = 1 ∧ ArIn n 0 w x.lit (.agg #[v1, v2]) ∧
    ∀ j, j < x.kids.length → ∃ b off u1 u2 u3, ak = some ⟨b, off, none⟩ ∧ NdIn m n 0 w (kp x j) (.agg (sv (kp x j).kind (kp x j).op (kp x j).name u1 u2 u3 (kp x j).pos)) ∧ ∀ W, Below w.heap.size w W → Sv7 W b (off + j * 7) (kp x j).kind (kp x j).op (kp x j).name u1 u2 u3 (kp x j).pos := by
  obtain ⟨a1, c1, a2, c2, ak, ck, hv, hA, -, -, hc⟩ := h
  refine ⟨_, _, ak, ck, hv, rfl, hA, fun j hj => ?_⟩
  rcases hc with hc | ⟨b, off, ha, hlo, hb, hc⟩
  · rw [hc] at hj; exact absurd hj (by simp)
  · obtain ⟨d1, e1, d2, e2, dk, ek, s7, hk⟩ := hc j hj
    exact ⟨b, off, _, _, _, ha, hk, fun W hW => s7.next hW hb⟩
theorem sep_true : sep true = [32] := rfl
theorem sep_le (bg : Bool) : (sep bg).length ≤ 1 := by cases bg <;> simp [sep]
/-- What the writer of a function promises. -/
def CF (n m : Nat) (w0 : World) (B p : Nat) (G : Gs) : Prop := ∀ (rt : ByteArray) (bg : Bool) (out : List UInt8) (w : World) (x : Nd) (v : Value), NdIn m n 0 w0 x v → okN m true x → sndA x → St w0 B w p G rt bg out → out.length + 1 + ((TX G m).F x).length ≤ 140737488355328 →
  Calls Tryd.prog 61 #[.pointer (some ⟨p, 0, none⟩), v] w (GvT B p G rt true (out ++ (sep bg ++ (TX G m).F x)) w)
/-- What the writer of an expression promises. -/
def CE (n m : Nat) (w0 : World) (B p : Nat) (G : Gs) : Prop := ∀ (rt : ByteArray) (bg : Bool) (out : List UInt8) (w : World) (x : Nd) (v : Value), NdIn m n 0 w0 x v → okN m false x → sndA x → St w0 B w p G rt bg out → out.length + 1 + ((TX G m).E rt x).length ≤ 140737488355328 →
  Calls Tryd.prog 25 #[.pointer (some ⟨p, 0, none⟩), v] w (GvT B p G rt true (out ++ (sep bg ++ (TX G m).E rt x)) w)
/-- What the writer of an operand promises. -/
def CO (n m : Nat) (w0 : World) (B p : Nat) (G : Gs) : Prop := ∀ (rt : ByteArray) (bg : Bool) (out : List UInt8) (w : World) (x : Nd) (v : Value), NdIn m n 0 w0 x v → okN m false x → sndA x → St w0 B w p G rt bg out → out.length + 1 + ((TX G m).O rt x).length ≤ 140737488355328 →
  Calls Tryd.prog 40 #[.pointer (some ⟨p, 0, none⟩), v] w (GvT B p G rt true (out ++ (sep bg ++ (TX G m).O rt x)) w)
set_option maxHeartbeats 2000000 in
theorem ahead41 {n m : Nat} {w0 : World} {B p : Nat} {G : Gs} (IF : CF n m w0 B p G) (rt : ByteArray) (bg : Bool) (out : List UInt8) (w : World) (x : Nd) (v : Value) (hx : NdIn m n 0 w0 x v) (hk : okN m true x) (hs : sndA x) (h : St w0 B w p G rt bg out) (hl : out.length + 1 + (apF (TX G m).F x).length ≤ 140737488355328) :
    Calls Tryd.prog 41 #[.pointer (some ⟨p, 0, none⟩), v] w (GvT B p G rt true (out ++ (sep bg ++ apF (TX G m).F x)) w) := by
  obtain ⟨v1, v2, v3, rfl, hv1⟩ := nd_form hx
  have HF := hide (fun bg out w (hst : St w0 B w p G rt bg out) hl => IF rt bg out w x _ hx hk hs hst hl)
  have HAP : Hid ((x.kind = 26 → apF (TX G m).F x = rdT ((TX G m).F x)) ∧ (x.kind ≠ 26 → apF (TX G m).F x = (TX G m).F x)) := hide (by
    unfold apF
    exact ⟨fun h => by rw [if_pos h], fun h => by rw [if_neg h]⟩)
  obtain ⟨T, hT⟩ : ∃ T, apF (TX G m).F x = T := ⟨_, rfl⟩
  obtain ⟨FT, hFT⟩ : ∃ FT, (TX G m).F x = FT := ⟨_, rfl⟩
  rw [hT] at HAP hl ⊢
  rw [hFT] at HAP HF
  have hse := sep_le bg
  generalize x.kind = k at *
  generalize x.op = o at *
  generalize x.name = nm at *
  generalize x.pos = ps at *
  clear hT hFT hx hk hs IF
  obtain ⟨W1, hW1⟩ : ∃ W1, w.alloc (.cells (sv k o nm v1 v2 v3 ps) 34) = W1 := ⟨_, rfl⟩
  have hb1 : Below w.heap.size w W1 := by rw [← hW1]; exact alloc_one _ _
  have s1 : W1.heap.size = w.heap.size + 1 := by rw [← hW1]; simp
  have hbx : W1.heap[w.heap.size]? = some (.cells (sv k o nm v1 v2 v3 ps) 34 (0, 0)) := by rw [← hW1]; exact heap_alloc_new w _
  have hql : w.heap.size ≠ p := Nat.ne_of_gt h.lt
  have H1 := hide (h.next hb1)
  have HK1 := hide (h.wkn hb1)
  have HBX := hide hbx
  have k0 : W1.cell? ⟨w.heap.size, 0, none⟩ = some (.int .i64 k) := (Lib.cell_of_heap hbx 0).trans rfl
  have k1 : W1.cell? ⟨w.heap.size, 1, none⟩ = some (.int .i64 o) := (Lib.cell_of_heap hbx 1).trans rfl
  have k2 : W1.cell? ⟨w.heap.size, 2, none⟩ = some (.string nm) := (Lib.cell_of_heap hbx 2).trans rfl
  have k3 : W1.cell? ⟨w.heap.size, 3, none⟩ = some (v1) := (Lib.cell_of_heap hbx 3).trans rfl
  have k4 : W1.cell? ⟨w.heap.size, 4, none⟩ = some (v2) := (Lib.cell_of_heap hbx 4).trans rfl
  have k5 : W1.cell? ⟨w.heap.size, 5, none⟩ = some (v3) := (Lib.cell_of_heap hbx 5).trans rfl
  have k6 : W1.cell? ⟨w.heap.size, 6, none⟩ = some (.int .i64 ps) := (Lib.cell_of_heap hbx 6).trans rfl
  clear hb1 hbx
  by_cases h26 : k = 26
  · subst h26
    obtain rfl := HAP.out.1 rfl
    have hlr : (rdT FT).length = FT.length + 4 := by simp [rdT]
    have HC := hide (brack63_61 (h.next (by rw [← hW1]; exact alloc_one _ _) : St w0 B W1 p G rt bg out) FT 26 o nm v1 v2 v3 hv1 ps (by omega) (fun w1 out1 hst hb => HF.out true out1 w1 hst hb))
    clear h HF
    go_enter Tryd.func41, Tryd.ntmps41
    go_wp2_with fail
    refine HC.out.mono ?_
    rintro e w2 ⟨rfl, hx, hk⟩
    have HF := hide (And.intro hx (HK1.out.trans hk))
    clear hx hk HC
    go_wp2
    go_end0
    exact ⟨rfl, HF.out⟩
  · obtain rfl := HAP.out.2 h26
    have h26' : (k == 26) = false := beq_eq_false_iff_ne.2 h26
    have HC := hide (HF.out bg out W1 H1.out (by omega))
    clear h HF
    go_enter Tryd.func41, Tryd.ntmps41
    go_wp2_with fail
    refine HC.out.mono ?_
    rintro e w2 ⟨rfl, hx, hk⟩
    have HF := hide (And.intro hx (HK1.out.trans hk))
    clear hx hk HC
    go_wp2
    go_end0
    exact ⟨rfl, HF.out⟩
set_option maxHeartbeats 4000000 in
theorem one39 {n m : Nat} {w0 : World} {B p : Nat} {G : Gs} (IF : CF n m w0 B p G) (rt : ByteArray) (bg : Bool) (out : List UInt8) (w : World) (x : Nd) (v : Value) (hx : NdIn m n 0 w0 x v) (hk : okN m true x) (hs : sndA x) (h : St w0 B w p G rt bg out) (hl : out.length + 1 + (oneT G (TX G m) x).length ≤ 140737488355328) :
    Calls Tryd.prog 39 #[.pointer (some ⟨p, 0, none⟩), v] w (GvT B p G rt true (out ++ (sep bg ++ oneT G (TX G m) x)) w) := by
  cases m with
  | zero => exact hx.elim
  | succ m =>
  have HA := hide (fun W (hst : St w0 B W p G rt bg out) hl => ahead41 IF rt bg out W x v hx hk hs hst hl)
  have hsx := hs
  obtain ⟨v1, v2, ak, ck, rfl, hv1, -, hkid⟩ := nd_kids hx
  have hse := sep_le bg
  by_cases hc : G.lone = true ∧ x.kind = 26
  · obtain ⟨hlo, h26⟩ := hc
    have hT : oneT G (TX G (m + 1)) x = numT x.op (bL G.minus) ++ ([32] ++ (TX G (m + 1)).F (kp x 0)) ++ [47] := by unfold oneT; rw [if_pos ⟨hlo, h26⟩]
    have hkl : x.kids.length = 1 := by have := hk.1; rw [h26] at this; unfold arK at this; simp at this; omega
    obtain ⟨b, off, u1, u2, u3, rfl, hnk, h7⟩ := hkid 0 (by omega)
    have hok := (hk.2.2.2 0 (by omega)).deeper
    rw [h26] at hok
    have hsk := hsx.kid (i := 0) (by omega)
    have HF := hide (fun out w (hst : St w0 B w p G rt true out) hl => IF rt true out w (kp x 0) _ hnk.deeper hok hsk hst hl)
    rw [hT] at hl ⊢
    have H7 : Hid (∀ W, Below w0.heap.size w0 W → Sv7 W b off (kp x 0).kind (kp x 0).op (kp x 0).name u1 u2 u3 (kp x 0).pos) := hide (by simpa only [Nat.zero_mul, Nat.add_zero] using h7)
    have ho := hs.op
    rw [h26, hkl] at HA ⊢
    obtain ⟨FT, hFT⟩ : ∃ FT, (TX G (m + 1)).F (kp x 0) = FT := ⟨_, rfl⟩
    rw [hFT] at HF hl ⊢
    have hNL : (numT x.op (bL G.minus)).length ≤ 140737488355328 := by rw [List.length_append, List.length_append] at hl; omega
    obtain ⟨NT, hNT⟩ : ∃ NT, numT x.op (bL G.minus) = NT := ⟨_, rfl⟩
    rw [hNT] at hl hNL ⊢
    simp only [List.length_append, List.length_cons, List.length_nil] at hl
    generalize (kp x 0).kind = k' at *
    generalize (kp x 0).op = o' at *
    generalize (kp x 0).name = nm' at *
    generalize (kp x 0).pos = ps' at *
    have HNT := hide hNT
    generalize x.op = o at *
    generalize x.name = nm at *
    generalize x.pos = ps at *
    clear hx hk hs hsx hnk h7 hok hsk IF hkid hT h26 hkl hFT hNT HA
    obtain ⟨W1, hW1⟩ : ∃ W1, w.alloc (.cells (sv 26 o nm v1 v2 (.slice (some ⟨b, off, none⟩) 1 ck) ps) 34) = W1 := ⟨_, rfl⟩
    have hb1 : Below w.heap.size w W1 := by rw [← hW1]; exact alloc_one _ _
    have s1 : W1.heap.size = w.heap.size + 1 := by rw [← hW1]; simp
    have hbx : W1.heap[w.heap.size]? = some (.cells (sv 26 o nm v1 v2 (.slice (some ⟨b, off, none⟩) 1 ck) ps) 34 (0, 0)) := by rw [← hW1]; exact heap_alloc_new w _
    have hql : w.heap.size ≠ p := Nat.ne_of_gt h.lt
    have H1 := hide (h.next hb1)
    have HK1 := hide (h.wkn hb1)
    have HBX := hide hbx
    have k0 : W1.cell? ⟨w.heap.size, 0, none⟩ = some (.int .i64 26) := (Lib.cell_of_heap hbx 0).trans rfl
    have k1 : W1.cell? ⟨w.heap.size, 1, none⟩ = some (.int .i64 o) := (Lib.cell_of_heap hbx 1).trans rfl
    have k2 : W1.cell? ⟨w.heap.size, 2, none⟩ = some (.string nm) := (Lib.cell_of_heap hbx 2).trans rfl
    have k3 : W1.cell? ⟨w.heap.size, 3, none⟩ = some (v1) := (Lib.cell_of_heap hbx 3).trans rfl
    have k4 : W1.cell? ⟨w.heap.size, 4, none⟩ = some (v2) := (Lib.cell_of_heap hbx 4).trans rfl
    have k5 : W1.cell? ⟨w.heap.size, 5, none⟩ = some (.slice (some ⟨b, off, none⟩) 1 ck) := (Lib.cell_of_heap hbx 5).trans rfl
    have k6 : W1.cell? ⟨w.heap.size, 6, none⟩ = some (.int .i64 ps) := (Lib.cell_of_heap hbx 6).trans rfl
    obtain ⟨aw, vw, hw⟩ := H1.out.wr
    have c12 : W1.cell? ⟨p, 12, none⟩ = some (.bool true) := by rw [hw.all.2.1.2.2.1, hlo]
    have HN := hide (number60 H1.out o ho)
    clear hb1 hbx hw
    go_enter Tryd.func39, Tryd.ntmps39
    go_wp2_with fail
    refine HN.out.mono ?_
    rintro e w2 ⟨rfl, hb2⟩
    rw [HNT.out]
    have H2 := hide (H1.out.next hb2)
    have HK2 := hide (HK1.out.trans (H1.out.wkn hb2))
    have HB2 := hide ((H1.out.wkn hb2).box HBX.out hql (by decide))
    have HP := hide (H2.out.put (str NT) (by show _ + _ + (str NT).data.size ≤ _; simp only [str, List.size_toArray]; omega))
    clear hb2 HN H1 HK1 HBX k0 k1 k2 k3 k4 k5 k6 c12
    go_wp2_with fail
    refine HP.out.mono ?_
    rintro e w3 g3
    have H3 := hide (H2.out.got g3)
    have HK3 := hide (HK2.out.trans g3.2.2)
    have hb3 := g3.2.2.box HB2.out hql (by decide)
    have HB3 := hide hb3
    obtain rfl := g3.1
    clear g3 HP
    have k0 : w3.cell? ⟨w.heap.size, 0, none⟩ = some (.int .i64 26) := (Lib.cell_of_heap hb3 0).trans rfl
    have k1 : w3.cell? ⟨w.heap.size, 1, none⟩ = some (.int .i64 o) := (Lib.cell_of_heap hb3 1).trans rfl
    have k2 : w3.cell? ⟨w.heap.size, 2, none⟩ = some (.string nm) := (Lib.cell_of_heap hb3 2).trans rfl
    have k3 : w3.cell? ⟨w.heap.size, 3, none⟩ = some (v1) := (Lib.cell_of_heap hb3 3).trans rfl
    have k4 : w3.cell? ⟨w.heap.size, 4, none⟩ = some (v2) := (Lib.cell_of_heap hb3 4).trans rfl
    have k5 : w3.cell? ⟨w.heap.size, 5, none⟩ = some (.slice (some ⟨b, off, none⟩) 1 ck) := (Lib.cell_of_heap hb3 5).trans rfl
    have k6 : w3.cell? ⟨w.heap.size, 6, none⟩ = some (.int .i64 ps) := (Lib.cell_of_heap hb3 6).trans rfl
    clear hb3
    obtain ⟨y0, y1, y2, y3, y4, y5, y6⟩ := H7.out w3 H3.out.old
    have HC := hide (HF.out _ w3 H3.out (by simp [bL, str, sep_true]; omega))
    go_wp2_with fail
    refine HC.out.mono ?_
    rintro e w4 g4
    have H4 := hide (H3.out.got g4)
    have HK4 := hide (HK3.out.trans g4.2.2)
    have hb4 := g4.2.2.box HB3.out hql (by decide)
    have HB4 := hide hb4
    obtain rfl := g4.1
    clear g4 HC k0 k1 k2 k3 k4 k5 k6 y0 y1 y2 y3 y4 y5 y6
    clear hb4
    have HC := hide (H4.out.glue ⟨#[47]⟩ (by simp [bL, str, sep_true]; show _ + 1 ≤ _; omega))
    go_wp2_with fail
    refine HC.out.mono ?_
    rintro e w9 ⟨rfl, hx9, hk9⟩
    have HF9 := hide (And.intro hx9 (HK4.out.trans hk9))
    clear hx9 hk9 HC 
    go_wp2
    go_end0
    refine ⟨rfl, ?_, HF9.out.2⟩
    have hx := HF9.out.1
    simpa [sep, rdT, bL, str, List.append_assoc] using hx
  · have hT : oneT G (TX G (m + 1)) x = apF (TX G (m + 1)).F x := by unfold oneT; rw [if_neg hc]
    rw [hT] at hl ⊢
    obtain ⟨FT, hFT⟩ : ∃ FT, apF (TX G (m + 1)).F x = FT := ⟨_, rfl⟩
    rw [hFT] at HA hl ⊢
    generalize hk' : x.kind = k at *
    generalize x.op = o at *
    generalize x.name = nm at *
    generalize x.pos = ps at *
    generalize x.kids.length = KL at *
    obtain ⟨LO, hLO⟩ : ∃ LO, G.lone = LO := ⟨_, rfl⟩
    rw [hLO] at hc
    clear hx hk hs hsx IF hkid hT hk' hFT
    obtain ⟨W1, hW1⟩ : ∃ W1, w.alloc (.cells (sv (k) (o) nm (v1) (v2) (.slice ak KL ck) (ps)) 34) = W1 := ⟨_, rfl⟩
    have hb1 : Below w.heap.size w W1 := by rw [← hW1]; exact alloc_one _ _
    have s1 : W1.heap.size = w.heap.size + 1 := by rw [← hW1]; simp
    have hbx : W1.heap[w.heap.size]? = some (.cells (sv (k) (o) nm (v1) (v2) (.slice ak KL ck) (ps)) 34 (0, 0)) := by rw [← hW1]; exact heap_alloc_new w _
    have hql : w.heap.size ≠ p := Nat.ne_of_gt h.lt
    have H1 := hide (h.next hb1)
    have HK1 := hide (h.wkn hb1)
    have HB1 := hide hbx
    have k0 : W1.cell? ⟨w.heap.size, 0, none⟩ = some (.int .i64 k) := (Lib.cell_of_heap hbx 0).trans rfl
    have k1 : W1.cell? ⟨w.heap.size, 1, none⟩ = some (.int .i64 o) := (Lib.cell_of_heap hbx 1).trans rfl
    have k2 : W1.cell? ⟨w.heap.size, 2, none⟩ = some (.string nm) := (Lib.cell_of_heap hbx 2).trans rfl
    have k3 : W1.cell? ⟨w.heap.size, 3, none⟩ = some (v1) := (Lib.cell_of_heap hbx 3).trans rfl
    have k4 : W1.cell? ⟨w.heap.size, 4, none⟩ = some (v2) := (Lib.cell_of_heap hbx 4).trans rfl
    have k5 : W1.cell? ⟨w.heap.size, 5, none⟩ = some (.slice ak KL ck) := (Lib.cell_of_heap hbx 5).trans rfl
    have k6 : W1.cell? ⟨w.heap.size, 6, none⟩ = some (.int .i64 ps) := (Lib.cell_of_heap hbx 6).trans rfl
    clear hb1 hbx
    obtain ⟨aw, vw, hw⟩ := H1.out.wr
    have c12 : W1.cell? ⟨p, 12, none⟩ = some (.bool LO) := by rw [hw.all.2.1.2.2.1, hLO]
    have HC := hide (HA.out W1 H1.out hl)
    clear hw HA hLO h
    cases LO with
    | false =>
      go_enter Tryd.func39, Tryd.ntmps39
      go_wp2_with fail
      refine HC.out.mono ?_
      rintro e w9 ⟨rfl, hx9, hk9⟩
      have HF9 := hide (And.intro hx9 (HK1.out.trans hk9))
      clear hx9 hk9 HC 
      go_wp2
      go_end0
      refine ⟨rfl, ?_, HF9.out.2⟩
      have hx := HF9.out.1
      simpa [sep, rdT, bL, str, List.append_assoc] using hx
    | true =>
      have h26 : (k != 26) = true := bne_iff_ne.2 (fun h9 => hc ⟨rfl, h9⟩)
      have h26' : (k == 26) = false := beq_eq_false_iff_ne.2 (fun h9 => hc ⟨rfl, h9⟩)
      go_enter Tryd.func39, Tryd.ntmps39
      go_wp2_with fail
      refine HC.out.mono ?_
      rintro e w9 ⟨rfl, hx9, hk9⟩
      have HF9 := hide (And.intro hx9 (HK1.out.trans hk9))
      clear hx9 hk9 HC 
      go_wp2
      go_end0
      refine ⟨rfl, ?_, HF9.out.2⟩
      have hx := HF9.out.1
      simpa [sep, rdT, bL, str, List.append_assoc] using hx
end Go.Proofs.YtneblkdkhlgmcaaDoor
namespace Go.Proofs.YtneblkdkhlgmcaaDoor
open Go.ChangeShapes Go.WideShapes Go.ChangeAt Go.RowKit
set_option maxRecDepth 100000
set_option linter.unusedVariables false
set_option linter.unusedSimpArgs false
def outT (G : Gs) (t : Tx) (x : Nd) : List UInt8 := bL G.outer ++ ([32] ++ (if x.kind = 24 ∨ x.kind = 25 ∨ x.kind = 26 then rdT (t.F x) else t.F x))
set_option maxHeartbeats 4000000 in
theorem outer77 {n m : Nat} {w0 : World} {B p : Nat} {G : Gs} (IF : CF n m w0 B p G) (rt : ByteArray) (bg : Bool) (out : List UInt8) (w : World) (x : Nd) (v : Value) (hx : NdIn m n 0 w0 x v) (hk : okN m true x) (hs : sndA x) (h : St w0 B w p G rt bg out) (hl : out.length + 1 + (outT G (TX G m) x).length ≤ 140737488355328) :
    Calls Tryd.prog 77 #[.pointer (some ⟨p, 0, none⟩), v] w (GvT B p G rt true (out ++ (sep bg ++ outT G (TX G m) x)) w) := by
  obtain ⟨v1, v2, v3, rfl, hv1⟩ := nd_form hx
  have HF := hide (fun bg out w (hst : St w0 B w p G rt bg out) hl => IF rt bg out w x _ hx hk hs hst hl)
  have hse := sep_le bg
  unfold outT at hl ⊢
  obtain ⟨FT, hFT⟩ : ∃ FT, (TX G m).F x = FT := ⟨_, rfl⟩
  rw [hFT] at HF hl ⊢
  generalize x.kind = k at *
  generalize x.op = o at *
  generalize x.name = nm at *
  generalize x.pos = ps at *
  have hob : (bL G.outer).length = G.outer.size := by simp [bL]
  clear hFT hx hk hs IF
  obtain ⟨W1, hW1⟩ : ∃ W1, w.alloc (.cells (sv (k) (o) nm (v1) (v2) (v3) (ps)) 34) = W1 := ⟨_, rfl⟩
  have hb1 : Below w.heap.size w W1 := by rw [← hW1]; exact alloc_one _ _
  have s1 : W1.heap.size = w.heap.size + 1 := by rw [← hW1]; simp
  have hbx : W1.heap[w.heap.size]? = some (.cells (sv (k) (o) nm (v1) (v2) (v3) (ps)) 34 (0, 0)) := by rw [← hW1]; exact heap_alloc_new w _
  have hql : w.heap.size ≠ p := Nat.ne_of_gt h.lt
  have H1 := hide (h.next hb1)
  have HK1 := hide (h.wkn hb1)
  have HB1 := hide hbx
  have k0 : W1.cell? ⟨w.heap.size, 0, none⟩ = some (.int .i64 k) := (Lib.cell_of_heap hbx 0).trans rfl
  have k1 : W1.cell? ⟨w.heap.size, 1, none⟩ = some (.int .i64 o) := (Lib.cell_of_heap hbx 1).trans rfl
  have k2 : W1.cell? ⟨w.heap.size, 2, none⟩ = some (.string nm) := (Lib.cell_of_heap hbx 2).trans rfl
  have k3 : W1.cell? ⟨w.heap.size, 3, none⟩ = some (v1) := (Lib.cell_of_heap hbx 3).trans rfl
  have k4 : W1.cell? ⟨w.heap.size, 4, none⟩ = some (v2) := (Lib.cell_of_heap hbx 4).trans rfl
  have k5 : W1.cell? ⟨w.heap.size, 5, none⟩ = some (v3) := (Lib.cell_of_heap hbx 5).trans rfl
  have k6 : W1.cell? ⟨w.heap.size, 6, none⟩ = some (.int .i64 ps) := (Lib.cell_of_heap hbx 6).trans rfl
  clear hb1 hbx
  obtain ⟨aw, vw, hw⟩ := H1.out.wr
  have c3 : W1.cell? ⟨p, 3, none⟩ = some (.string G.outer) := hw.all.1.1
  have HP := hide (H1.out.put G.outer (by simp only [List.length_append] at hl; omega))
  rw [s1] at HP
  clear hw h
  by_cases hc : k = 24 ∨ k = 25 ∨ k = 26
  · rw [if_pos hc] at hl ⊢
    have hlr : (rdT FT).length = FT.length + 4 := by simp [rdT]
    simp only [List.length_append, List.length_cons, List.length_nil] at hl
    go_enter Tryd.func77, Tryd.ntmps77
    go_wp2_with fail
    refine HP.out.mono ?_
    rintro e w2 g2
    have H2 := hide (H1.out.got g2)
    have HK2 := hide (HK1.out.trans g2.2.2)
    have hb2 := g2.2.2.box HB1.out hql (by decide)
    have HB2 := hide hb2
    obtain rfl := g2.1
    clear g2 k0 k1 k2 k3 k4 k5 k6 c3 HP
    have k0 : w2.cell? ⟨w.heap.size, 0, none⟩ = some (.int .i64 k) := (Lib.cell_of_heap hb2 0).trans rfl
    have k1 : w2.cell? ⟨w.heap.size, 1, none⟩ = some (.int .i64 o) := (Lib.cell_of_heap hb2 1).trans rfl
    have k2 : w2.cell? ⟨w.heap.size, 2, none⟩ = some (.string nm) := (Lib.cell_of_heap hb2 2).trans rfl
    have k3 : w2.cell? ⟨w.heap.size, 3, none⟩ = some (v1) := (Lib.cell_of_heap hb2 3).trans rfl
    have k4 : w2.cell? ⟨w.heap.size, 4, none⟩ = some (v2) := (Lib.cell_of_heap hb2 4).trans rfl
    have k5 : w2.cell? ⟨w.heap.size, 5, none⟩ = some (v3) := (Lib.cell_of_heap hb2 5).trans rfl
    have k6 : w2.cell? ⟨w.heap.size, 6, none⟩ = some (.int .i64 ps) := (Lib.cell_of_heap hb2 6).trans rfl
    clear hb2
    have HC := hide (brack63_61 H2.out FT k o nm v1 v2 v3 hv1 ps (by simp only [List.length_append, hob, hlr, sep_true, List.length_cons, List.length_nil]; omega) (fun w1 out1 hst hb => HF.out true out1 w1 hst hb))
    rcases hc with rfl | rfl | rfl
    · go_wp2_with fail
      refine HC.out.mono ?_
      rintro e w9 ⟨rfl, hx9, hk9⟩
      have HF9 := hide (And.intro hx9 (HK2.out.trans hk9))
      clear hx9 hk9 HC 
      go_wp2
      go_end0
      refine ⟨rfl, ?_, HF9.out.2⟩
      have hx := HF9.out.1
      simpa [sep, rdT, bL, str, List.append_assoc] using hx
    · go_wp2_with fail
      refine HC.out.mono ?_
      rintro e w9 ⟨rfl, hx9, hk9⟩
      have HF9 := hide (And.intro hx9 (HK2.out.trans hk9))
      clear hx9 hk9 HC 
      go_wp2
      go_end0
      refine ⟨rfl, ?_, HF9.out.2⟩
      have hx := HF9.out.1
      simpa [sep, rdT, bL, str, List.append_assoc] using hx
    · go_wp2_with fail
      refine HC.out.mono ?_
      rintro e w9 ⟨rfl, hx9, hk9⟩
      have HF9 := hide (And.intro hx9 (HK2.out.trans hk9))
      clear hx9 hk9 HC 
      go_wp2
      go_end0
      refine ⟨rfl, ?_, HF9.out.2⟩
      have hx := HF9.out.1
      simpa [sep, rdT, bL, str, List.append_assoc] using hx
  · rw [if_neg hc] at hl ⊢
    simp only [List.length_append, List.length_cons, List.length_nil] at hl
    have n1 : (k == 24) = false := beq_eq_false_iff_ne.2 (fun h => hc (Or.inl h))
    have n2 : (k == 25) = false := beq_eq_false_iff_ne.2 (fun h => hc (Or.inr (Or.inl h)))
    have n3 : (k == 26) = false := beq_eq_false_iff_ne.2 (fun h => hc (Or.inr (Or.inr h)))
    go_enter Tryd.func77, Tryd.ntmps77
    go_wp2_with fail
    refine HP.out.mono ?_
    rintro e w2 g2
    have H2 := hide (H1.out.got g2)
    have HK2 := hide (HK1.out.trans g2.2.2)
    have hb2 := g2.2.2.box HB1.out hql (by decide)
    have HB2 := hide hb2
    obtain rfl := g2.1
    clear g2 k0 k1 k2 k3 k4 k5 k6 c3 HP
    have k0 : w2.cell? ⟨w.heap.size, 0, none⟩ = some (.int .i64 k) := (Lib.cell_of_heap hb2 0).trans rfl
    have k1 : w2.cell? ⟨w.heap.size, 1, none⟩ = some (.int .i64 o) := (Lib.cell_of_heap hb2 1).trans rfl
    have k2 : w2.cell? ⟨w.heap.size, 2, none⟩ = some (.string nm) := (Lib.cell_of_heap hb2 2).trans rfl
    have k3 : w2.cell? ⟨w.heap.size, 3, none⟩ = some (v1) := (Lib.cell_of_heap hb2 3).trans rfl
    have k4 : w2.cell? ⟨w.heap.size, 4, none⟩ = some (v2) := (Lib.cell_of_heap hb2 4).trans rfl
    have k5 : w2.cell? ⟨w.heap.size, 5, none⟩ = some (v3) := (Lib.cell_of_heap hb2 5).trans rfl
    have k6 : w2.cell? ⟨w.heap.size, 6, none⟩ = some (.int .i64 ps) := (Lib.cell_of_heap hb2 6).trans rfl
    clear hb2
    have HC := hide (HF.out true _ w2 H2.out (by simp only [List.length_append, hob]; omega))
    go_wp2_with fail
    refine HC.out.mono ?_
    rintro e w9 ⟨rfl, hx9, hk9⟩
    have HF9 := hide (And.intro hx9 (HK2.out.trans hk9))
    clear hx9 hk9 HC 
    go_wp2
    go_end0
    refine ⟨rfl, ?_, HF9.out.2⟩
    have hx := HF9.out.1
    simpa [sep, rdT, bL, str, List.append_assoc] using hx
/-- Another name for the right argument. -/
theorem St.setRt {w0 : World} {B : Nat} {w : World} {p : Nat} {G : Gs} {rt : ByteArray} {bg : Bool} {out : List UInt8} (h : St w0 B w p G rt bg out) (r : ByteArray) : St w0 B (w.setCell ⟨p, 14, none⟩ (.string r)) p G r bg out ∧ Wk B p w (w.setCell ⟨p, 14, none⟩ (.string r)) := by
  obtain ⟨a, v, hw⟩ := h.wr
  have hk := Wr.wk_set (w := w) hw.hB 14 (.string r)
  exact ⟨⟨h.am, h.old.trans (hk.bel.mono h.am.hB), a, v, ⟨hw.hB, hw.ha, by rw [heap_set hw.blk]; rfl, hw.own_set 14 _⟩⟩, hk⟩
def lamR (G : Gs) (k : Int) : ByteArray := if k = 22 ∧ G.lone = true then G.left else G.right
def lamT (G : Gs) (t : Tx) (x : Nd) : List UInt8 := bL G.opn ++ ([32] ++ t.E (lamR G x.kind) (kp x 0)) ++ ([32] ++ bL G.cls)
set_option maxHeartbeats 4000000 in
theorem lambda76 {n m : Nat} {w0 : World} {B p : Nat} {G : Gs} (IE : CE n m w0 B p G) (rt : ByteArray) (bg : Bool) (out : List UInt8) (w : World) (x : Nd) (v : Value) (hx : NdIn (m + 1) n 0 w0 x v) (hk : okN (m + 1) true x) (hkk : x.kind = 22 ∨ x.kind = 23) (hs : sndA x) (h : St w0 B w p G rt bg out) (hl : out.length + 1 + (lamT G (TX G m) x).length ≤ 140737488355328) :
    Calls Tryd.prog 76 #[.pointer (some ⟨p, 0, none⟩), v] w (GvT B p G rt true (out ++ (sep bg ++ lamT G (TX G m) x)) w) := by
  obtain ⟨v1, v2, ak, ck, rfl, hv1, -, hkid⟩ := nd_kids hx
  have hse := sep_le bg
  have hkl : x.kids.length = 1 := by have := hk.1; rcases hkk with h | h <;> (rw [h] at this; unfold arK at this; simp at this; omega)
  obtain ⟨b, off, u1, u2, u3, rfl, hnk, h7⟩ := hkid 0 (by omega)
  have hok := hk.2.2.2 0 (by omega)
  have hfp : fnP x.kind 0 = false := by rcases hkk with h | h <;> (rw [h]; rfl)
  rw [hfp] at hok
  have hsk := hs.kid (i := 0) (by omega)
  have H7 : Hid (∀ W, Below w0.heap.size w0 W → Sv7 W b off (kp x 0).kind (kp x 0).op (kp x 0).name u1 u2 u3 (kp x 0).pos) := hide (by simpa only [Nat.zero_mul, Nat.add_zero] using h7)
  have HE := hide (fun out w (hst : St w0 B w p G (lamR G x.kind) true out) hl => IE (lamR G x.kind) true out w (kp x 0) _ hnk hok hsk hst hl)
  unfold lamT at hl ⊢
  obtain ⟨ET, hET⟩ : ∃ ET, (TX G m).E (lamR G x.kind) (kp x 0) = ET := ⟨_, rfl⟩
  rw [hET] at HE hl ⊢
  rw [hkl]
  simp only [List.length_append, List.length_cons, List.length_nil] at hl
  have hob : (bL G.opn).length = G.opn.size := by simp [bL]
  have hcb : (bL G.cls).length = G.cls.size := by simp [bL]
  have HRR : Hid ((x.kind = 22 ∧ G.lone = true → lamR G x.kind = G.left) ∧ (¬ (x.kind = 22 ∧ G.lone = true) → lamR G x.kind = G.right)) := hide ⟨fun h => if_pos h, fun h => if_neg h⟩
  obtain ⟨R, hR⟩ : ∃ R, lamR G x.kind = R := ⟨_, rfl⟩
  rw [hR] at HE HRR
  generalize (kp x 0).kind = k' at *
  generalize (kp x 0).op = o' at *
  generalize (kp x 0).name = nm' at *
  generalize (kp x 0).pos = ps' at *
  generalize x.kind = k at *
  generalize x.op = o at *
  generalize x.name = nm at *
  generalize x.pos = ps at *
  clear hET hx hk hs IE hnk h7 hok hsk hfp hkl hkid hR
  obtain ⟨W1, hW1⟩ : ∃ W1, w.alloc (.cells (sv (k) (o) nm (v1) (v2) (.slice (some ⟨b, off, none⟩) 1 ck) (ps)) 34) = W1 := ⟨_, rfl⟩
  have hb1 : Below w.heap.size w W1 := by rw [← hW1]; exact alloc_one _ _
  have s1 : W1.heap.size = w.heap.size + 1 := by rw [← hW1]; simp
  have hbx : W1.heap[w.heap.size]? = some (.cells (sv (k) (o) nm (v1) (v2) (.slice (some ⟨b, off, none⟩) 1 ck) (ps)) 34 (0, 0)) := by rw [← hW1]; exact heap_alloc_new w _
  have hql : w.heap.size ≠ p := Nat.ne_of_gt h.lt
  have H1 := hide (h.next hb1)
  have HK1 := hide (h.wkn hb1)
  have HB1 := hide hbx
  have k0 : W1.cell? ⟨w.heap.size, 0, none⟩ = some (.int .i64 k) := (Lib.cell_of_heap hbx 0).trans rfl
  have k1 : W1.cell? ⟨w.heap.size, 1, none⟩ = some (.int .i64 o) := (Lib.cell_of_heap hbx 1).trans rfl
  have k2 : W1.cell? ⟨w.heap.size, 2, none⟩ = some (.string nm) := (Lib.cell_of_heap hbx 2).trans rfl
  have k3 : W1.cell? ⟨w.heap.size, 3, none⟩ = some (v1) := (Lib.cell_of_heap hbx 3).trans rfl
  have k4 : W1.cell? ⟨w.heap.size, 4, none⟩ = some (v2) := (Lib.cell_of_heap hbx 4).trans rfl
  have k5 : W1.cell? ⟨w.heap.size, 5, none⟩ = some (.slice (some ⟨b, off, none⟩) 1 ck) := (Lib.cell_of_heap hbx 5).trans rfl
  have k6 : W1.cell? ⟨w.heap.size, 6, none⟩ = some (.int .i64 ps) := (Lib.cell_of_heap hbx 6).trans rfl
  clear hb1 hbx
  obtain ⟨aw, vw, hw⟩ := H1.out.wr
  obtain ⟨⟨-, -, c5, c6, c7, c8⟩, ⟨-, -, c12, c14⟩, -⟩ := hw.all
  have f14 := hw.frozen 14
  obtain ⟨LO, hLO⟩ : ∃ LO, G.lone = LO := ⟨_, rfl⟩
  rw [hLO] at c12 HRR
  have H2 := hide (H1.out.setRt G.right)
  have hpl := H1.out.lt
  clear hw h hLO
  go_enter Tryd.func76, Tryd.ntmps76
  go_upto_region 3 with fail
  obtain ⟨W2, hW2⟩ : ∃ W2, W1.setCell ⟨p, 14, none⟩ (.string G.right) = W2 := ⟨_, rfl⟩
  rw [hW2] at H2
  try rw [hW2]
  have HK2 := hide (HK1.out.trans H2.out.2)
  have hb2 := H2.out.2.box HB1.out hql (by decide)
  have HB2 := hide hb2
  have H2 := hide H2.out.1
  obtain ⟨aw2, vw2, hw2⟩ := H2.out.wr
  have q7 : W2.cell? ⟨p, 7, none⟩ = some (.string G.left) := hw2.all.1.2.2.2.2.1
  have q12 : W2.cell? ⟨p, 12, none⟩ = some (.bool G.lone) := hw2.all.2.1.2.2.1
  have q14 : W2.cell? ⟨p, 14, none⟩ = some (.string G.right) := hw2.all.2.1.2.2.2
  have f14' := hw2.frozen 14
  have hp2 := H2.out.lt
  have hLO : G.lone = LO := by
    have := hw2.all.2.1.2.2.1
    have e1 := H1.out.wr
    obtain ⟨x1, x2, x3⟩ := e1
    have e2 := x3.all.2.1.2.2.1
    rw [c12] at e2
    cases e2
    rfl
  rw [hLO] at q12
  clear hw2 hW2 c5 c6 c7 c8 c12 c14 f14 hpl hLO k0 k1 k2 k3 k4 k5 k6
  have k0 : W2.cell? ⟨w.heap.size, 0, none⟩ = some (.int .i64 k) := (Lib.cell_of_heap hb2 0).trans rfl
  have k1 : W2.cell? ⟨w.heap.size, 1, none⟩ = some (.int .i64 o) := (Lib.cell_of_heap hb2 1).trans rfl
  have k2 : W2.cell? ⟨w.heap.size, 2, none⟩ = some (.string nm) := (Lib.cell_of_heap hb2 2).trans rfl
  have k3 : W2.cell? ⟨w.heap.size, 3, none⟩ = some (v1) := (Lib.cell_of_heap hb2 3).trans rfl
  have k4 : W2.cell? ⟨w.heap.size, 4, none⟩ = some (v2) := (Lib.cell_of_heap hb2 4).trans rfl
  have k5 : W2.cell? ⟨w.heap.size, 5, none⟩ = some (.slice (some ⟨b, off, none⟩) 1 ck) := (Lib.cell_of_heap hb2 5).trans rfl
  have k6 : W2.cell? ⟨w.heap.size, 6, none⟩ = some (.int .i64 ps) := (Lib.cell_of_heap hb2 6).trans rfl
  clear hb2
  by_cases hc : k = 22 ∧ LO = true
  · obtain ⟨rfl, rfl⟩ := hc
    obtain rfl := HRR.out.1 ⟨rfl, rfl⟩
    have H3 := hide (H2.out.setRt G.left)
    go_upto_region 5 with fail
    obtain ⟨W3, hW3⟩ : ∃ W3, W2.setCell ⟨p, 14, none⟩ (.string G.left) = W3 := ⟨_, rfl⟩
    rw [hW3] at H3
    try rw [hW3]
    have HK3 := hide (HK2.out.trans H3.out.2)
    have hb3 := H3.out.2.box HB2.out hql (by decide)
    have HB3 := hide hb3
    have H3 := hide H3.out.1
    clear q7 q12 q14 f14' hp2 hb3 hW3 H1 HK1 HB1 HRR k0 k1 k2 k3 k4 k5 k6
    obtain ⟨awj, vwj, hwj⟩ := H3.out.wr
    have d5 : W3.cell? ⟨p, 5, none⟩ = some (.string G.opn) := hwj.all.1.2.2.1
    have HP := hide (H3.out.put G.opn (by omega))
    clear hwj H2 HK2 HB2
    go_wp2_with fail
    refine HP.out.mono ?_
    rintro e w4 g4
    have H4 := hide (H3.out.got g4)
    have HK4 := hide (HK3.out.trans g4.2.2)
    have hb4 := g4.2.2.box HB3.out hql (by decide)
    have HB4 := hide hb4
    obtain rfl := g4.1
    clear g4 HP d5
    have k0 : w4.cell? ⟨w.heap.size, 0, none⟩ = some (.int .i64 22) := (Lib.cell_of_heap hb4 0).trans rfl
    have k1 : w4.cell? ⟨w.heap.size, 1, none⟩ = some (.int .i64 o) := (Lib.cell_of_heap hb4 1).trans rfl
    have k2 : w4.cell? ⟨w.heap.size, 2, none⟩ = some (.string nm) := (Lib.cell_of_heap hb4 2).trans rfl
    have k3 : w4.cell? ⟨w.heap.size, 3, none⟩ = some (v1) := (Lib.cell_of_heap hb4 3).trans rfl
    have k4 : w4.cell? ⟨w.heap.size, 4, none⟩ = some (v2) := (Lib.cell_of_heap hb4 4).trans rfl
    have k5 : w4.cell? ⟨w.heap.size, 5, none⟩ = some (.slice (some ⟨b, off, none⟩) 1 ck) := (Lib.cell_of_heap hb4 5).trans rfl
    have k6 : w4.cell? ⟨w.heap.size, 6, none⟩ = some (.int .i64 ps) := (Lib.cell_of_heap hb4 6).trans rfl
    clear hb4
    obtain ⟨y0, y1, y2, y3, y4, y5, y6⟩ := H7.out w4 H4.out.old
    have HC := hide (HE.out _ w4 H4.out (by simp only [List.length_append]; omega))
    go_wp2_with fail
    refine HC.out.mono ?_
    rintro e w5 g5
    have H5 := hide (H4.out.got g5)
    have HK5 := hide (HK4.out.trans g5.2.2)
    have hb5 := g5.2.2.box HB4.out hql (by decide)
    have HB5 := hide hb5
    obtain rfl := g5.1
    clear g5 HC k0 k1 k2 k3 k4 k5 k6 y0 y1 y2 y3 y4 y5 y6 HE
    clear hb5
    obtain ⟨awk, vwk, hwk⟩ := H5.out.wr
    have d6 : w5.cell? ⟨p, 6, none⟩ = some (.string G.cls) := hwk.all.1.2.2.2.1
    have HP := hide (H5.out.put G.cls (by simp only [List.length_append, sep_true, List.length_cons, List.length_nil]; omega))
    clear hwk
    go_wp2_with fail
    refine HP.out.mono ?_
    rintro e w6 g6
    have H6 := hide (H5.out.got g6)
    have HK6 := hide (HK5.out.trans g6.2.2)
    have hb6 := g6.2.2.box HB5.out hql (by decide)
    have HB6 := hide hb6
    obtain rfl := g6.1
    clear g6 HP d6
    clear hb6
    obtain ⟨awl, vwl, hwl⟩ := H6.out.wr
    have f14 := hwl.frozen 14
    have e14 := hwl.all.2.1.2.2.2
    have HZ := hide (H6.out.setRt rt)
    have hpz := H6.out.lt
    clear hwl
    go_wp2
    go_end0
    refine ⟨rfl, ?_, HK6.out.trans HZ.out.2⟩
    have hx := HZ.out.1.wr
    simpa [sep, rdT, bL, str, List.append_assoc] using hx
  · obtain rfl := HRR.out.2 hc
    rcases hkk with rfl | rfl
    · have hLF : LO = false := by cases LO with
        | false => rfl
        | true => exact absurd ⟨rfl, rfl⟩ hc
      subst hLF
      go_upto_region 5 with fail
      clear q7 q12 q14 f14' hp2 H1 HK1 HB1 HRR k0 k1 k2 k3 k4 k5 k6
      obtain ⟨awj, vwj, hwj⟩ := H2.out.wr
      have d5 : W2.cell? ⟨p, 5, none⟩ = some (.string G.opn) := hwj.all.1.2.2.1
      have HP := hide (H2.out.put G.opn (by omega))
      clear hwj 
      go_wp2_with fail
      refine HP.out.mono ?_
      rintro e w3 g3
      have H3 := hide (H2.out.got g3)
      have HK3 := hide (HK2.out.trans g3.2.2)
      have hb3 := g3.2.2.box HB2.out hql (by decide)
      have HB3 := hide hb3
      obtain rfl := g3.1
      clear g3 HP d5
      have k0 : w3.cell? ⟨w.heap.size, 0, none⟩ = some (.int .i64 22) := (Lib.cell_of_heap hb3 0).trans rfl
      have k1 : w3.cell? ⟨w.heap.size, 1, none⟩ = some (.int .i64 o) := (Lib.cell_of_heap hb3 1).trans rfl
      have k2 : w3.cell? ⟨w.heap.size, 2, none⟩ = some (.string nm) := (Lib.cell_of_heap hb3 2).trans rfl
      have k3 : w3.cell? ⟨w.heap.size, 3, none⟩ = some (v1) := (Lib.cell_of_heap hb3 3).trans rfl
      have k4 : w3.cell? ⟨w.heap.size, 4, none⟩ = some (v2) := (Lib.cell_of_heap hb3 4).trans rfl
      have k5 : w3.cell? ⟨w.heap.size, 5, none⟩ = some (.slice (some ⟨b, off, none⟩) 1 ck) := (Lib.cell_of_heap hb3 5).trans rfl
      have k6 : w3.cell? ⟨w.heap.size, 6, none⟩ = some (.int .i64 ps) := (Lib.cell_of_heap hb3 6).trans rfl
      clear hb3
      obtain ⟨y0, y1, y2, y3, y4, y5, y6⟩ := H7.out w3 H3.out.old
      have HC := hide (HE.out _ w3 H3.out (by simp only [List.length_append]; omega))
      go_wp2_with fail
      refine HC.out.mono ?_
      rintro e w4 g4
      have H4 := hide (H3.out.got g4)
      have HK4 := hide (HK3.out.trans g4.2.2)
      have hb4 := g4.2.2.box HB3.out hql (by decide)
      have HB4 := hide hb4
      obtain rfl := g4.1
      clear g4 HC k0 k1 k2 k3 k4 k5 k6 y0 y1 y2 y3 y4 y5 y6 HE
      clear hb4
      obtain ⟨awk, vwk, hwk⟩ := H4.out.wr
      have d6 : w4.cell? ⟨p, 6, none⟩ = some (.string G.cls) := hwk.all.1.2.2.2.1
      have HP := hide (H4.out.put G.cls (by simp only [List.length_append, sep_true, List.length_cons, List.length_nil]; omega))
      clear hwk
      go_wp2_with fail
      refine HP.out.mono ?_
      rintro e w5 g5
      have H5 := hide (H4.out.got g5)
      have HK5 := hide (HK4.out.trans g5.2.2)
      have hb5 := g5.2.2.box HB4.out hql (by decide)
      have HB5 := hide hb5
      obtain rfl := g5.1
      clear g5 HP d6
      clear hb5
      obtain ⟨awl, vwl, hwl⟩ := H5.out.wr
      have f14 := hwl.frozen 14
      have e14 := hwl.all.2.1.2.2.2
      have HZ := hide (H5.out.setRt rt)
      have hpz := H5.out.lt
      clear hwl
      go_wp2
      go_end0
      refine ⟨rfl, ?_, HK5.out.trans HZ.out.2⟩
      have hx := HZ.out.1.wr
      simpa [sep, rdT, bL, str, List.append_assoc] using hx
    · go_upto_region 5 with fail
      clear q7 q12 q14 f14' hp2 H1 HK1 HB1 HRR k0 k1 k2 k3 k4 k5 k6
      obtain ⟨awj, vwj, hwj⟩ := H2.out.wr
      have d5 : W2.cell? ⟨p, 5, none⟩ = some (.string G.opn) := hwj.all.1.2.2.1
      have HP := hide (H2.out.put G.opn (by omega))
      clear hwj 
      go_wp2_with fail
      refine HP.out.mono ?_
      rintro e w3 g3
      have H3 := hide (H2.out.got g3)
      have HK3 := hide (HK2.out.trans g3.2.2)
      have hb3 := g3.2.2.box HB2.out hql (by decide)
      have HB3 := hide hb3
      obtain rfl := g3.1
      clear g3 HP d5
      have k0 : w3.cell? ⟨w.heap.size, 0, none⟩ = some (.int .i64 23) := (Lib.cell_of_heap hb3 0).trans rfl
      have k1 : w3.cell? ⟨w.heap.size, 1, none⟩ = some (.int .i64 o) := (Lib.cell_of_heap hb3 1).trans rfl
      have k2 : w3.cell? ⟨w.heap.size, 2, none⟩ = some (.string nm) := (Lib.cell_of_heap hb3 2).trans rfl
      have k3 : w3.cell? ⟨w.heap.size, 3, none⟩ = some (v1) := (Lib.cell_of_heap hb3 3).trans rfl
      have k4 : w3.cell? ⟨w.heap.size, 4, none⟩ = some (v2) := (Lib.cell_of_heap hb3 4).trans rfl
      have k5 : w3.cell? ⟨w.heap.size, 5, none⟩ = some (.slice (some ⟨b, off, none⟩) 1 ck) := (Lib.cell_of_heap hb3 5).trans rfl
      have k6 : w3.cell? ⟨w.heap.size, 6, none⟩ = some (.int .i64 ps) := (Lib.cell_of_heap hb3 6).trans rfl
      clear hb3
      obtain ⟨y0, y1, y2, y3, y4, y5, y6⟩ := H7.out w3 H3.out.old
      have HC := hide (HE.out _ w3 H3.out (by simp only [List.length_append]; omega))
      go_wp2_with fail
      refine HC.out.mono ?_
      rintro e w4 g4
      have H4 := hide (H3.out.got g4)
      have HK4 := hide (HK3.out.trans g4.2.2)
      have hb4 := g4.2.2.box HB3.out hql (by decide)
      have HB4 := hide hb4
      obtain rfl := g4.1
      clear g4 HC k0 k1 k2 k3 k4 k5 k6 y0 y1 y2 y3 y4 y5 y6 HE
      clear hb4
      obtain ⟨awk, vwk, hwk⟩ := H4.out.wr
      have d6 : w4.cell? ⟨p, 6, none⟩ = some (.string G.cls) := hwk.all.1.2.2.2.1
      have HP := hide (H4.out.put G.cls (by simp only [List.length_append, sep_true, List.length_cons, List.length_nil]; omega))
      clear hwk
      go_wp2_with fail
      refine HP.out.mono ?_
      rintro e w5 g5
      have H5 := hide (H4.out.got g5)
      have HK5 := hide (HK4.out.trans g5.2.2)
      have hb5 := g5.2.2.box HB4.out hql (by decide)
      have HB5 := hide hb5
      obtain rfl := g5.1
      clear g5 HP d6
      clear hb5
      obtain ⟨awl, vwl, hwl⟩ := H5.out.wr
      have f14 := hwl.frozen 14
      have e14 := hwl.all.2.1.2.2.2
      have HZ := hide (H5.out.setRt rt)
      have hpz := H5.out.lt
      clear hwl
      go_wp2
      go_end0
      refine ⟨rfl, ?_, HK5.out.trans HZ.out.2⟩
      have hx := HZ.out.1.wr
      simpa [sep, rdT, bL, str, List.append_assoc] using hx
theorem nd_slices {m n lo : Nat} {w : World} {x : Nd} {k o : Int} {nm : ByteArray} {u1 u2 u3 : Value} {ps : Int} (h : NdIn m n lo w x (.agg (sv k o nm u1 u2 u3 ps))) : (∃ a l c, u1 = .slice a l c) ∧ (∃ a l c, u2 = .slice a l c) ∧ ∃ a l c, u3 = .slice a l c := by
  cases m with
  | zero => exact h.elim
  | succ m =>
    obtain ⟨a1, c1, a2, c2, ak, ck, hv, -⟩ := h
    unfold ndV at hv
    simp only [Value.agg.injEq, Array.mk.injEq, List.cons.injEq] at hv
    exact ⟨⟨_, _, _, hv.2.2.2.1⟩, ⟨_, _, _, hv.2.2.2.2.1⟩, ⟨_, _, _, hv.2.2.2.2.2.1⟩⟩
/-- The first parts, a blank ahead of each. -/
def trT (F : Nd → List UInt8) (x : Nd) (j : Nat) : List UInt8 := (List.range j).flatMap fun i => [32] ++ F (kp x i)
theorem trT_step (F : Nd → List UInt8) (x : Nd) (j : Nat) : trT F x (j + 1) = trT F x j ++ ([32] ++ F (kp x j)) := by
  unfold trT
  rw [List.range_succ, List.flatMap_append]
  simp
theorem trT_le (F : Nd → List UInt8) (x : Nd) {j k : Nat} (h : j ≤ k) : (trT F x j).length ≤ (trT F x k).length := by
  induction h with
  | refl => exact Nat.le_refl _
  | step _ ih => rw [trT_step, List.length_append]; omega
set_option maxHeartbeats 4000000 in
theorem train78 {n m : Nat} {w0 : World} {B p : Nat} {G : Gs} (IF : CF n m w0 B p G) (rt : ByteArray) (bg : Bool) (out : List UInt8) (w : World) (x : Nd) (ak : Option Addr) (KL ck : Nat) (hKL : KL ≤ 1000)
    (hkid : ∀ j, j < KL → ∃ b off u1 u2 u3, ak = some ⟨b, off, none⟩ ∧ NdIn m n 0 w0 (kp x j) (.agg (sv (kp x j).kind (kp x j).op (kp x j).name u1 u2 u3 (kp x j).pos)) ∧ ∀ W, Below w0.heap.size w0 W → Sv7 W b (off + j * 7) (kp x j).kind (kp x j).op (kp x j).name u1 u2 u3 (kp x j).pos)
    (hok : ∀ j, j < KL → okN m true (kp x j)) (hs : ∀ j, j < KL → sndA (kp x j)) (h : St w0 B w p G rt bg out) (hl : out.length + 1 + (trT (TX G m).F x KL).length + 3 ≤ 140737488355328) :
    Calls Tryd.prog 78 #[.pointer (some ⟨p, 0, none⟩), .slice ak KL ck] w (GvT B p G rt true (out ++ (sep bg ++ (40 :: (trT (TX G m).F x KL ++ [32, 41])))) w) := by
  have hse := sep_le bg
  have HKID := hide hkid
  have HF := hide (fun j (hj : j < KL) out w (hst : St w0 B w p G rt true out) u1 u2 u3 (hn : NdIn m n 0 w0 (kp x j) (.agg (sv (kp x j).kind (kp x j).op (kp x j).name u1 u2 u3 (kp x j).pos))) hl => IF rt true out w (kp x j) _ hn (hok j hj) (hs j hj) hst hl)
  have HST := hide (fun j => trT_step (TX G m).F x j)
  have HLE := hide (fun j (hj : j ≤ KL) => trT_le (TX G m).F x hj)
  have hs1 : (⟨#[40]⟩ : ByteArray).size = 1 := rfl
  have hs2 : (⟨#[41]⟩ : ByteArray).size = 1 := rfl
  have HP := hide (h.put ⟨#[40]⟩ (by omega))
  have H0 := hide h
  have HT0 : Hid (trT (TX G m).F x 0 = []) := rfl
  obtain ⟨TR, hTR⟩ : ∃ TR, (fun j => trT (TX G m).F x j) = TR := ⟨_, rfl⟩
  have HTR : ∀ j, trT (TX G m).F x j = TR j := fun j => by rw [← hTR]
  simp only [HTR] at HST HLE hl HT0 ⊢
  clear hkid hok hs IF h hTR HTR
  go_enter Tryd.func78, Tryd.ntmps78
  go_wp2_with fail
  refine HP.out.mono ?_
  rintro e w1 g1
  have H1 := hide (H0.out.got g1)
  have HK1 := hide g1.2.2
  obtain rfl := g1.1
  clear g1 HP
  go_wp2
  go_loopw [11] (fun i wr => ∃ j : Nat, j ≤ KL ∧ i = .int .i64 j ∧ St w0 B wr p G rt true (out ++ (sep bg ++ [40]) ++ TR j) ∧ Wk B p w wr) (fun i _ => KL - (match i with | .int _ z => z.toNat | _ => 0))
  case atStart => exact ⟨0, Nat.zero_le _, rfl, by rw [HT0.out, List.append_nil]; exact H1.out, HK1.out⟩
  case round =>
    obtain ⟨j, hj, rfl, hst, hwk⟩ := hrel
    have HS := hide hst
    have HW := hide hwk
    clear hst hwk
    by_cases hlt : j < KL
    · obtain ⟨b, off, u1, u2, u3, rfl, hn, h7⟩ := HKID.out j hlt
      obtain ⟨⟨d1, l1, e1, rfl⟩, ⟨d2, l2, e2, rfl⟩, ⟨d3, l3, e3, rfl⟩⟩ := nd_slices hn
      obtain ⟨y0, y1, y2, y3, y4, y5, y6⟩ := h7 wr HS.out.old
      have hle := HLE.out (j + 1) hlt
      rw [HST.out j, List.length_append, List.length_append] at hle
      have hb1 := alloc_one wr (.cells (sv (kp x j).kind (kp x j).op (kp x j).name (.slice d1 l1 e1) (.slice d2 l2 e2) (.slice d3 l3 e3) (kp x j).pos) 34)
      have HC := hide (HF.out j hlt _ _ (HS.out.next hb1) _ _ _ hn (by simp only [List.length_append, List.length_cons, List.length_nil] at hle ⊢; omega))
      have HKB := hide (HW.out.trans (HS.out.wkn hb1))
      have HS1 := hide (HS.out.next hb1)
      have HE := hide (HST.out j)
      obtain ⟨FT, hFT⟩ : ∃ FT, (TX G m).F (kp x j) = FT := ⟨_, rfl⟩
      rw [hFT] at HC HE
      generalize (kp x j).kind = k' at *
      generalize (kp x j).op = o' at *
      generalize (kp x j).name = nm' at *
      generalize (kp x j).pos = ps' at *
      clear hn h7 hb1 hFT hle HF HKID HST HLE HS HW
      go_wp2_with fail
      refine HC.out.mono ?_
      rintro e w2 g2
      have H2 := hide (HS1.out.got g2)
      have HK2 := hide (HKB.out.trans g2.2.2)
      obtain rfl := g2.1
      clear g2 HC y0 y1 y2 y3 y4 y5 y6
      go_wp2
      refine ⟨⟨j + 1, by omega, by go_num, ?_, HK2.out⟩, ?_⟩
      · have hx := H2.out
        rw [HE.out]
        simpa [sep, List.append_assoc] using hx
      · show KL - _ < KL - _
        simp
        omega
    · have hje : j = KL := by omega
      subst hje
      have HC := hide (HS.out.put ⟨#[41]⟩ (by simp only [List.length_append, List.length_cons, List.length_nil, sep_true]; omega))
      clear HF HKID HST HLE
      go_wp2_with fail
      refine HC.out.mono ?_
      rintro e w9 ⟨rfl, hx9, hk9⟩
      have HF9 := hide (And.intro hx9 (HW.out.trans hk9))
      clear hx9 hk9 HC
      go_wp2
      go_end0
      refine ⟨rfl, ?_, HF9.out.2⟩
      have hx := HF9.out.1
      simpa [sep, rdT, bL, str, List.append_assoc] using hx
end Go.Proofs.YtneblkdkhlgmcaaDoor
