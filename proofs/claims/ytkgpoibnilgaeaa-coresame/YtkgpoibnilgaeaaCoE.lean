/-
  Literals: whether an array can be written as it is, by both; for all arrays.
-/
import Derived.Test.YtkgpoibnilgaeaaCoB
import Derived.Deep.LoopGhost
import Derived.BigQuiet
import Derived.Deep.QuietTactic
namespace Go.Proofs.Ytkgpoibnilgaeaa
open Go.ChangeShapes Go.WideShapes Go.ChangeAt Go.RowKit
set_option linter.unusedVariables false
set_option linter.unusedSimpArgs false
def atomL (x : Ar) : Bool := decide (x.shape.length = 0) || (decide (x.shape.length = 1) && !decide (x.shape[0]?.getD 0 = 1))
def numC (c : Ce) : Bool := decide (c.1 = 0)
def plC (c : Ce) : Bool := decide (c.1 = 1) && (decide (32 ≤ c.2.1) && !decide (c.2.1 = 127))
def allC (p : Ce → Bool) (cs : List Ce) : Bool := !anyUp (fun i => !p (cAt cs i)) cs.length
/-- Can an array be written as it is? -/
def litB (x : Ar) : Bool := atomL x && (allC numC x.cells || allC plC x.cells) && decide (chkA 8 x = 0)
def badC (x : Ar) (i : Nat) : Bool := decide ((cAt x.cells i).1 ≠ (cAt x.cells 0).1) || decide ((cAt x.cells i).1 = 2) || (decide ((cAt x.cells i).1 = 1) && (decide ((cAt x.cells i).2.1 < 32) || decide ((cAt x.cells i).2.1 = 127)))
theorem chk_kinds {x : Ar} (h : chkA 8 x = 0) (i : Nat) (hi : i < x.cells.length) : (cAt x.cells i).1 = 0 ∨ (cAt x.cells i).1 = 1 ∨ (cAt x.cells i).1 = 2 := by
  change chkB (chkA 7) x = 0 at h
  unfold chkB at h
  split at h
  · omega
  split at h
  · omega
  split at h
  · omega
  have h1 := firstUp_zero h (i + 1) hi
  have h2 := firstUp_zero h i (by omega)
  rw [firstUp_step h2] at h1
  unfold chkF chkC at h1
  split at h1
  · omega
  split at h1
  · omega
  · omega
theorem allC_iff {p : Ce → Bool} {cs : List Ce} : allC p cs = true ↔ ∀ i, i < cs.length → p (cAt cs i) = true := by
  unfold allC
  rw [Bool.not_eq_true', anyUp_none]
  constructor
  · intro h i hi; have := h i hi; simpa using this
  · intro h i hi; simp [h i hi]
theorem lit_doc (x : Ar) : (decide (chkA 8 x = 0) && atomL x && !anyUp (badC x) x.cells.length) = litB x := by
  unfold litB
  by_cases hc : chkA 8 x = 0
  · have hk := chk_kinds hc
    simp only [hc, decide_true, Bool.true_and, Bool.and_true]
    cases atomL x
    · simp
    · simp only [Bool.true_and]
      rw [Bool.eq_iff_iff, Bool.not_eq_true', anyUp_none, Bool.or_eq_true, allC_iff, allC_iff]
      constructor
      · intro h
        by_cases h0 : x.cells.length = 0
        · exact Or.inl fun i hi => by omega
        · have hb := h 0 (by omega)
          have k0 := hk 0 (by omega)
          simp only [badC, Bool.or_eq_false_iff, Bool.and_eq_false_iff, decide_eq_false_iff_not] at hb
          rcases k0 with k0 | k0 | k0
          · refine Or.inl fun i hi => ?_
            have := h i hi
            simp only [badC, Bool.or_eq_false_iff, decide_eq_false_iff_not, Decidable.not_not] at this
            simp [numC, this.1.1, k0]
          · refine Or.inr fun i hi => ?_
            have := h i hi
            simp only [badC, Bool.or_eq_false_iff, Bool.and_eq_false_iff, decide_eq_false_iff_not, Decidable.not_not] at this
            have k : (cAt x.cells i).1 = 1 := by rw [this.1.1, k0]
            rcases this.2 with t | ⟨t1, t2⟩
            · exact absurd k t
            · simp only [plC, k, decide_true, Bool.true_and, Bool.and_eq_true, decide_eq_true_eq, Bool.not_eq_true', decide_eq_false_iff_not]
              exact ⟨by omega, t2⟩
          · exact absurd k0 hb.1.2
      · intro h i hi
        rcases h with h | h
        · have a := h i hi
          have b := h 0 (by omega)
          simp only [numC, decide_eq_true_eq] at a b
          simp [badC, a, b]
        · have a := h i hi
          have b := h 0 (by omega)
          simp only [plC, Bool.and_eq_true, decide_eq_true_eq, Bool.not_eq_true', decide_eq_false_iff_not] at a b
          simp only [badC, a.1, b.1, Bool.or_eq_false_iff, Bool.and_eq_false_iff, decide_eq_false_iff_not]
          exact ⟨⟨by omega, by omega⟩, Or.inr ⟨by omega, a.2.2⟩⟩
  · simp [hc]
set_option maxHeartbeats 1000000 in
theorem isNum39 (c : Ce) (v2 : Value) (a : Option Addr) (l cc : Nat) (hv : v2 = .slice a l cc) (w : World) : Calls Try.prog 39 #[.agg #[.int .i64 c.1, .int .i64 c.2.1, v2]] w fun e w' => e = .returned (.bool (numC c)) ∧ Below w.heap.size w w' := by
  subst hv
  unfold numC
  have hb := fun z1 z2 => one_alloc w (.cells #[.int .i64 z1, .int .i64 z2, .slice a l cc] 60)
  generalize c.1 = K
  generalize c.2.1 = Z
  go_enter Try.func39, Try.ntmps39
  go_wp2
  go_ret
  exact ⟨retB (by rw [Bool.eq_iff_iff]; simp), hb _ _⟩
set_option maxHeartbeats 1000000 in
theorem isPl40 (c : Ce) (v2 : Value) (a : Option Addr) (l cc : Nat) (hv : v2 = .slice a l cc) (w : World) : Calls Try.prog 40 #[.agg #[.int .i64 c.1, .int .i64 c.2.1, v2]] w fun e w' => e = .returned (.bool (plC c)) ∧ Below w.heap.size w w' := by
  subst hv
  unfold plC
  have hb := fun z1 z2 => one_alloc w (.cells #[.int .i64 z1, .int .i64 z2, .slice a l cc] 60)
  generalize c.1 = K
  generalize c.2.1 = Z
  by_cases k1 : K = 1
  · subst k1
    by_cases k2 : 32 ≤ Z
    · have k2' : decide (32 ≤ Z) = true := by simp [k2]
      by_cases k3 : Z = 127
      · subst k3
        go_enter Try.func40, Try.ntmps40
        go_wp2
        go_ret
        exact ⟨retB (by simp), hb _ _⟩
      · have k3' : (Z == 127) = false := beq_eq_false_iff_ne.2 k3
        go_enter Try.func40, Try.ntmps40
        go_wp2
        go_ret
        exact ⟨retB (by simp [k3, k2]), hb _ _⟩
    · have k2' : decide (32 ≤ Z) = false := by simp [k2]
      go_enter Try.func40, Try.ntmps40
      go_wp2
      go_ret
      exact ⟨retB (by simp [k2]), hb _ _⟩
  · have k1' : (K == 1) = false := beq_eq_false_iff_ne.2 k1
    go_enter Try.func40, Try.ntmps40
    go_wp2
    go_ret
    exact ⟨retB (by simp [k1]), hb _ _⟩

set_option maxHeartbeats 2000000 in
theorem all39 {n lo : Nat} (cs : List Ce) (a2 : Option Addr) (c2 : Nat) (w : World) (hl : cs.length ≤ 5864062014805) (hc : CellsIn n lo w cs a2) :
    Calls Try.prog 38 #[.slice a2 cs.length c2, .func (.func 39) #[] #[]] w fun e w' => e = .returned (.bool (allC numC cs)) ∧ Below w.heap.size w w' := by
  have HB : Hid (∀ i, i < cs.length → ∃ b off z0 z1 ab nb cb, a2 = some ⟨b, off, none⟩ ∧ ∀ wr, Below w.heap.size w wr → wr.cell? ⟨b, off + i * 3, none⟩ = some (.int .i64 z0) ∧ wr.cell? ⟨b, off + i * 3 + 1, none⟩ = some (.int .i64 z1) ∧ wr.cell? ⟨b, off + i * 3 + 2, none⟩ = some (.slice ab nb cb) ∧ ∀ w, Calls Try.prog 39 #[.agg #[.int .i64 z0, .int .i64 z1, .slice ab nb cb]] w fun e w' => e = .returned (.bool (numC (cAt cs i))) ∧ Below w.heap.size w w') := by
    intro i hi
    obtain ⟨b, off, z0, z1, ab, nb, cb, ha, hw⟩ := cells_at hc i hi
    refine ⟨b, off, z0, z1, ab, nb, cb, ha, fun wr hwr => ?_⟩
    obtain ⟨g0, g1, g2, g3⟩ := hw wr hwr
    obtain ⟨e0, e1, -⟩ := g3
    injection e0 with _ e0
    injection e1 with _ e1
    exact ⟨g0, g1, g2, fun w => by rw [e0, e1]; exact isNum39 (cAt cs i) _ ab nb cb rfl w⟩
  clear hc
  have HHIT : Hid (∀ j, j < cs.length → numC (cAt cs j) = false → allC numC cs = false) := fun j hj h => by
    unfold allC
    rw [anyUp_hit hj (by simp [h])]
    rfl
  have HNO : Hid ((∀ j, j < cs.length → numC (cAt cs j) = true) → allC numC cs = true) := fun h => allC_iff.2 h
  generalize hF : (fun i => numC (cAt cs i)) = F at *
  have HF : Hid (∀ j, numC (cAt cs j) = F j) := fun j => by rw [← hF]
  clear hF
  generalize allC numC cs = Z at *
  generalize cs.length = L at *
  go_enter Try.func38, Try.ntmps38
  go_wp2
  go_loopg [9] L (fun g i wr => ∃ (j : Nat), g + j = L ∧ i = .int .i64 (j : Int) ∧ (∀ i, i < j → F i = true) ∧ Below w.heap.size w wr)
  case atStart => exact ⟨0, rfl, rfl, (by intro i hi; omega), Below.refl _ _⟩
  case round =>
    obtain ⟨j, hj, rfl, hno, hnx⟩ := hrel
    have HN := hide hno
    clear hno
    by_cases hlt : j < L
    · obtain ⟨b, off, z0, z1, ab, nb, cb, rfl, hw⟩ := HB.out j hlt
      obtain ⟨g0, g1, g2, C⟩ := hw wr hnx
      have hb2 : Below w.heap.size w (wr.alloc (.cells #[.int .i64 z0, .int .i64 z1, .slice ab nb cb] 60)) := hnx.alloc hnx.size _
      have HB2 := hide hb2
      rw [HF.out j] at C
      have HC := hide C
      have HH := hide (HHIT.out j hlt)
      rw [HF.out j] at HH
      clear C hw HB HHIT HNO HF hb2
      cases hFJ : F j with
      | true =>
        rw [hFJ] at HC
        have HFJ := hide hFJ
        clear hFJ HH
        go_wp2_with fail
        refine (HC.out _).mono ?_
        rintro e w1 ⟨rfl, hb1⟩
        clear HC
        go_wp2
        go_roundg (L - (j + 1))
        case rel =>
          refine ⟨j + 1, by omega, by go_num, fun i hi => ?_, HB2.out.trans (hb1.mono HB2.out.size)⟩
          rcases Nat.lt_succ_iff_lt_or_eq.1 hi with hi | rfl
          · exact HN.out i hi
          · exact HFJ.out
        case measure => omega
      | false =>
        rw [hFJ] at HC
        have HZ := hide (HH.out hFJ)
        clear hFJ HH HN
        go_wp2_with fail
        refine (HC.out _).mono ?_
        rintro e w1 ⟨rfl, hb1⟩
        clear HC
        go_wp2
        go_ret
        exact ⟨retB HZ.out.symm, HB2.out.trans (hb1.mono HB2.out.size)⟩
    · have hje : j = L := by omega
      subst hje
      have HZ := hide (HNO.out fun i hi => by rw [HF.out i]; exact HN.out i hi)
      clear HB HHIT HNO HN HF
      go_wp2
      go_ret
      exact ⟨retB HZ.out.symm, hnx⟩

set_option maxHeartbeats 2000000 in
theorem all40 {n lo : Nat} (cs : List Ce) (a2 : Option Addr) (c2 : Nat) (w : World) (hl : cs.length ≤ 5864062014805) (hc : CellsIn n lo w cs a2) :
    Calls Try.prog 38 #[.slice a2 cs.length c2, .func (.func 40) #[] #[]] w fun e w' => e = .returned (.bool (allC plC cs)) ∧ Below w.heap.size w w' := by
  have HB : Hid (∀ i, i < cs.length → ∃ b off z0 z1 ab nb cb, a2 = some ⟨b, off, none⟩ ∧ ∀ wr, Below w.heap.size w wr → wr.cell? ⟨b, off + i * 3, none⟩ = some (.int .i64 z0) ∧ wr.cell? ⟨b, off + i * 3 + 1, none⟩ = some (.int .i64 z1) ∧ wr.cell? ⟨b, off + i * 3 + 2, none⟩ = some (.slice ab nb cb) ∧ ∀ w, Calls Try.prog 40 #[.agg #[.int .i64 z0, .int .i64 z1, .slice ab nb cb]] w fun e w' => e = .returned (.bool (plC (cAt cs i))) ∧ Below w.heap.size w w') := by
    intro i hi
    obtain ⟨b, off, z0, z1, ab, nb, cb, ha, hw⟩ := cells_at hc i hi
    refine ⟨b, off, z0, z1, ab, nb, cb, ha, fun wr hwr => ?_⟩
    obtain ⟨g0, g1, g2, g3⟩ := hw wr hwr
    obtain ⟨e0, e1, -⟩ := g3
    injection e0 with _ e0
    injection e1 with _ e1
    exact ⟨g0, g1, g2, fun w => by rw [e0, e1]; exact isPl40 (cAt cs i) _ ab nb cb rfl w⟩
  clear hc
  have HHIT : Hid (∀ j, j < cs.length → plC (cAt cs j) = false → allC plC cs = false) := fun j hj h => by
    unfold allC
    rw [anyUp_hit hj (by simp [h])]
    rfl
  have HNO : Hid ((∀ j, j < cs.length → plC (cAt cs j) = true) → allC plC cs = true) := fun h => allC_iff.2 h
  generalize hF : (fun i => plC (cAt cs i)) = F at *
  have HF : Hid (∀ j, plC (cAt cs j) = F j) := fun j => by rw [← hF]
  clear hF
  generalize allC plC cs = Z at *
  generalize cs.length = L at *
  go_enter Try.func38, Try.ntmps38
  go_wp2
  go_loopg [9] L (fun g i wr => ∃ (j : Nat), g + j = L ∧ i = .int .i64 (j : Int) ∧ (∀ i, i < j → F i = true) ∧ Below w.heap.size w wr)
  case atStart => exact ⟨0, rfl, rfl, (by intro i hi; omega), Below.refl _ _⟩
  case round =>
    obtain ⟨j, hj, rfl, hno, hnx⟩ := hrel
    have HN := hide hno
    clear hno
    by_cases hlt : j < L
    · obtain ⟨b, off, z0, z1, ab, nb, cb, rfl, hw⟩ := HB.out j hlt
      obtain ⟨g0, g1, g2, C⟩ := hw wr hnx
      have hb2 : Below w.heap.size w (wr.alloc (.cells #[.int .i64 z0, .int .i64 z1, .slice ab nb cb] 60)) := hnx.alloc hnx.size _
      have HB2 := hide hb2
      rw [HF.out j] at C
      have HC := hide C
      have HH := hide (HHIT.out j hlt)
      rw [HF.out j] at HH
      clear C hw HB HHIT HNO HF hb2
      cases hFJ : F j with
      | true =>
        rw [hFJ] at HC
        have HFJ := hide hFJ
        clear hFJ HH
        go_wp2_with fail
        refine (HC.out _).mono ?_
        rintro e w1 ⟨rfl, hb1⟩
        clear HC
        go_wp2
        go_roundg (L - (j + 1))
        case rel =>
          refine ⟨j + 1, by omega, by go_num, fun i hi => ?_, HB2.out.trans (hb1.mono HB2.out.size)⟩
          rcases Nat.lt_succ_iff_lt_or_eq.1 hi with hi | rfl
          · exact HN.out i hi
          · exact HFJ.out
        case measure => omega
      | false =>
        rw [hFJ] at HC
        have HZ := hide (HH.out hFJ)
        clear hFJ HH HN
        go_wp2_with fail
        refine (HC.out _).mono ?_
        rintro e w1 ⟨rfl, hb1⟩
        clear HC
        go_wp2
        go_ret
        exact ⟨retB HZ.out.symm, HB2.out.trans (hb1.mono HB2.out.size)⟩
    · have hje : j = L := by omega
      subst hje
      have HZ := hide (HNO.out fun i hi => by rw [HF.out i]; exact HN.out i hi)
      clear HB HHIT HNO HN HF
      go_wp2
      go_ret
      exact ⟨retB HZ.out.symm, hnx⟩

theorem atomL_0 {x : Ar} (h : x.shape.length = 0) : atomL x = true := by simp [atomL, h]
theorem atomL_1 {x : Ar} (h : x.shape.length = 1) : atomL x = !decide (x.shape[0]?.getD 0 = 1) := by simp [atomL, h]
theorem atomL_2 {x : Ar} (h : ¬ x.shape.length = 0) (h' : ¬ x.shape.length = 1) : atomL x = false := by simp [atomL, h, h']
set_option maxHeartbeats 1000000 in
theorem atom37 {lo : Nat} (x : Ar) (a1 : Option Addr) (c1 : Nat) (a2 : Option Addr) (L2 c2 : Nat) (w : World) (R : Row lo w a1 x.shape) :
    Calls Try.prog 37 #[.agg #[.slice a1 x.shape.length c1, .slice a2 L2 c2]] w fun e w' => e = .returned (.bool (atomL x)) ∧ Below w.heap.size w w' := by
  have hb := fun l => one_alloc w (.cells #[.slice a1 l c1, .slice a2 L2 c2] 25)
  by_cases h0 : x.shape.length = 0
  · rw [atomL_0 h0, h0]
    go_enter Try.func37, Try.ntmps37
    go_wp2
    go_ret
    exact ⟨rfl, hb _⟩
  by_cases h1 : x.shape.length = 1
  · rw [atomL_1 h1]
    obtain ⟨b, off, rfl, hbb, hc⟩ := row_at R (j := 0) (by omega)
    rw [h1]
    have hc2 := cell_one hc hbb (.cells #[.slice (some ⟨b, off, none⟩) 1 c1, .slice a2 L2 c2] 25)
    simp only [Nat.add_zero] at hc hc2
    generalize x.shape[0]?.getD 0 = Z at *
    clear R h0 h1
    go_enter Try.func37, Try.ntmps37
    go_wp2
    go_ret
    exact ⟨retB (by rw [Bool.eq_iff_iff]; simp), hb _⟩
  · rw [atomL_2 h0 h1]
    have h0' : ((x.shape.length : Int) == 0) = false := beq_eq_false_iff_ne.2 (by omega)
    have h1' : ((x.shape.length : Int) == 1) = false := beq_eq_false_iff_ne.2 (by omega)
    generalize x.shape.length = SA at *
    go_enter Try.func37, Try.ntmps37
    go_wp2
    go_ret
    exact ⟨rfl, hb _⟩
theorem litB_a {x : Ar} (h : atomL x = false) : litB x = false := by simp [litB, h]
theorem litB_b {x : Ar} (h1 : allC numC x.cells = false) (h2 : allC plC x.cells = false) : litB x = false := by simp [litB, h1, h2]
theorem litB_c {x : Ar} (h : atomL x = true) (h1 : allC numC x.cells = true ∨ allC plC x.cells = true) : litB x = decide (chkA 8 x = 0) := by
  rcases h1 with h1 | h1 <;> simp [litB, h, h1]
set_option maxHeartbeats 2000000 in
theorem lit17 {n lo : Nat} (x : Ar) (va : Value) (w : World) (hx : ArIn n lo w x va) : Calls Try.prog 17 #[va] w fun e w' => e = .returned (.bool (litB x)) ∧ Below w.heap.size w w' := by
  have CK : ∀ wr, Below w.heap.size w wr → Calls Try.prog 41 #[va] wr fun e w' => e = .returned (.int .i64 (chkA 8 x)) ∧ Below wr.heap.size wr w' := fun wr hw => check_any n x lo va wr (hx.next hw)
  cases n with
  | zero => exact hx.elim
  | succ n =>
  obtain ⟨a1, c1, a2, c2, rfl, R, hl, hc⟩ := hx
  have hb0 := one_alloc w (.cells #[.slice a1 x.shape.length c1, .slice a2 x.cells.length c2] 25)
  have q0 := cell_new0 w #[.slice a1 x.shape.length c1, .slice a2 x.cells.length c2] 25 0 _ rfl
  have q1 := cell_new0 w #[.slice a1 x.shape.length c1, .slice a2 x.cells.length c2] 25 1 _ rfl
  have CA := hide (fun wr (hw : Below w.heap.size w wr) => atom37 x a1 c1 a2 x.cells.length c2 wr (R.next hw))
  have CN := hide (fun wr (hw : Below w.heap.size w wr) => all39 (n := n) (lo := lo) x.cells a2 c2 wr hl ((show CellsIn n lo w x.cells a2 from hc).mono (Nat.le_refl _) hw))
  have CP := hide (fun wr (hw : Below w.heap.size w wr) => all40 (n := n) (lo := lo) x.cells a2 c2 wr hl ((show CellsIn n lo w x.cells a2 from hc).mono (Nat.le_refl _) hw))
  have HCK := hide CK
  have HQ := hide (And.intro hb0 (And.intro q0 (And.intro q1 (show w.heap.size < (w.alloc (.cells #[.slice a1 x.shape.length c1, .slice a2 x.cells.length c2] 25)).heap.size by simp))))
  clear R hc CK
  have HLA : Hid (atomL x = false → litB x = false) := litB_a
  have HLB : Hid (allC numC x.cells = false → allC plC x.cells = false → litB x = false) := litB_b
  have HLC : Hid (atomL x = true → (allC numC x.cells = true ∨ allC plC x.cells = true) → litB x = decide (chkA 8 x = 0)) := litB_c
  generalize chkA 8 x = CH at *
  generalize litB x = Z at *
  generalize x.shape.length = SA at *
  generalize hLN : x.cells.length = LN at *
  generalize allC numC x.cells = AN at *
  generalize allC plC x.cells = AP at *
  generalize atomL x = AT at *
  clear hLN
  cases AT
  · have HZ := hide (HLA.out rfl)
    go_enter Try.func17, Try.ntmps17
    go_wp2_with fail
    refine (CA.out _ hb0).mono ?_
    rintro e w1 ⟨rfl, hb1⟩
    go_wp2
    go_ret
    exact ⟨retB HZ.out.symm, hb0.trans (hb1.mono hb0.size)⟩
  · go_enter Try.func17, Try.ntmps17
    go_wp2_with fail
    refine (CA.out _ hb0).mono ?_
    rintro e w1 ⟨rfl, hb1⟩
    have hw1 := hb0.trans (hb1.mono hb0.size)
    have q10 := (hb1.cell (p := ⟨w.heap.size, 0, none⟩) HQ.out.2.2.2).trans q0
    have q11 := (hb1.cell (p := ⟨w.heap.size, 1, none⟩) HQ.out.2.2.2).trans q1
    have hs1 := Nat.lt_of_lt_of_le HQ.out.2.2.2 hb1.size
    have HS1 := hide hs1
    clear q0 q1 CA hb1 hb0 hs1
    cases AN
    · cases AP
      · have HZ := hide (HLB.out (by first | trivial | rfl) (by first | trivial | rfl))
        go_wp2_with fail
        refine (CN.out _ hw1).mono ?_
        rintro e w2 ⟨rfl, hb2⟩
        have hw2 := hw1.trans (hb2.mono hw1.size)
        have q20 := (hb2.cell (p := ⟨w.heap.size, 0, none⟩) HS1.out).trans q10
        have q21 := (hb2.cell (p := ⟨w.heap.size, 1, none⟩) HS1.out).trans q11
        clear hb2
        go_wp2_with fail
        refine (CP.out _ hw2).mono ?_
        rintro e w3 ⟨rfl, hb3⟩
        go_wp2
        go_ret
        exact ⟨retB HZ.out.symm, hw2.trans (hb3.mono hw2.size)⟩
      · have HZ := hide (HLC.out (by first | trivial | rfl) (by first | exact Or.inr rfl | trivial | simp))
        go_wp2_with fail
        refine (CN.out _ hw1).mono ?_
        rintro e w2 ⟨rfl, hb2⟩
        have hw2 := hw1.trans (hb2.mono hw1.size)
        have q20 := (hb2.cell (p := ⟨w.heap.size, 0, none⟩) HS1.out).trans q10
        have q21 := (hb2.cell (p := ⟨w.heap.size, 1, none⟩) HS1.out).trans q11
        have HS2 := hide (Nat.lt_of_lt_of_le HS1.out hb2.size)
        clear hb2 q10 q11
        go_wp2_with fail
        refine (CP.out _ hw2).mono ?_
        rintro e w3 ⟨rfl, hb3⟩
        have hw3 := hw2.trans (hb3.mono hw2.size)
        have q30 := (hb3.cell (p := ⟨w.heap.size, 0, none⟩) HS2.out).trans q20
        have q31 := (hb3.cell (p := ⟨w.heap.size, 1, none⟩) HS2.out).trans q21
        clear hb3 q20 q21
        go_wp2_with fail
        refine (HCK.out _ hw3).mono ?_
        rintro e w4 ⟨rfl, hb4⟩
        go_wp2
        go_ret
        exact ⟨retB (by rw [HZ.out, Bool.eq_iff_iff]; simp), hw3.trans (hb4.mono hw3.size)⟩
    · have HZ := hide (HLC.out (by first | trivial | rfl) (by first | exact Or.inl rfl | trivial | simp))
      go_wp2_with fail
      refine (CN.out _ hw1).mono ?_
      rintro e w2 ⟨rfl, hb2⟩
      have hw2 := hw1.trans (hb2.mono hw1.size)
      have q20 := (hb2.cell (p := ⟨w.heap.size, 0, none⟩) HS1.out).trans q10
      have q21 := (hb2.cell (p := ⟨w.heap.size, 1, none⟩) HS1.out).trans q11
      clear hb2 q10 q11
      go_wp2_with fail
      refine (HCK.out _ hw2).mono ?_
      rintro e w4 ⟨rfl, hb4⟩
      go_wp2
      go_ret
      exact ⟨retB (by rw [HZ.out, Bool.eq_iff_iff]; simp), hw2.trans (hb4.mono hw2.size)⟩

set_option maxHeartbeats 4000000 in
theorem rlit18 {n lo : Nat} (x : Ar) (va : Value) (w : World) (hx : ArIn n lo w x va) : Calls Try.prog 18 #[va] w fun e w' => e = .returned (.bool (litB x)) ∧ Below w.heap.size w w' := by
  rw [← lit_doc]
  have CK : ∀ wr, Below w.heap.size w wr → Calls Try.prog 42 #[va] wr fun e w' => e = .returned (.int .i64 (chkA 8 x)) ∧ Below wr.heap.size wr w' := fun wr hw => rcheck_any n x lo va wr (hx.next hw)
  cases n with
  | zero => exact hx.elim
  | succ n =>
  obtain ⟨a1, c1, a2, c2, rfl, R, hl, hc⟩ := hx
  have hb0 := one_alloc w (.cells #[.slice a1 x.shape.length c1, .slice a2 x.cells.length c2] 25)
  have q0 := cell_new0 w #[.slice a1 x.shape.length c1, .slice a2 x.cells.length c2] 25 0 _ rfl
  have q1 := cell_new0 w #[.slice a1 x.shape.length c1, .slice a2 x.cells.length c2] 25 1 _ rfl
  have hlt0 : w.heap.size < (w.alloc (.cells #[.slice a1 x.shape.length c1, .slice a2 x.cells.length c2] 25)).heap.size := by simp
  have HLT := hide hlt0
  have C := CK _ hb0
  clear CK hlt0
  have HB := hide (cells_at hc)
  have HR := hide (fun (h : 0 < x.shape.length) wr (hw : Below w.heap.size w wr) => row_at (R.next hw) (j := 0) h)
  clear R hc
  by_cases hch : ¬ chkA 8 x = 0
  · rw [decide_eq_false hch, Bool.false_and, Bool.false_and]
    have hch' : (chkA 8 x == 0) = false := beq_eq_false_iff_ne.2 hch
    generalize chkA 8 x = CH at *
    generalize x.shape.length = SA at *
    generalize x.cells.length = LN at *
    go_enter Try.func18, Try.ntmps18
    go_wp2_with fail
    refine C.mono ?_
    rintro e w1 ⟨rfl, hb1⟩
    go_wp2
    go_ret
    exact ⟨rfl, hb0.trans (hb1.mono hb0.size)⟩
  rw [Decidable.not_not.1 hch] at C ⊢
  rw [show decide ((0 : Int) = 0) = true from rfl, Bool.true_and]
  clear hch
  by_cases h2 : 1 < x.shape.length
  · rw [atomL_2 (by omega) (by omega), Bool.false_and]
    generalize x.shape.length = SA at *
    generalize x.cells.length = LN at *
    go_enter Try.func18, Try.ntmps18
    go_wp2_with fail
    refine C.mono ?_
    rintro e w1 ⟨rfl, hb1⟩
    have q10 := (hb1.cell (p := ⟨w.heap.size, 0, none⟩) HLT.out).trans q0
    go_wp2
    go_ret
    exact ⟨rfl, hb0.trans (hb1.mono hb0.size)⟩
  have h2' : decide (1 < (x.shape.length : Int)) = false := by simp; omega
  have HHIT : Hid (∀ j, j < x.cells.length → badC x j = true → (!anyUp (badC x) x.cells.length) = false) := fun j hj h => by rw [anyUp_hit hj h]; rfl
  have HNO : Hid ((∀ j, j < x.cells.length → badC x j = false) → (!anyUp (badC x) x.cells.length) = true) := fun h => by rw [anyUp_none.2 h]; rfl
  have HBAD : Hid (∀ j, badC x j = (decide ((cAt x.cells j).1 ≠ (cAt x.cells 0).1) || decide ((cAt x.cells j).1 = 2) || (decide ((cAt x.cells j).1 = 1) && (decide ((cAt x.cells j).2.1 < 32) || decide ((cAt x.cells j).2.1 = 127))))) := fun j => rfl
  generalize (!anyUp (badC x) x.cells.length) = Z at *
  have HCE : Hid (∀ j, j < x.cells.length → ∃ b off z0 z1 ab nb cb y0, a2 = some ⟨b, off, none⟩ ∧ badC x j = (decide (z0 ≠ y0) || decide (z0 = 2) || (decide (z0 = 1) && (decide (z1 < 32) || decide (z1 = 127)))) ∧ ∀ wr, Below w.heap.size w wr → wr.cell? ⟨b, off + j * 3, none⟩ = some (.int .i64 z0) ∧ wr.cell? ⟨b, off + j * 3 + 1, none⟩ = some (.int .i64 z1) ∧ wr.cell? ⟨b, off + j * 3 + 2, none⟩ = some (.slice ab nb cb) ∧ wr.cell? ⟨b, off, none⟩ = some (.int .i64 y0)) := by
    intro j hj
    obtain ⟨b, off, z0, z1, ab, nb, cb, ha, hw⟩ := HB.out j hj
    obtain ⟨b', off', y0, y1, ab', nb', cb', ha', hw'⟩ := HB.out 0 (by omega)
    rw [ha] at ha'
    obtain ⟨rfl, rfl⟩ : b = b' ∧ off = off' := by simpa using ha'
    refine ⟨b, off, z0, z1, ab, nb, cb, y0, ha, ?_, fun wr hwr => ?_⟩
    · obtain ⟨e0, e1, -⟩ := (hw w (Below.refl _ _)).2.2.2
      obtain ⟨f0, -⟩ := (hw' w (Below.refl _ _)).2.2.2
      injection e0 with _ e0
      injection e1 with _ e1
      injection f0 with _ f0
      rw [HBAD.out, e0, e1, f0]
    · refine ⟨(hw wr hwr).1, (hw wr hwr).2.1, (hw wr hwr).2.2.1, ?_⟩
      have := (hw' wr hwr).1
      simpa using this
  clear HB HBAD
  generalize badC x = F at *
  by_cases h0 : x.shape.length = 0
  · rw [atomL_0 h0, Bool.true_and]
    rw [h0] at C q0 q1 hb0 HLT ⊢
    clear HR h2 h2' h0
    generalize x.cells.length = LN at *
    go_enter Try.func18, Try.ntmps18
    go_wp2_with fail
    refine C.mono ?_
    rintro e w1 ⟨rfl, hb1⟩
    have q10 := (hb1.cell (p := ⟨w.heap.size, 0, none⟩) HLT.out).trans q0
    have q11 := (hb1.cell (p := ⟨w.heap.size, 1, none⟩) HLT.out).trans q1
    clear C q0 q1
    go_wp2
    go_loopg [3] LN (fun g i wr => ∃ (j : Nat), g + j = LN ∧ i = .int .i64 (j : Int) ∧ (∀ i, i < j → F i = false) ∧ Below w.heap.size w wr ∧ wr.cell? ⟨w.heap.size, 1, none⟩ = some (.slice a2 LN c2) ∧ w.heap.size < wr.heap.size)
    case atStart => exact ⟨0, rfl, rfl, (by intro i hi; omega), hb0.trans (hb1.mono hb0.size), q11, Nat.lt_of_lt_of_le HLT.out hb1.size⟩
    case round =>
      clear q10 q11 hb1 hb0
      obtain ⟨j, hj, rfl, hno, hnx, hcl, hsz⟩ := hrel
      have HSZ := hide hsz
      have HN := hide hno
      clear hno hsz
      by_cases hlt : j < LN
      · obtain ⟨b, off, z0, z1, ab, nb, cb, y0, rfl, hbd, hw⟩ := HCE.out j hlt
        obtain ⟨g0, g1, g2, g3⟩ := hw wr hnx
        have hb2 : Below w.heap.size w (wr.alloc (.cells #[.int .i64 z0, .int .i64 z1, .slice ab nb cb] 60)) := hnx.alloc hnx.size _
        obtain ⟨-, -, -, g4⟩ := hw _ hb2
        have hcl2 := cell_one hcl HSZ.out (.cells #[.int .i64 z0, .int .i64 z1, .slice ab nb cb] 60)
        have k0 := cell_new0 wr #[.int .i64 z0, .int .i64 z1, .slice ab nb cb] 60 0 _ rfl
        have k1 := cell_new0 wr #[.int .i64 z0, .int .i64 z1, .slice ab nb cb] 60 1 _ rfl
        have HB2 := hide hb2
        have HBD := hide hbd
        have HH := hide (HHIT.out j hlt)
        clear hw HCE HHIT HNO hb2 hbd
        have hs2 : w.heap.size < (wr.alloc (.cells #[.int .i64 z0, .int .i64 z1, .slice ab nb cb] 60)).heap.size := Nat.lt_of_lt_of_le HSZ.out (by simp)
        have HS2 := hide hs2
        clear hs2
        by_cases e1 : z0 = y0
        · subst e1
          by_cases e2 : z0 = 2
          · subst e2
            have hFJ : F j = true := by rw [HBD.out]; simp 
            have HZ := hide (HH.out hFJ)
            clear hFJ HBD HH HN
            go_wp2
            go_quiet (fail)
            go_wp2
            go_ret
            exact ⟨retB HZ.out.symm, drewN_below HB2.out _⟩
          · have e2' : (z0 == 2) = false := beq_eq_false_iff_ne.2 e2
            by_cases e3 : z0 = 1
            · subst e3
              by_cases e4 : z1 < 32
              · have e4' : decide (z1 < 32) = true := by simp [e4]
                have hFJ : F j = true := by rw [HBD.out]; simp [e4]
                have HZ := hide (HH.out hFJ)
                clear hFJ HBD HH HN
                go_wp2
                go_quiet (fail)
                go_wp2
                go_ret
                exact ⟨retB HZ.out.symm, drewN_below HB2.out _⟩
              · have e4' : decide (z1 < 32) = false := by simp; omega
                by_cases e5 : z1 = 127
                · subst e5
                  have hFJ : F j = true := by rw [HBD.out]; simp 
                  have HZ := hide (HH.out hFJ)
                  clear hFJ HBD HH HN
                  go_wp2
                  go_quiet (fail)
                  go_wp2
                  go_ret
                  exact ⟨retB HZ.out.symm, drewN_below HB2.out _⟩
                · have e5' : (z1 == 127) = false := beq_eq_false_iff_ne.2 e5
                  have hFJ : F j = false := by rw [HBD.out]; simp [e4, e5]
                  have HFJ := hide hFJ
                  clear hFJ HBD HH
                  go_wp2
                  go_quiet (fail)
                  go_wp2
                  go_roundg (LN - (j + 1))
                  case rel =>
                    refine ⟨j + 1, by omega, by go_num, fun i hi => ?_, drewN_below HB2.out _, hcl2, HS2.out⟩
                    rcases Nat.lt_succ_iff_lt_or_eq.1 hi with hi | rfl
                    · exact HN.out i hi
                    · exact HFJ.out
                  case measure => omega
            · have e3' : (z0 == 1) = false := beq_eq_false_iff_ne.2 e3
              have hFJ : F j = false := by rw [HBD.out]; simp [e2, e3]
              have HFJ := hide hFJ
              clear hFJ HBD HH
              go_wp2
              go_quiet (fail)
              go_wp2
              go_roundg (LN - (j + 1))
              case rel =>
                refine ⟨j + 1, by omega, by go_num, fun i hi => ?_, drewN_below HB2.out _, hcl2, HS2.out⟩
                rcases Nat.lt_succ_iff_lt_or_eq.1 hi with hi | rfl
                · exact HN.out i hi
                · exact HFJ.out
              case measure => omega
        · have e1' : (z0 != y0) = true := by simp [e1]
          have hFJ : F j = true := by rw [HBD.out]; simp [e1]
          have HZ := hide (HH.out hFJ)
          clear hFJ HBD HH HN
          go_wp2
          go_quiet (fail)
          go_wp2
          go_ret
          exact ⟨retB HZ.out.symm, drewN_below HB2.out _⟩
      · have hje : j = LN := by omega
        subst hje
        have HZ := hide (HNO.out HN.out)
        clear HCE HHIT HNO HN
        go_wp2
        go_ret
        exact ⟨retB HZ.out.symm, hnx⟩
  · have h1 : x.shape.length = 1 := by omega
    rw [atomL_1 h1]
    rw [h1] at C q0 q1 hb0 HLT HR ⊢
    generalize x.shape[0]?.getD 0 = SZ at *
    clear h2 h2' h0 h1
    generalize x.cells.length = LN at *
    by_cases hz : SZ = 1
    · subst hz
      simp only [decide_true, Bool.not_true, Bool.false_and]
      go_enter Try.func18, Try.ntmps18
      go_wp2_with fail
      refine C.mono ?_
      rintro e w1 ⟨rfl, hb1⟩
      have q10 := (hb1.cell (p := ⟨w.heap.size, 0, none⟩) HLT.out).trans q0
      have q11 := (hb1.cell (p := ⟨w.heap.size, 1, none⟩) HLT.out).trans q1
      clear C q0 q1
      obtain ⟨b, off, rfl, hbb, hcc⟩ := HR.out (by omega) w1 (hb0.trans (hb1.mono hb0.size))
      simp only [Nat.add_zero] at hcc
      go_wp2
      go_ret
      exact ⟨rfl, hb0.trans (hb1.mono hb0.size)⟩
    have hz' : (SZ == 1) = false := beq_eq_false_iff_ne.2 hz
    simp only [hz, decide_false, Bool.not_false, Bool.true_and]
    go_enter Try.func18, Try.ntmps18
    go_wp2_with fail
    refine C.mono ?_
    rintro e w1 ⟨rfl, hb1⟩
    have q10 := (hb1.cell (p := ⟨w.heap.size, 0, none⟩) HLT.out).trans q0
    have q11 := (hb1.cell (p := ⟨w.heap.size, 1, none⟩) HLT.out).trans q1
    clear C q0 q1
    obtain ⟨bs, os, rfl, hbb, hcc⟩ := HR.out (by omega) w1 (hb0.trans (hb1.mono hb0.size))
    simp only [Nat.add_zero] at hcc
    go_wp2
    go_loopg [3] LN (fun g i wr => ∃ (j : Nat), g + j = LN ∧ i = .int .i64 (j : Int) ∧ (∀ i, i < j → F i = false) ∧ Below w.heap.size w wr ∧ wr.cell? ⟨w.heap.size, 1, none⟩ = some (.slice a2 LN c2) ∧ w.heap.size < wr.heap.size)
    case atStart => exact ⟨0, rfl, rfl, (by intro i hi; omega), hb0.trans (hb1.mono hb0.size), q11, Nat.lt_of_lt_of_le HLT.out hb1.size⟩
    case round =>
      clear q10 q11 hb1 hb0 hcc hbb
      obtain ⟨j, hj, rfl, hno, hnx, hcl, hsz⟩ := hrel
      have HSZ := hide hsz
      have HN := hide hno
      clear hno hsz
      by_cases hlt : j < LN
      · obtain ⟨b, off, z0, z1, ab, nb, cb, y0, rfl, hbd, hw⟩ := HCE.out j hlt
        obtain ⟨g0, g1, g2, g3⟩ := hw wr hnx
        have hb2 : Below w.heap.size w (wr.alloc (.cells #[.int .i64 z0, .int .i64 z1, .slice ab nb cb] 60)) := hnx.alloc hnx.size _
        obtain ⟨-, -, -, g4⟩ := hw _ hb2
        have hcl2 := cell_one hcl HSZ.out (.cells #[.int .i64 z0, .int .i64 z1, .slice ab nb cb] 60)
        have k0 := cell_new0 wr #[.int .i64 z0, .int .i64 z1, .slice ab nb cb] 60 0 _ rfl
        have k1 := cell_new0 wr #[.int .i64 z0, .int .i64 z1, .slice ab nb cb] 60 1 _ rfl
        have HB2 := hide hb2
        have HBD := hide hbd
        have HH := hide (HHIT.out j hlt)
        clear hw HCE HHIT HNO hb2 hbd
        have hs2 : w.heap.size < (wr.alloc (.cells #[.int .i64 z0, .int .i64 z1, .slice ab nb cb] 60)).heap.size := Nat.lt_of_lt_of_le HSZ.out (by simp)
        have HS2 := hide hs2
        clear hs2
        by_cases e1 : z0 = y0
        · subst e1
          by_cases e2 : z0 = 2
          · subst e2
            have hFJ : F j = true := by rw [HBD.out]; simp 
            have HZ := hide (HH.out hFJ)
            clear hFJ HBD HH HN
            go_wp2
            go_quiet (fail)
            go_wp2
            go_ret
            exact ⟨retB HZ.out.symm, drewN_below HB2.out _⟩
          · have e2' : (z0 == 2) = false := beq_eq_false_iff_ne.2 e2
            by_cases e3 : z0 = 1
            · subst e3
              by_cases e4 : z1 < 32
              · have e4' : decide (z1 < 32) = true := by simp [e4]
                have hFJ : F j = true := by rw [HBD.out]; simp [e4]
                have HZ := hide (HH.out hFJ)
                clear hFJ HBD HH HN
                go_wp2
                go_quiet (fail)
                go_wp2
                go_ret
                exact ⟨retB HZ.out.symm, drewN_below HB2.out _⟩
              · have e4' : decide (z1 < 32) = false := by simp; omega
                by_cases e5 : z1 = 127
                · subst e5
                  have hFJ : F j = true := by rw [HBD.out]; simp 
                  have HZ := hide (HH.out hFJ)
                  clear hFJ HBD HH HN
                  go_wp2
                  go_quiet (fail)
                  go_wp2
                  go_ret
                  exact ⟨retB HZ.out.symm, drewN_below HB2.out _⟩
                · have e5' : (z1 == 127) = false := beq_eq_false_iff_ne.2 e5
                  have hFJ : F j = false := by rw [HBD.out]; simp [e4, e5]
                  have HFJ := hide hFJ
                  clear hFJ HBD HH
                  go_wp2
                  go_quiet (fail)
                  go_wp2
                  go_roundg (LN - (j + 1))
                  case rel =>
                    refine ⟨j + 1, by omega, by go_num, fun i hi => ?_, drewN_below HB2.out _, hcl2, HS2.out⟩
                    rcases Nat.lt_succ_iff_lt_or_eq.1 hi with hi | rfl
                    · exact HN.out i hi
                    · exact HFJ.out
                  case measure => omega
            · have e3' : (z0 == 1) = false := beq_eq_false_iff_ne.2 e3
              have hFJ : F j = false := by rw [HBD.out]; simp [e2, e3]
              have HFJ := hide hFJ
              clear hFJ HBD HH
              go_wp2
              go_quiet (fail)
              go_wp2
              go_roundg (LN - (j + 1))
              case rel =>
                refine ⟨j + 1, by omega, by go_num, fun i hi => ?_, drewN_below HB2.out _, hcl2, HS2.out⟩
                rcases Nat.lt_succ_iff_lt_or_eq.1 hi with hi | rfl
                · exact HN.out i hi
                · exact HFJ.out
              case measure => omega
        · have e1' : (z0 != y0) = true := by simp [e1]
          have hFJ : F j = true := by rw [HBD.out]; simp [e1]
          have HZ := hide (HH.out hFJ)
          clear hFJ HBD HH HN
          go_wp2
          go_quiet (fail)
          go_wp2
          go_ret
          exact ⟨retB HZ.out.symm, drewN_below HB2.out _⟩
      · have hje : j = LN := by omega
        subst hje
        have HZ := hide (HNO.out HN.out)
        clear HCE HHIT HNO HN
        go_wp2
        go_ret
        exact ⟨retB HZ.out.symm, hnx⟩
end Go.Proofs.Ytkgpoibnilgaeaa
