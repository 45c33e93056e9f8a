/-
  What layer 6's joined leans on: two boxes written, cells in turn as an array's.
  The contract of layer 6's joined.
  The contract of layer 6's oftenAs: so many places from 0 on, each so often as counts say.
  The contract of layer 6's repeated.
  Rotations add up; by as many as there are an array is itself. Mathematics.
  The contract of layer 6's statements' light.
  The contracts of the document's Atom and Nums once more: the slices of what they give are no longer than their rows.
  The contract of layer 6's dropped.
  What comes of Drop may be; pieces and Dy of Drop.
  The contracts of layer 6's pieces and Dy for RepF and RepL, and of the document's Listed.
  A variable that holds an array; what calls of Atom and Dy give, for regions that draw their order.
  Layer 6's Dy of arrays that may not be.
  Layer 6's pieces and Dy for CatF and CatL, for numbers that name no function, and Dy for whatever function.
  Places by rules; a row that grows, at its beginning (mathematics and small laws for the document of layers 5 and 6).
-/
import Derived.Test.YtmjncdhahdpplaaM3
import Derived.Test.YtmjncdhahdpplaaChecked
import GoSem.Claim
import GoSem.ClaimJoined
import GoSem.ClaimMapViews
import Derived.JoinedTies
import Derived.KernelRfl
import Derived.WalkKit
import Derived.ProofKit
import Derived.Below
import Derived.Deep.OwnRows
import Derived.Deep.QuietTactic
import Derived.BigQuiet
import Derived.Deep.RegionWith
import Derived.Laws.MakeOwn
import Derived.Deep.RegionHeld3
import Derived.Laws.IdiomCopy
import Derived.Deep.Cut
import Derived.Deep.LoopGhost
import Derived.OpenShut
import Derived.ChangeOld
import Derived.SizedLaws
import Derived.Deep.Slices
import Derived.Deep.Strs
import Derived.Laws.AppendOwn
import Derived.BigFrame
import Derived.Deep.CutRange
import Derived.Deep.RegionLaw
import Derived.Laws.OwnMore
import Derived.Lib.SliceRun
import Derived.Laws.CopyOwn
import Derived.Lib.Overlaps
import Derived.Lib.Mul64
namespace Go.Proofs.Ytmjncdhahdpplaa
open Go.ChangeShapes Go.WideShapes Go.ChangeAt Go.RowKit
set_option linter.unusedVariables false
set_option maxRecDepth 100000
theorem In3.setQ {w W : World} {v0 v1 u0 u1 : Value} (I : In3 w v0 v1 u0 u1 W) (a b : Value) : In3 w a b u0 u1 ((W.setCell ⟨w.heap.size, 0, none⟩ a).setCell ⟨w.heap.size, 1, none⟩ b) := by
  have st := set_two I.q0 I.q1 a b
  refine ⟨(I.bel.setCell (p := ⟨w.heap.size, 0, none⟩) (Nat.le_refl _) _).setCell (p := ⟨w.heap.size, 1, none⟩) (Nat.le_refl _) _, by simpa using I.size, ?_, st.2, ?_, ?_, ?_, ?_, ?_, ?_⟩
  · rw [World.cell?_setCell_other _ _ _ _ (by simp)]; exact st.1
  · rw [World.cell?_setCell_other _ _ _ _ (by simp), World.cell?_setCell_other _ _ _ _ (by simp)]; exact I.r0
  · rw [World.cell?_setCell_other _ _ _ _ (by simp), World.cell?_setCell_other _ _ _ _ (by simp)]; exact I.r1
  · rw [World.cell?_setCell_other _ _ _ _ (by simp), World.cell?_setCell_other _ _ _ _ (by simp)]; exact I.p0
  · rw [World.cell?_setCell_other _ _ _ _ (by simp), World.cell?_setCell_other _ _ _ _ (by simp)]; exact I.p1
  · exact frozen_set _ _ _ _ (frozen_set _ _ _ _ I.f0)
  · exact frozen_set _ _ _ _ (frozen_set _ _ _ _ I.f1)
theorem In3.setR {w W : World} {v0 v1 u0 u1 : Value} (I : In3 w v0 v1 u0 u1 W) (a b : Value) : In3 w v0 v1 a b ((W.setCell ⟨w.heap.size + 1, 0, none⟩ a).setCell ⟨w.heap.size + 1, 1, none⟩ b) := by
  have st := set_two I.r0 I.r1 a b
  refine ⟨(I.bel.setCell (p := ⟨w.heap.size + 1, 0, none⟩) (by show _ ≤ w.heap.size + 1; omega) _).setCell (p := ⟨w.heap.size + 1, 1, none⟩) (by show _ ≤ w.heap.size + 1; omega) _, by simpa using I.size, ?_, ?_, ?_, st.2, ?_, ?_, ?_, ?_⟩
  · rw [World.cell?_setCell_other _ _ _ _ (by simp), World.cell?_setCell_other _ _ _ _ (by simp)]; exact I.q0
  · rw [World.cell?_setCell_other _ _ _ _ (by simp), World.cell?_setCell_other _ _ _ _ (by simp)]; exact I.q1
  · rw [World.cell?_setCell_other _ _ _ _ (by simp)]; exact st.1
  · rw [World.cell?_setCell_other _ _ _ _ (by simp), World.cell?_setCell_other _ _ _ _ (by simp)]; exact I.p0
  · rw [World.cell?_setCell_other _ _ _ _ (by simp), World.cell?_setCell_other _ _ _ _ (by simp)]; exact I.p1
  · exact frozen_set _ _ _ _ (frozen_set _ _ _ _ I.f0)
  · exact frozen_set _ _ _ _ (frozen_set _ _ _ _ I.f1)
theorem keeps_of_below {lo : Nat} {w w' : World} (hb : Below w.heap.size w w') : Keeps lo w w' := ⟨hb.size, fun b _ h => hb.block b h⟩
/-- Cells in turn, as an array's cells. -/
theorem turned_cells {n lo lo' t one two : Nat} {w0 W wE : World} {A B : List Ce} {a b : Option Addr} {nA cA nB cB : Nat} (hE : Below wE.heap.size wE W) (hA : CinP n lo w0 W A a nA cA) (hB : CinP n lo' w0 W B b nB cB) (ht : 0 < t) (ht16 : t ≤ 16384) (lA : A.length = t * one) (lB : B.length = t * two) (h16 : t * one + t * two ≤ 16384) :
    Calls Try.prog 100 #[.slice a nA cA, .slice b nB cB, .int .i64 (t : Int)] W fun e w' => (∃ g, e = .returned (.slice (some ⟨g, 0, none⟩) (t * one + t * two) (t * one + t * two)) ∧ ∀ V, Below w0.heap.size w0 V → Keeps W.heap.size w' V → CellsIn n 0 V (mkCs (t * one + t * two) (turnF (cAt A) (cAt B) one two)) (some ⟨g, 0, none⟩)) ∧ Below wE.heap.size wE w' ∧ Below W.heap.size W w' := by
  obtain ⟨hn, TA, sA, cA'⟩ := hA
  obtain ⟨hm, TB, sB, cB'⟩ := hB
  rw [lA] at hn
  rw [lB] at hm
  have C := inTurn_any a b nA cA nB cB t one two TA TB W sA sB ht hn hm (by omega) ht16
  rw [hn, hm] at C
  rw [hn, hm]
  refine C.mono ?_
  rintro e w' ⟨⟨g, rfl, hg1, hg2, hrow⟩, hb⟩
  refine ⟨⟨g, rfl, fun V hV hK => ?_⟩, hE.trans (hb.mono hE.size), hb⟩
  by_cases h0 : t * one + t * two = 0
  · left; rw [h0]; rfl
  refine Or.inr ⟨g, 0, rfl, Nat.zero_le _, Nat.lt_of_lt_of_le hg2 hK.1, fun i hi => ?_⟩
  rw [mkCs_len] at hi
  rw [Nat.zero_add, mkCs_at _ _ _ hi]
  have ap : ∀ (o : Nat) (q : Value), w'.cell? ⟨g, o, none⟩ = some q → V.cell? ⟨g, o, none⟩ = some q := fun o q h => (hK.cell (p := ⟨g, o, none⟩) hg1 hg2).trans h
  obtain ⟨s0, s1, s2⟩ := gF_at (turnF TA TB one two) (t * one + t * two) i hi
  have m0 := hrow.cell (i := i * 3) (by omega)
  have m1 := hrow.cell (i := i * 3 + 1) (by omega)
  have m2 := hrow.cell (i := i * 3 + 2) (by omega)
  rw [s0] at m0
  rw [s1] at m1
  rw [s2] at m2
  refine ⟨_, _, _, ap _ _ m0, ap _ _ m1, ap _ _ m2, ?_⟩
  have hmm : 0 < one + two := by
    rcases Nat.eq_zero_or_pos (one + two) with h | h
    · rw [show one = 0 by omega, show two = 0 by omega] at hi; omega
    · exact h
  have hr : i / (one + two) < t := by rw [Nat.div_lt_iff_lt_mul hmm, Nat.mul_add]; exact hi
  have hq := Nat.mod_lt i hmm
  unfold turnF
  by_cases h : i % (one + two) < one
  · simp only [if_pos h]
    have : (i / (one + two) + 1) * one ≤ t * one := Nat.mul_le_mul_right _ hr
    rw [Nat.add_mul, Nat.one_mul] at this
    exact (cA' _ (by omega)).mono (Nat.zero_le _) hV fun x v h => h.mono (Nat.zero_le _) hV
  · simp only [if_neg h]
    have : (i / (one + two) + 1) * two ≤ t * two := Nat.mul_le_mul_right _ hr
    rw [Nat.add_mul, Nat.one_mul] at this
    exact (cB' _ (by omega)).mono (Nat.zero_le _) hV fun x v h => h.mono (Nat.zero_le _) hV
end Go.Proofs.Ytmjncdhahdpplaa
namespace Go.Proofs.Ytmjncdhahdpplaa
open Go.ChangeShapes Go.WideShapes Go.ChangeAt Go.RowKit
set_option linter.unusedVariables false
set_option maxRecDepth 100000
set_option maxHeartbeats 4000000 in
theorem joined_any {n lo lo' : Nat} {x y : Ar} {va vb : Value} {w0 w : World} (hx : ArIn (n + 1) lo w0 x va) (hy : ArIn (n + 1) lo' w0 y vb) (hb0 : Below w0.heap.size w0 w) (hcx : chkA 8 x = 0) (hcy : chkA 8 y = 0) (hcapx : Caps va) (hcapy : Caps vb) (last : Bool) :
    Calls Try.prog 79 #[va, vb, .bool last] w fun e w' => Gives2K (n + 1) w0 (joiR last x y).1 (joiR last x y).2 w e w' := by
  obtain ⟨a1, c1, a2, c2, rfl, R, hc⟩ := hx.form
  obtain ⟨b1, d1, b2, d2, rfl, R', hc'⟩ := hy.form
  have I := in3_new w (.slice a1 x.shape.length c1) (.slice a2 x.cells.length c2) (.slice b1 y.shape.length d1) (.slice b2 y.cells.length d2)
  have hfq := fun i => ((two_allocs (w.alloc (.cells #[.slice a1 x.shape.length c1, .slice a2 x.cells.length c2] 25)) (.cells #[.slice b1 y.shape.length d1, .slice b2 y.cells.length d2] 25) (.cells #[.slice none 0 0, .slice none 0 0] 25)).frozen (p := ⟨w.heap.size, i, none⟩) (by simp)).trans (frozen_new w #[.slice a1 x.shape.length c1, .slice a2 x.cells.length c2] 25 i)
  have hfr := fun i => ((one_alloc ((w.alloc (.cells #[.slice a1 x.shape.length c1, .slice a2 x.cells.length c2] 25)).alloc (.cells #[.slice b1 y.shape.length d1, .slice b2 y.cells.length d2] 25)) (.cells #[.slice none 0 0, .slice none 0 0] 25)).frozen (p := ⟨w.heap.size + 1, i, none⟩) (by simp)).trans (frozen_new1 w #[.slice b1 y.shape.length d1, .slice b2 y.cells.length d2] 25 (.cells #[.slice a1 x.shape.length c1, .slice a2 x.cells.length c2] 25) i)
  obtain ⟨W3, e3⟩ : ∃ W3, ((w.alloc (.cells #[.slice a1 x.shape.length c1, .slice a2 x.cells.length c2] 25)).alloc (.cells #[.slice b1 y.shape.length d1, .slice b2 y.cells.length d2] 25)).alloc (.cells #[.slice none 0 0, .slice none 0 0] 25) = W3 := ⟨_, rfl⟩
  rw [e3] at I hfq hfr
  have NB : Below w0.heap.size w0 W3 := hb0.trans (I.bel.mono hb0.size)
  have q0 := I.q0
  have q1 := I.q1
  have r0 := I.r0
  have r1 := I.r1
  have HI := hide I
  have HNB := hide NB
  have HB0 := hide hb0
  have HFQ := hide hfq
  have HFR := hide hfr
  obtain ⟨lx8, cx16⟩ := chk_len hcx
  obtain ⟨ly8, cy16⟩ := chk_len hcy
  have HCK := hide (And.intro hcx hcy)
  have HCC := hide (And.intro hc (And.intro hc' (And.intro (caps_form hcapx).2 (caps_form hcapy).2)))
  obtain ⟨X, hX⟩ : ∃ X, (joiS x y).1 = X := ⟨_, rfl⟩
  obtain ⟨Y, hY⟩ : ∃ Y, (joiS x y).2 = Y := ⟨_, rfl⟩
  have HXY : Hid (X.cells = x.cells ∧ Y.cells = y.cells ∧ chkA 8 X = 0 ∧ chkA 8 Y = 0 ∧ 0 < max X.shape.length Y.shape.length) := by
    rw [← hX, ← hY]
    unfold joiS
    by_cases h : x.shape.length = 0 ∧ y.shape.length = 0
    · rw [if_pos h]
      have h1 := lst_facts hcx
      have h2 := lst_facts hcy
      exact ⟨h1.2.1, h2.2.1, h1.1, h2.1, by have := h1.2.2; show 0 < max (lstA x).shape.length _; omega⟩
    · rw [if_neg h]
      exact ⟨rfl, rfl, hcx, hcy, by show 0 < max x.shape.length y.shape.length; omega⟩
  have HJ : Hid (joiR last x y = joiT X Y (joiK last X Y) (fitR X.shape Y.shape (joiK last X Y))) := by unfold Hid joiR; rw [hX, hY]
  have HRR := hide (And.intro R R')
  have HPX : Hid (∀ W, Below w0.heap.size w0 W → Calls Try.prog 76 #[.agg #[.slice a1 x.shape.length c1, .slice a2 x.cells.length c2]] W fun e w' => LstIs w0 x a2 c2 W e w') := fun W h => plisted_row hx h hcapx
  have HPY : Hid (∀ W, Below w0.heap.size w0 W → Calls Try.prog 76 #[.agg #[.slice b1 y.shape.length d1, .slice b2 y.cells.length d2]] W fun e w' => LstIs w0 y b2 d2 W e w') := fun W h => plisted_row hy h hcapy
  have HCP := hide (And.intro (caps_form hcapx).1 (caps_form hcapy).1)
  obtain ⟨SX, hSX⟩ : ∃ SX, x.shape.length = SX := ⟨_, rfl⟩
  obtain ⟨CX, hCX⟩ : ∃ CX, x.cells.length = CX := ⟨_, rfl⟩
  obtain ⟨SY, hSY⟩ : ∃ SY, y.shape.length = SY := ⟨_, rfl⟩
  obtain ⟨CY, hCY⟩ : ∃ CY, y.cells.length = CY := ⟨_, rfl⟩
  have HSC := hide (And.intro hSX (And.intro hCX (And.intro hSY hCY)))
  have HXYS : Hid ((SX = 0 ∧ SY = 0 → X.shape = [1] ∧ Y.shape = [1]) ∧ (¬ (SX = 0 ∧ SY = 0) → X = x ∧ Y = y)) := by
    rw [← hX, ← hY, ← hSX, ← hSY]
    unfold joiS
    refine ⟨fun h => ?_, fun h => ?_⟩
    · rw [if_pos h]
      exact ⟨by show (lstA x).shape = _; unfold lstA; rw [if_pos h.1]; rfl, by show (lstA y).shape = _; unfold lstA; rw [if_pos h.2]; rfl⟩
    · rw [if_neg h]; exact ⟨rfl, rfl⟩
  simp only [hSX, hCX, hSY, hCY] at e3 q0 q1 r0 r1 HI HCC HPX HPY HCP lx8 cx16 ly8 cy16 ⊢
  clear R hc I hx R' hc' hSX hCX hSY hCY hb0 hcx hcy hcapx hcapy NB hfq hfr hX hY hy
  go_enter Try.func79, Try.ntmps79
  obtain ⟨bb, hbb⟩ : ∃ bb : Bool, decide (SX = 0 ∧ SY = 0) = bb := ⟨_, rfl⟩
  have HBB := hide hbb
  clear hbb
  go_upto_region 1 with fail
  go_cut [25] from 16 to 25 (fun s wx => s = .bool bb ∧ wx = W3)
  case first =>
    by_cases h1 : SX = 0
    · have hS1 : ((SX : Int) == 0) = true := by simp [h1]
      by_cases h2 : SY = 0
      · have hS2 : ((SY : Int) == 0) = true := by simp [h2]
        have hb : bb = true := by rw [← HBB.out]; exact decide_eq_true ⟨h1, h2⟩
        subst hb
        clear h1 h2
        go_wp2
        go_meet
        exact ⟨rfl, rfl⟩
      · have hS2 : ((SY : Int) == 0) = false := by simp; omega
        have hb : bb = false := by rw [← HBB.out]; exact decide_eq_false fun h => h2 h.2
        subst hb
        clear h1 h2
        go_wp2
        go_meet
        exact ⟨rfl, rfl⟩
    · have hS1 : ((SX : Int) == 0) = false := by simp; omega
      have hb : bb = false := by rw [← HBB.out]; exact decide_eq_false fun h => h1 h.1
      subst hb
      clear h1
      go_wp2
      go_meet
      exact ⟨rfl, rfl⟩
  case rest =>
  obtain ⟨rfl, hwc⟩ := hcut
  have hwc' := hwc.symm
  subst hwc'
  clear hwc
  go_upto_if 25 with fail
  go_cut [25] from 25 to 29 (fun s wx => ∃ s1 k1 s2 k2, In3 w (.slice s1 X.shape.length k1) (.slice a2 CX c2) (.slice s2 Y.shape.length k2) (.slice b2 CY d2) wx ∧ Row 0 wx s1 X.shape ∧ Row 0 wx s2 Y.shape ∧ Below w0.heap.size w0 wx)
  case first =>
    by_cases hS : SX = 0 ∧ SY = 0
    · obtain ⟨e1, e2⟩ := HXYS.out.1 hS
      have hb : bb = true := by rw [← HBB.out]; exact decide_eq_true hS
      subst hb
      have CLX : Hid (∀ W, Below W3.heap.size W3 W → Calls Try.prog 76 #[.agg #[.slice a1 SX c1, .slice a2 CX c2]] W fun e w' => (∃ s1 k1, e = .returned (.agg #[.slice s1 1 k1, .slice a2 CX c2]) ∧ ∀ V, Below w0.heap.size w0 V → Keeps W.heap.size w' V → Row 0 V s1 [1]) ∧ Below W3.heap.size W3 w' ∧ Below W.heap.size W w') := by
        intro W h
        refine (HPX.out W (HNB.out.trans (h.mono HNB.out.size))).mono ?_
        rintro e w' ⟨⟨s1, k1, rfl, -, hr⟩, hb⟩
        have el : (lstA x).shape = [1] := by unfold lstA; rw [if_pos (by rw [HSC.out.1]; exact hS.1)]; rfl
        rw [el] at hr ⊢
        rw [HSC.out.2.1]
        exact ⟨⟨_, _, rfl, hr⟩, h.trans (hb.mono h.size), hb⟩
      have CLY : Hid (∀ W, Below W3.heap.size W3 W → Calls Try.prog 76 #[.agg #[.slice b1 SY d1, .slice b2 CY d2]] W fun e w' => (∃ s1 k1, e = .returned (.agg #[.slice s1 1 k1, .slice b2 CY d2]) ∧ ∀ V, Below w0.heap.size w0 V → Keeps W.heap.size w' V → Row 0 V s1 [1]) ∧ Below W3.heap.size W3 w' ∧ Below W.heap.size W w') := by
        intro W h
        refine (HPY.out W (HNB.out.trans (h.mono HNB.out.size))).mono ?_
        rintro e w' ⟨⟨s1, k1, rfl, -, hr⟩, hb⟩
        have el : (lstA y).shape = [1] := by unfold lstA; rw [if_pos (by rw [HSC.out.2.2.1]; exact hS.2)]; rfl
        rw [el] at hr ⊢
        rw [HSC.out.2.2.2]
        exact ⟨⟨_, _, rfl, hr⟩, h.trans (hb.mono h.size), hb⟩
      have HD0 : Hid (Below W3.heap.size W3 W3.drew) := (Below.refl _ _).drew
      have KS : Hid (∀ W, Below W3.heap.size W3 W → (Below W3.heap.size W3 W ∧ W.cell? ⟨w.heap.size, 0, none⟩ = some (.slice a1 SX c1) ∧ W.cell? ⟨w.heap.size, 1, none⟩ = some (.slice a2 CX c2) ∧ W.cell? ⟨w.heap.size + 1, 0, none⟩ = some (.slice b1 SY d1) ∧ W.cell? ⟨w.heap.size + 1, 1, none⟩ = some (.slice b2 CY d2))) := fun W h => ⟨h, (HI.out.next h).q0, (HI.out.next h).q1, (HI.out.next h).r0, (HI.out.next h).r1⟩
      have HFZ : Hid (∀ W, Below W3.heap.size W3 W → ∀ i, W.frozen? ⟨w.heap.size, i, none⟩ = false ∧ W.frozen? ⟨w.heap.size + 1, i, none⟩ = false) := by
        intro W h i
        have hz := HI.out.size
        exact ⟨(h.frozen (p := ⟨w.heap.size, i, none⟩) (by show w.heap.size < _; omega)).trans (HFQ.out i), (h.frozen (p := ⟨w.heap.size + 1, i, none⟩) (by show w.heap.size + 1 < _; omega)).trans (HFR.out i)⟩
      have HFIN : Hid (∀ W s1 k1 s2 k2, Below W3.heap.size W3 W → (∀ V, Below w0.heap.size w0 V → Keeps W3.heap.size W V → Row 0 V s1 [1]) → (∀ V, Below w0.heap.size w0 V → Keeps W3.heap.size W V → Row 0 V s2 [1]) → ∃ s1' k1' s2' k2', In3 w (.slice s1' X.shape.length k1') (.slice a2 CX c2) (.slice s2' Y.shape.length k2') (.slice b2 CY d2) ((((W.setCell ⟨w.heap.size, 0, none⟩ (.slice s1 1 k1)).setCell ⟨w.heap.size, 1, none⟩ (.slice a2 CX c2)).setCell ⟨w.heap.size + 1, 0, none⟩ (.slice s2 1 k2)).setCell ⟨w.heap.size + 1, 1, none⟩ (.slice b2 CY d2)) ∧ Row 0 ((((W.setCell ⟨w.heap.size, 0, none⟩ (.slice s1 1 k1)).setCell ⟨w.heap.size, 1, none⟩ (.slice a2 CX c2)).setCell ⟨w.heap.size + 1, 0, none⟩ (.slice s2 1 k2)).setCell ⟨w.heap.size + 1, 1, none⟩ (.slice b2 CY d2)) s1' X.shape ∧ Row 0 ((((W.setCell ⟨w.heap.size, 0, none⟩ (.slice s1 1 k1)).setCell ⟨w.heap.size, 1, none⟩ (.slice a2 CX c2)).setCell ⟨w.heap.size + 1, 0, none⟩ (.slice s2 1 k2)).setCell ⟨w.heap.size + 1, 1, none⟩ (.slice b2 CY d2)) s2' Y.shape ∧ Below w0.heap.size w0 ((((W.setCell ⟨w.heap.size, 0, none⟩ (.slice s1 1 k1)).setCell ⟨w.heap.size, 1, none⟩ (.slice a2 CX c2)).setCell ⟨w.heap.size + 1, 0, none⟩ (.slice s2 1 k2)).setCell ⟨w.heap.size + 1, 1, none⟩ (.slice b2 CY d2))) := by
        intro W s1 k1 s2 k2 h h1 h2
        have I5 := ((HI.out.next h).setQ (.slice s1 1 k1) (.slice a2 CX c2)).setR (.slice s2 1 k2) (.slice b2 CY d2)
        have hz := HI.out.size
        have hV := HB0.out.trans (I5.bel.mono HB0.out.size)
        have hK : Keeps W3.heap.size W ((((W.setCell ⟨w.heap.size, 0, none⟩ (.slice s1 1 k1)).setCell ⟨w.heap.size, 1, none⟩ (.slice a2 CX c2)).setCell ⟨w.heap.size + 1, 0, none⟩ (.slice s2 1 k2)).setCell ⟨w.heap.size + 1, 1, none⟩ (.slice b2 CY d2)) := ((((Keeps.refl _ _).setCell (p := ⟨w.heap.size, 0, none⟩) (by show w.heap.size < _; omega) _).setCell (p := ⟨w.heap.size, 1, none⟩) (by show w.heap.size < _; omega) _).setCell (p := ⟨w.heap.size + 1, 0, none⟩) (by show w.heap.size + 1 < _; omega) _).setCell (p := ⟨w.heap.size + 1, 1, none⟩) (by show w.heap.size + 1 < _; omega) _
        rw [e1, e2]
        exact ⟨s1, k1, s2, k2, I5, h1 _ hV hK, h2 _ hV hK, hV⟩
      clear hS e3
      go_wp2
      go_region_with
        (first | (go_at_call 76; first
          | ((with_reducible refine (CLX.out _ HD0.out).mono ?_); rintro e wx ⟨⟨s1, k1, rfl, hr1⟩, gx, hbx⟩; obtain ⟨-, m1, m2, m3, m4⟩ := KS.out wx gx)
          | ((with_reducible refine (CLY.out _ HD0.out).mono ?_); rintro e wy ⟨⟨s2, k2, rfl, hr2⟩, gy, hby⟩; obtain ⟨-, m1, m2, m3, m4⟩ := KS.out wy gy)
          | ((with_reducible refine (CLY.out wx gx).mono ?_); rintro e wy ⟨⟨s2, k2, rfl, hr2⟩, gy, hby⟩; have hfin := HFIN.out wy s1 k1 s2 k2 gy (fun V hV hK => hr1 V hV ((keeps_of_below hby).trans hK)) (fun V hV hK => hr2 V hV (hK.mono gx.size)); obtain ⟨-, l1, l2, l3, l4⟩ := KS.out wy gy; obtain ⟨v1, v2⟩ := HFZ.out wy gy 0; obtain ⟨v3, v4⟩ := HFZ.out wy gy 1)
          | ((with_reducible refine (CLX.out wy gy).mono ?_); rintro e wx ⟨⟨s1, k1, rfl, hr1⟩, gx, hbx⟩; have hfin := HFIN.out wx s1 k1 s2 k2 gx (fun V hV hK => hr1 V hV (hK.mono gy.size)) (fun V hV hK => hr2 V hV ((keeps_of_below hbx).trans hK)); obtain ⟨-, l1, l2, l3, l4⟩ := KS.out wx gx; obtain ⟨v1, v2⟩ := HFZ.out wx gx 0; obtain ⟨v3, v4⟩ := HFZ.out wx gx 1)))
      all_goals
        have HFF := hide hfin
        clear hfin
        go_wp2
        go_meet
      all_goals
        case rel => exact HFF.out
    · obtain ⟨rfl, rfl⟩ := HXYS.out.2 hS
      have HFF : Hid (∃ s1 k1 s2 k2, In3 w (.slice s1 X.shape.length k1) (.slice a2 CX c2) (.slice s2 Y.shape.length k2) (.slice b2 CY d2) W3 ∧ Row 0 W3 s1 X.shape ∧ Row 0 W3 s2 Y.shape ∧ Below w0.heap.size w0 W3) := by
        rw [HSC.out.1, HSC.out.2.2.1]
        exact ⟨_, _, _, _, HI.out, (HRR.out.1.low (Nat.zero_le _)).next HNB.out, (HRR.out.2.low (Nat.zero_le _)).next HNB.out, HNB.out⟩
      have hb : bb = false := by rw [← HBB.out]; exact decide_eq_false hS
      subst hb
      clear hS
      go_wp2
      go_meet
      exact HFF.out
  case rest =>
  obtain ⟨s1, k1, s2, k2, I4, RX, RY, NB4⟩ := hcut
  clear e3 q0 q1 r0 r1
  generalize wc = wA at *
  clear HPX HPY HRR HFQ HFR HXYS HBB HCP HI HNB
  obtain ⟨hXc, hYc, hcX, hcY, hmax⟩ := HXY.out
  have HCHK := hide (And.intro hcX hcY)
  have hX8 := (chk_len hcX).1
  have hY8 := (chk_len hcY).1
  obtain ⟨k, hkk⟩ : ∃ k, joiK last X Y = k := ⟨_, rfl⟩
  have HK : Hid ((last = true → k = max X.shape.length Y.shape.length - 1) ∧ (last = false → k = 0)) := by
    rw [← hkk]; unfold joiK
    exact ⟨fun h => by rw [h]; rfl, fun h => by rw [h]; rfl⟩
  rw [hkk] at HJ
  have hkl : k < max X.shape.length Y.shape.length := by
    cases last
    · have := HK.out.2 rfl; omega
    · have := HK.out.1 rfl; omega
  have hk1 : X.shape.length < Y.shape.length → k = 0 ∨ k + 1 = Y.shape.length := fun h => by
    cases last
    · exact Or.inl (HK.out.2 rfl)
    · have := HK.out.1 rfl; omega
  have hk2 : Y.shape.length < X.shape.length → k = 0 ∨ k + 1 = X.shape.length := fun h => by
    cases last
    · exact Or.inl (HK.out.2 rfl)
    · have := HK.out.1 rfl; omega
  have C := fitted_any X.shape Y.shape s1 s2 k1 k2 k wA RX RY hX8 hY8 hk1 hk2
  unfold FitIs at C
  obtain ⟨⟨P, Q, E⟩, hF⟩ : ∃ F, fitR X.shape Y.shape k = F := ⟨_, rfl⟩
  rw [hF] at C HJ
  simp only at C
  have HF := hide hF
  have HI4 := hide (And.intro I4 NB4)
  have q0 := I4.q0
  have q1 := I4.q1
  have r0 := I4.r0
  have r1 := I4.r1
  have HXL : Hid (joiR last x y = joiT X Y k (P, Q, E)) := HJ.out
  have HKL := hide hkl
  clear hkk HJ HXY hF hk1 hk2 RX RY NB4 I4 hcX hcY
  obtain ⟨TX, hTX⟩ : ∃ z, X.shape.length = z := ⟨_, rfl⟩
  obtain ⟨TY, hTY⟩ : ∃ z, Y.shape.length = z := ⟨_, rfl⟩
  have HTL := hide (And.intro hTX hTY)
  rw [hTX] at C q0 hmax HK HKL HI4 hX8 hkl
  rw [hTY] at C r0 hmax HK HKL HI4 hY8 hkl
  clear hTX hTY
  go_upto_if 30 with fail
  go_cut [8] from 30 to 38 (fun s wx => s = .int .i64 (k : Int) ∧ wx = wA)
  case first =>
    cases last with
    | false =>
      have h0 := HK.out.2 rfl
      clear C
      go_wp2
      go_meet
      exact ⟨by rw [h0]; rfl, rfl⟩
    | true =>
      have h0 := HK.out.1 rfl
      clear C
      go_wp2
      all_goals
        go_meet
        refine ⟨congrArg (Value.int .i64) ?_, rfl⟩
        omega
  case rest =>
  obtain ⟨rfl, hwc⟩ := hcut
  have hwc' := hwc.symm
  subst hwc'
  clear hwc HK
  go_wp2_with fail
  clear q0 q1 r0 r1
  refine C.mono ?_
  clear C
  rintro e wB ⟨⟨pa, np, pc, qa, nq, qc, rfl, hnp, RP, hnq, RQ⟩, hbB⟩
  have I5 := HI4.out.1.next hbB
  have NB5 := HI4.out.2.trans (hbB.mono HI4.out.2.size)
  by_cases hE : E = 0
  case neg =>
    have HE5 : Hid (joiR last x y = (zeroA, E)) := by unfold Hid; rw [HXL.out]; unfold joiT; rw [if_pos hE]
    have hne : (E == 0) = false := beq_eq_false_iff_ne.2 hE
    have HT := hide (I5.put (.slice none 0 0) (.slice none 0 0))
    have HI5 := hide I5
    have p0 := I5.p0
    have p1 := I5.p1
    have f0 := I5.f0
    have f1 := I5.f1
    clear RP RQ hbB I5 NB5 HI4 HCC HXL hnp hnq
    go_wp2
    exact bodyPost_ret (v := .tuple #[.agg #[.slice none 0 0, .slice none 0 0], .int .i64 E]) (by simp [results, Try.results79, go_sem, HT.out.1, HT.out.2]) rfl (gives2k_of HE5.out caps_nil (fun _ _ _ => zeroA_in _ _ _) (HI5.out.fin _ _))
  subst hE
  obtain ⟨hP, hQ, lP, lQ, hsame⟩ := fit_ok HF.out
  have hkP : k < P.length := by rw [lP, HTL.out.1, HTL.out.2]; exact hkl
  have mP : ∀ z ∈ P, 0 ≤ z ∧ z ≤ 16384 := fun z hz => by
    rcases bes_mem hP hz with h | h | h
    · exact (chk_axes HCHK.out.1).1 z h
    · exact (chk_axes HCHK.out.2).1 z h
    · omega
  have mQ : ∀ z ∈ Q, 0 ≤ z ∧ z ≤ 16384 := fun z hz => by
    rcases bes_mem hQ hz with h | h | h
    · exact (chk_axes HCHK.out.2).1 z h
    · exact (chk_axes HCHK.out.1).1 z h
    · omega
  obtain ⟨pb, po, rfl, hpb, hpc⟩ := row_at RP (j := k) hkP
  obtain ⟨qb, qo, rfl, hqb, hqc⟩ := row_at RQ (j := k) (by omega)
  have bP := mP _ (getD_mem hkP)
  have bQ := mQ _ (getD_mem (l := Q) (k := k) (by omega))
  have hjT : Hid (joiR last x y = if ¬ sizeE (P.set k (gI P k + gI Q k)) = 0 then (zeroA, sizeE (P.set k (gI P k + gI Q k))) else if 16384 < gI P k + gI Q k then (zeroA, 12) else if sizeV (P.set k (gI P k + gI Q k)) = 0 then (.mk (P.set k (gI P k + gI Q k)) [], 0) else (.mk (P.set k (gI P k + gI Q k)) (joiC X Y P Q k), 0)) := by
    unfold Hid; rw [HXL.out]; unfold joiT; rw [if_neg (by simp)]
  have HJF := hide (fun h1 h2 => joi_facts HCHK.out.1 HCHK.out.2 HF.out hkP h1 h2)
  change 0 ≤ gI P k ∧ gI P k ≤ 16384 at bP
  change 0 ≤ gI Q k ∧ gI Q k ≤ 16384 at bQ
  change wB.cell? _ = some (.int .i64 (gI P k)) at hpc
  change wB.cell? _ = some (.int .i64 (gI Q k)) at hqc
  obtain ⟨L, hL⟩ : ∃ L, gI P k + gI Q k = L := ⟨_, rfl⟩
  rw [hL] at hjT HJF
  generalize gI P k = zp at *
  generalize gI Q k = zq at *
  have hwL : IntKind.i64.wrap (zp + zq) = L := by rw [hL, IntKind.wrap_i64]; omega
  have hLb : 0 ≤ L ∧ L ≤ 32768 := by omega
  have h8 : P.length ≤ 8 := by rw [lP, HTL.out.1, HTL.out.2]; omega
  have CR : Hid (∀ W, Below wB.heap.size wB W → Calls Try.prog 95 #[.slice (some ⟨pb, po, none⟩) np pc, .int .i64 (k : Int), .int .i64 L] W fun e w' => (∃ a' cap', e = .returned (.tuple #[.slice a' np cap', .int .i64 (sizeV (P.set k L)), .int .i64 (sizeE (P.set k L))]) ∧ Own1 W w' a' cap' (P.set k L)) ∧ Below W.heap.size W w') := by
    intro W h
    have := reshaped_any P (some ⟨pb, po, none⟩) pc k L W (RP.next h) h8 hkP
    rw [hnp]
    exact this
  obtain ⟨SE, hSE⟩ : ∃ z, sizeE (P.set k L) = z := ⟨_, rfl⟩
  obtain ⟨SV, hSV⟩ : ∃ z, sizeV (P.set k L) = z := ⟨_, rfl⟩
  have HSEV := hide (And.intro hSE hSV)
  rw [hSE, hSV] at CR hjT HJF
  have HD0 : Hid (Below wB.heap.size wB wB.drew) := (Below.refl _ _).drew
  have KS : Hid (∀ W, Below wB.heap.size wB W → (Below wB.heap.size wB W ∧ W.cell? ⟨pb, po + k, none⟩ = some (.int .i64 zp) ∧ W.cell? ⟨qb, qo + k, none⟩ = some (.int .i64 zq))) := fun W h => ⟨h, (h.cell (p := ⟨pb, po + k, none⟩) hpb).trans hpc, (h.cell (p := ⟨qb, qo + k, none⟩) hqb).trans hqc⟩
  have HAF : Hid (∀ W W', Below wB.heap.size wB W → Below W.heap.size W W' → Below wB.heap.size wB W') := fun W W' h1 h2 => h1.trans (h2.mono h1.size)
  have HIB : Hid (w.heap.size + 3 ≤ wB.heap.size) := I5.size
  have HI5 := hide (And.intro I5 NB5)
  have HRPQ := hide (And.intro RP RQ)
  have HNPQ := hide (And.intro hnp (And.intro hnq (And.intro hkP h8)))
  clear I5 NB5 RP RQ hbB HI4 hP hQ hsame mP mQ hSE hSV hL lP hpb hqb
  have hk8 : k < np := by rw [hnp]; exact hkP
  have hk8q : k < nq := by rw [hnq]; omega
  clear hnp hnq lQ hkP h8
  go_wp2
  go_cut [12, 13, 11] from 53 to 68 (fun s12 s13 s11 wx => ∃ wv as' cs', s12 = .slice as' np cs' ∧ s13 = .int .i64 SV ∧ s11 = .int .i64 SE ∧ Below wB.heap.size wB wv ∧ Below wv.heap.size wv wx ∧ Own1 wv wx as' cs' (P.set k L))
  case first =>
    go_region_held3 (fun W => Below wB.heap.size wB W ∧ W.cell? ⟨pb, po + k, none⟩ = some (.int .i64 zp) ∧ W.cell? ⟨qb, qo + k, none⟩ = some (.int .i64 zq))
      (first | with_reducible exact KS.out _ HD0.out | with_reducible exact KS.out _ (HAF.out _ _ HD0.out (by with_reducible assumption)))
      (first | (go_at_call 95; (with_reducible refine (CR.out _ HD0.out).mono ?_); rintro e w9 ⟨⟨as', cs', rfl, ho⟩, hb9⟩))
    have HF9 := hide (And.intro ho hb9)
    clear ho hb9
    go_wp2
    go_meet
    exact ⟨_, _, _, rfl, rfl, rfl, HD0.out, HF9.out.2, HF9.out.1⟩
  case rest =>
  obtain ⟨wv, as', cs', rfl, rfl, rfl, hbv, hb9, ho⟩ := hcut
  generalize wc = wC at *
  have BWC : Below wB.heap.size wB wC := hbv.trans (hb9.mono hbv.size)
  have I9 := HI5.out.1.next BWC
  have NB9 := HI5.out.2.trans (BWC.mono HI5.out.2.size)
  have hLS : (P.set k L).length = np := by rw [List.length_set]; exact HNPQ.out.1.symm
  have HRP := hide (HRPQ.out.1.next BWC)
  have HRQ := hide (HRPQ.out.2.next BWC)
  have HO9 := hide (And.intro ho (And.intro hbv hb9))
  have HI9 := hide (And.intro I9 NB9)
  clear KS HAF HD0 CR HRPQ HI5 hpc hqc hwL
  by_cases hS1 : SE = 0
  case neg =>
    have HE5 : Hid (joiR last x y = (zeroA, SE)) := by unfold Hid; rw [hjT.out, if_pos hS1]
    have hne : (SE == 0) = false := beq_eq_false_iff_ne.2 hS1
    have HT := hide (I9.put (.slice none 0 0) (.slice none 0 0))
    have p0 := I9.p0
    have p1 := I9.p1
    have f0 := I9.f0
    have f1 := I9.f1
    clear hb9 hbv ho I9 NB9 HCC hjT HJF BWC
    go_wp2
    exact bodyPost_ret (v := .tuple #[.agg #[.slice none 0 0, .slice none 0 0], .int .i64 SE]) (by simp [results, Try.results79, go_sem, HT.out.1, HT.out.2]) rfl (gives2k_of HE5.out caps_nil (fun _ _ _ => zeroA_in _ _ _) (HI9.out.1.fin _ _))
  subst hS1
  obtain ⟨gb, go', rfl, hgb, hgc⟩ := row_at ho.2.2 (j := k) (by rw [hLS]; exact hk8)
  have egl : (P.set k L)[k]?.getD 0 = L := by
    have := gI_set P k k L HNPQ.out.2.2.1
    rw [if_pos rfl] at this
    exact this
  rw [egl] at hgc
  by_cases h16 : 16384 < L
  · have HE5 : Hid (joiR last x y = (zeroA, 12)) := by unfold Hid; rw [hjT.out, if_neg (by simp), if_pos h16]
    have HT := hide (I9.put (.slice none 0 0) (.slice none 0 0))
    have p0 := I9.p0
    have p1 := I9.p1
    have f0 := I9.f0
    have f1 := I9.f1
    clear hb9 hbv ho I9 NB9 HCC hjT HJF BWC egl hgb
    go_wp2
    exact bodyPost_ret (v := .tuple #[.agg #[.slice none 0 0, .slice none 0 0], .int .i64 12]) (by simp [results, Try.results79, go_sem, HT.out.1, HT.out.2]) rfl (gives2k_of HE5.out caps_nil (fun _ _ _ => zeroA_in _ _ _) (HI9.out.1.fin _ _))
  have hcap9 : np ≤ cs' := by have := ho.1; rw [hLS] at this; exact this
  have HSHP : Hid (∀ V, Keeps (w.heap.size + 3) wC V → Row 0 V (some ⟨gb, go', none⟩) (P.set k L)) := by
    intro V hK
    have h3 := HI9.out.1.size
    have hwv : w.heap.size + 3 ≤ wv.heap.size := Nat.le_trans (show w.heap.size + 3 ≤ wB.heap.size from by
      have := HIB.out; exact this) hbv.size
    exact ((ho.2.2.low hwv).keeps hK).low (Nat.zero_le _)
  by_cases hV0 : SV = 0
  · subst hV0
    have HE5 : Hid (joiR last x y = (.mk (P.set k L) [], 0)) := by unfold Hid; rw [hjT.out, if_neg (by simp), if_neg h16, if_pos rfl]
    have HT := hide (I9.put (.slice (some ⟨gb, go', none⟩) np cs') (.slice none 0 0))
    have p0 := I9.p0
    have p1 := I9.p1
    have f0 := I9.f0
    have f1 := I9.f1
    have HF : Hid (∀ u v, Gives2K (n + 1) w0 (joiR last x y).1 (joiR last x y).2 w (.returned (.tuple #[.agg #[.slice (some ⟨gb, go', none⟩) np cs', .slice none 0 0], .int .i64 0])) ((wC.setCell ⟨w.heap.size + 2, 0, none⟩ u).setCell ⟨w.heap.size + 2, 1, none⟩ v)) := by
      intro u v
      refine gives2k_of HE5.out ⟨_, _, _, _, _, _, rfl, hcap9, Nat.le_refl _⟩ (fun W hW hK => ?_) (I9.fin u v)
      have K2 := (keeps_three wC w.heap.size u v).trans (hK.mono (show w.heap.size ≤ w.heap.size + 3 by omega))
      exact arIn_mk (x := .mk (P.set k L) []) (HSHP.out W K2) (by simp [Ar.cells]) (Or.inl rfl) hLS rfl
    clear hb9 hbv ho I9 NB9 HCC hjT HJF BWC egl hgb
    go_wp2
    exact bodyPost_ret (v := .tuple #[.agg #[.slice (some ⟨gb, go', none⟩) np cs', .slice none 0 0], .int .i64 0]) (by simp [results, Try.results79, go_sem, HT.out.1, HT.out.2]) rfl (HF.out _ _)
  have hVb : (SV == 0) = false := beq_eq_false_iff_ne.2 hV0
  obtain ⟨tt, one, two, NP, NQ, ht, ht16, sT, sP, hNP, sQ, hNQ, lA, lB, sS, h16'⟩ := HJF.out rfl hV0
  have HE5 : Hid (joiR last x y = (.mk (P.set k L) (joiC X Y P Q k), 0)) := by unfold Hid; rw [hjT.out, if_neg (by simp), if_neg h16, if_neg hV0]
  have HJC : Hid (joiC X Y P Q k = mkCs (tt * one + tt * two) (turnF (cAt (cinL TX x.cells NP)) (cAt (cinL TY y.cells NQ)) one two)) := by
    unfold Hid joiC
    rw [sP, sQ, Int.toNat_natCast, Int.toNat_natCast, sT, Int.toNat_natCast, lA, lB, Nat.mul_div_cancel_left _ ht, Nat.mul_div_cancel_left _ ht, HTL.out.1, HTL.out.2, hXc, hYc]
  rw [HTL.out.1, hXc] at lA
  rw [HTL.out.2, hYc] at lB
  have hp1 : ∀ W, (Instr.sliceAt 22 (.slice (some ⟨gb, go', none⟩) np cs') none (some (.int .i64 (k : Int))) none).run Try.prog W = .ok (.slice (some ⟨gb, go', none⟩) k cs') W := fun W => part_h (P := Try.prog) Try.underlying22 size3 (some ⟨gb, go', none⟩) np cs' k (k : Int) rfl (by omega) W
  have RTK : Row wv.heap.size wC (some ⟨gb, go', none⟩) ((P.set k L).take k) := by
    have := ho.2.2.part 0 cs' k (by rw [hLS]; omega) (by rw [hLS]; exact hcap9)
    rw [List.drop_zero, subA_zero] at this
    exact this
  have lTK : ((P.set k L).take k).length = k := by rw [List.length_take, hLS]; omega
  have CS := size_any ((P.set k L).take k) (some ⟨gb, go', none⟩) cs' wC RTK
  rw [lTK, take_set, sT] at CS
  generalize sizeE (P.take k) = ET at CS
  obtain ⟨hcx, hcy, capx, capy⟩ := HCC.out
  have CC1 : Hid (∀ W, Below wC.heap.size wC W → Calls Try.prog 101 #[.agg #[.slice s1 TX k1, .slice a2 CX c2], .slice (some ⟨pb, po, none⟩) np pc] W fun e w' => (∃ a n' c, e = .returned (.slice a n' c) ∧ CinP n lo w0 w' (cinL TX x.cells NP) a n' c) ∧ Below wC.heap.size wC w' ∧ Below W.heap.size W w') := by
    intro W h
    have := cellsIn_any TX x.cells P s1 a2 (some ⟨pb, po, none⟩) k1 c2 pc NP hcx (NB9.trans (h.mono NB9.size)) (by rw [HSC.out.2.1]; exact capx) (HRP.out.next h) (fun h0 => by rw [← hXc]; exact (atom_one HCHK.out.1 (by rw [HTL.out.1]; exact h0)).2) hX8 sP hNP
    rw [HSC.out.2.1, ← HNPQ.out.1] at this
    refine this.mono ?_
    rintro e w' ⟨hh, hb⟩
    exact ⟨hh, h.trans (hb.mono h.size), hb⟩
  have CC2 : Hid (∀ W, Below wC.heap.size wC W → Calls Try.prog 101 #[.agg #[.slice s2 TY k2, .slice b2 CY d2], .slice (some ⟨qb, qo, none⟩) nq qc] W fun e w' => (∃ a n' c, e = .returned (.slice a n' c) ∧ CinP n lo' w0 w' (cinL TY y.cells NQ) a n' c) ∧ Below wC.heap.size wC w' ∧ Below W.heap.size W w') := by
    intro W h
    have := cellsIn_any TY y.cells Q s2 b2 (some ⟨qb, qo, none⟩) k2 d2 qc NQ hcy (NB9.trans (h.mono NB9.size)) (by rw [HSC.out.2.2.2]; exact capy) (HRQ.out.next h) (fun h0 => by rw [← hYc]; exact (atom_one HCHK.out.2 (by rw [HTL.out.2]; exact h0)).2) hY8 sQ hNQ
    rw [HSC.out.2.2.2, ← HNPQ.out.2.1] at this
    refine this.mono ?_
    rintro e w' ⟨hh, hb⟩
    exact ⟨hh, h.trans (hb.mono h.size), hb⟩
  obtain ⟨NN, hNN⟩ : ∃ z, tt * one + tt * two = z := ⟨_, rfl⟩
  have CT : Hid (∀ W a nA cA b nB cB, Below wC.heap.size wC W → CinP n lo w0 W (cinL TX x.cells NP) a nA cA → CinP n lo' w0 W (cinL TY y.cells NQ) b nB cB → Calls Try.prog 100 #[.slice a nA cA, .slice b nB cB, .int .i64 (tt : Int)] W fun e w' => (∃ g, e = .returned (.slice (some ⟨g, 0, none⟩) NN NN) ∧ ∀ V, Below w0.heap.size w0 V → Keeps W.heap.size w' V → CellsIn n 0 V (joiC X Y P Q k) (some ⟨g, 0, none⟩)) ∧ Below wC.heap.size wC w' ∧ Below W.heap.size W w') := by
    intro W a nA cA b nB cB h hA hB
    rw [HJC.out, ← hNN]
    exact turned_cells h hA hB ht ht16 lA lB h16'
  have hlen : (joiC X Y P Q k).length = NN := by rw [HJC.out, mkCs_len, hNN]
  have HLN := hide (And.intro hlen (And.intro hNN h16'))
  have q0 := I9.q0
  have q1 := I9.q1
  have r0 := I9.r0
  have r1 := I9.r1
  have HD0 : Hid (Below wC.heap.size wC wC.drew) := (Below.refl _ _).drew
  have KS : Hid (∀ W, Below (w.heap.size + 2) wC W → (Below (w.heap.size + 2) wC W ∧ W.cell? ⟨w.heap.size, 0, none⟩ = some (.slice s1 TX k1) ∧ W.cell? ⟨w.heap.size, 1, none⟩ = some (.slice a2 CX c2) ∧ W.cell? ⟨w.heap.size + 1, 0, none⟩ = some (.slice s2 TY k2) ∧ W.cell? ⟨w.heap.size + 1, 1, none⟩ = some (.slice b2 CY d2))) := fun W h => ⟨h, (h.cell (p := ⟨w.heap.size, 0, none⟩) (by show w.heap.size < _; omega)).trans HI9.out.1.q0, (h.cell (p := ⟨w.heap.size, 1, none⟩) (by show w.heap.size < _; omega)).trans HI9.out.1.q1, (h.cell (p := ⟨w.heap.size + 1, 0, none⟩) (by show w.heap.size + 1 < _; omega)).trans HI9.out.1.r0, (h.cell (p := ⟨w.heap.size + 1, 1, none⟩) (by show w.heap.size + 1 < _; omega)).trans HI9.out.1.r1⟩
  have HMN : Hid (∀ W, Below wC.heap.size wC W → Below (w.heap.size + 2) wC W) := fun W h => h.mono (by have := HI9.out.1.size; omega)
  have HSE : Hid (∀ W u v, Below wC.heap.size wC W → Below (w.heap.size + 2) wC ((W.setCell ⟨w.heap.size + 1 + 1, 0, none⟩ u).setCell ⟨w.heap.size + 1 + 1, 1, none⟩ v)) := fun W u v h => ((HMN.out W h).setCell (p := ⟨w.heap.size + 1 + 1, 0, none⟩) (Nat.le_refl _) u).setCell (p := ⟨w.heap.size + 1 + 1, 1, none⟩) (Nat.le_refl _) v
  have HCPS := hide (And.intro hcap9 hLS)
  clear HCC hjT HJF BWC egl hgb ho hb9 hbv I9 NB9 RTK lTK hcx hcy capx capy sT sP sQ lA lB sS h16' hlen hNN HRP HRQ hNP hNQ hXc hYc
  go_wp2_with fail
  refine CS.mono ?_
  clear CS
  rintro e wZ ⟨rfl, rfl⟩
  clear hp1 hgc
  go_wp2
  go_region_held3 (fun W => Below (w.heap.size + 2) wZ W ∧ W.cell? ⟨w.heap.size, 0, none⟩ = some (.slice s1 TX k1) ∧ W.cell? ⟨w.heap.size, 1, none⟩ = some (.slice a2 CX c2) ∧ W.cell? ⟨w.heap.size + 1, 0, none⟩ = some (.slice s2 TY k2) ∧ W.cell? ⟨w.heap.size + 1, 1, none⟩ = some (.slice b2 CY d2))
    (first | with_reducible exact KS.out _ (HMN.out _ HD0.out) | with_reducible exact KS.out _ (HMN.out _ (by with_reducible assumption)) | with_reducible exact KS.out _ (HSE.out _ _ _ (by with_reducible assumption)))
    (first
      | (go_at_call 101; first
          | ((with_reducible refine (CC1.out _ HD0.out).mono ?_); rintro e wx ⟨⟨ax, nx, cx, rfl, hx'⟩, gx, hbx⟩)
          | ((with_reducible refine (CC2.out _ HD0.out).mono ?_); rintro e wy ⟨⟨ay, ny, cy, rfl, hy'⟩, gy, hby⟩)
          | ((with_reducible refine (CC2.out wx gx).mono ?_); rintro e wy ⟨⟨ay, ny, cy, rfl, hy'⟩, gy, hby⟩)
          | ((with_reducible refine (CC1.out wy gy).mono ?_); rintro e wx ⟨⟨ax, nx, cx, rfl, hx'⟩, gx, hbx⟩))
      | (go_at_call 100; first
          | ((with_reducible refine (CT.out wy ax nx cx ay ny cy gy (hx'.next hby) hy').mono ?_); rintro e wt ⟨⟨g, rfl, hcells⟩, gt, hbt⟩; have hsz := gy.size; obtain ⟨p0, p1, f0, f1⟩ : _ ∧ _ ∧ _ ∧ _ := ⟨(HI9.out.1.next gt).p0, (HI9.out.1.next gt).p1, (HI9.out.1.next gt).f0, (HI9.out.1.next gt).f1⟩)
          | ((with_reducible refine (CT.out wx ax nx cx ay ny cy gx hx' (hy'.next hbx)).mono ?_); rintro e wt ⟨⟨g, rfl, hcells⟩, gt, hbt⟩; have hsz := gx.size; obtain ⟨p0, p1, f0, f1⟩ : _ ∧ _ ∧ _ ∧ _ := ⟨(HI9.out.1.next gt).p0, (HI9.out.1.next gt).p1, (HI9.out.1.next gt).f0, (HI9.out.1.next gt).f1⟩)))
  all_goals
    have I10 := HI9.out.1.next gt
    have HT := hide (I10.put (.slice (some ⟨gb, go', none⟩) np cs') (.slice (some ⟨g, 0, none⟩) NN NN))
    have HF : Hid (∀ u v, Gives2K (n + 1) w0 (joiR last x y).1 (joiR last x y).2 w (.returned (.tuple #[.agg #[.slice (some ⟨gb, go', none⟩) np cs', .slice (some ⟨g, 0, none⟩) NN NN], .int .i64 0])) ((wt.setCell ⟨w.heap.size + 2, 0, none⟩ u).setCell ⟨w.heap.size + 2, 1, none⟩ v)) := by
      intro u v
      refine gives2k_of HE5.out ⟨_, _, _, _, _, _, rfl, HCPS.out.1, Nat.le_refl _⟩ (fun W hW hK => ?_) (I10.fin u v)
      have h3 := HI9.out.1.size
      have K2 := (keeps_three wt w.heap.size u v).trans (hK.mono (show w.heap.size ≤ w.heap.size + 3 by omega))
      exact arIn_mk (x := .mk (P.set k L) (joiC X Y P Q k)) (HSHP.out W ((keeps_of_below gt).trans K2)) (by show (joiC X Y P Q k).length ≤ _; rw [HLN.out.1, ← HLN.out.2.1]; have := HLN.out.2.2; omega) (hcells W hW (K2.mono (by omega))) HCPS.out.2 HLN.out.1
    clear I10 hcells gt hbt
    go_wp2
    exact bodyPost_ret (v := .tuple #[.agg #[.slice (some ⟨gb, go', none⟩) np cs', .slice (some ⟨g, 0, none⟩) NN NN], .int .i64 0]) (by simp [results, Try.results79, go_sem, HT.out.1, HT.out.2]) rfl (HF.out _ _)
end Go.Proofs.Ytmjncdhahdpplaa
namespace Go.Proofs.Ytmjncdhahdpplaa
open Go.ChangeShapes Go.WideShapes Go.ChangeAt Go.RowKit
set_option linter.unusedVariables false
set_option maxRecDepth 100000
/-- How often a place stands. -/
def oCnt (cs : List Ce) (i : Nat) : Int := (cAt cs (i % cs.length)).2.1
/-- The places, each so often as it stands. -/
def oftL (cs : List Ce) : Nat → List Int
  | 0 => []
  | i + 1 => oftL cs i ++ List.replicate (oCnt cs i).toNat (i : Int)
theorem oftL_len (cs : List Ce) (i : Nat) : (oftL cs (i + 1)).length = (oftL cs i).length + (oCnt cs i).toNat := by simp [oftL]
theorem oftL_mono (cs : List Ce) {i j : Nat} (h : i ≤ j) : (oftL cs i).length ≤ (oftL cs j).length := by
  induction j with
  | zero => rw [Nat.le_zero.1 h]; exact Nat.le_refl _
  | succ j ih =>
    rcases Nat.lt_or_ge i (j + 1) with h1 | h1
    · rw [oftL_len]; have := ih (by omega); omega
    · rw [Nat.le_antisymm h h1]; exact Nat.le_refl _
def OftP (cs : List Ce) (long : Nat) (w w' : World) (a : Option Addr) (N cap : Nat) (E : Int) : Prop := (16384 < (oftL cs long).length ∧ E = 12) ∨ ((oftL cs long).length ≤ 16384 ∧ E = 0 ∧ N = (oftL cs long).length ∧ Own1 w w' a cap (oftL cs long))
def OftIs (cs : List Ce) (long : Nat) (w : World) (e : Ending) (w' : World) : Prop := (∃ a N cap E, e = .returned (.tuple #[.slice a N cap, .int .i64 E]) ∧ OftP cs long w w' a N cap E) ∧ Below w.heap.size w w'
set_option maxHeartbeats 4000000 in
theorem often_any {n lo : Nat} (cs : List Ce) (a2 : Option Addr) (c2 long : Nat) (w : World) (hc : CellsIn n lo w cs a2) (hlen : cs.length ≤ 16384) (hlong : long ≤ 16384) (h0 : 0 < long → 0 < cs.length) (hpos : ∀ i, i < cs.length → 0 ≤ (cAt cs i).2.1) :
    Calls Try.prog 103 #[.slice a2 cs.length c2, .int .i64 (long : Int)] w fun e w' => OftIs cs long w e w' := by
  obtain ⟨i3, hi3, hz30, hz31, hz32⟩ := infoI3
  obtain ⟨ab, cb, hcf⟩ := cells_fn hc
  have HCF := hide hcf
  have HP := hide hpos
  have HH0 := hide h0
  obtain ⟨CA, hCA⟩ : ∃ CA, cs.length = CA := ⟨_, rfl⟩
  have HCA := hide hCA
  rw [hCA] at hlen HCF HP HH0 ⊢
  have HO : Hid ((w.alloc (.cells #[] 3)).ownsRow w.heap.size 3 1 (.slice (some ⟨w.heap.size, 0, none⟩) 0 0) 0 []) := World.ownsRow_lit (base := w.heap.size) (e := 3) (size := 1) w #[] 0 (Nat.le_refl _) (by unfold maxLen; omega) rfl
  have HB := hide (one_alloc w (.cells #[] 3))
  clear hc hcf hpos h0 hCA
  go_enter Try.func103, Try.ntmps103
  go_wp2
  go_loopg [6, 11] long (fun g mv i wr => ∃ (j : Nat) (a : Option Addr) (c : Nat), g + j = long ∧ i = .int .i64 (j : Int) ∧ mv = .slice a (oftL cs j).length c ∧ Below w.heap.size w wr ∧ (oftL cs j).length ≤ 16384 ∧ wr.ownsRow w.heap.size 3 1 (.slice a (oftL cs j).length c) (oftL cs j).length ((oftL cs j).map (Value.int .i64)))
  case atStart => exact ⟨0, _, _, rfl, rfl, rfl, HB.out, by simp [oftL], HO.out⟩
  case round =>
    clear HO HB
    obtain ⟨j, a0, c0, hg, rfl, rfl, hbw, hL, hown⟩ := hrel
    by_cases hlt : j < long
    · have hCp := HH0.out (by omega)
      have hq : j % CA < CA := Nat.mod_lt _ hCp
      obtain ⟨b, off, rfl, -, hb, hcells⟩ := HCF.out hCp
      obtain ⟨-, g1, -, -⟩ := hcells (j % CA) hq
      have u1 := (hbw.cell (p := ⟨b, off + j % CA * 3 + 1, none⟩) hb).trans g1
      have HCNT : Hid (oCnt cs j = (cAt cs (j % CA)).2.1) := by unfold Hid oCnt; rw [HCA.out]
      have hN0 := HP.out (j % CA) hq
      have htm : (j : Int).tmod (CA : Int) = ((j % CA : Nat) : Int) := by rw [Int.tmod_eq_emod_of_nonneg (by omega)]; omega
      have hne : ¬ (CA : Int) = 0 := by omega
      have hne' : ¬ CA = 0 := by omega
      generalize (cAt cs (j % CA)).2.1 = NN at *
      generalize j % CA = q at *
      obtain ⟨L, hLL⟩ : ∃ L, (oftL cs j).length = L := ⟨_, rfl⟩
      have HL := hide hLL
      rw [hLL] at hL hown
      simp only [hLL]
      by_cases hbig : (16384 : Int) - (L : Int) < NN
      · have HF : Hid (OftIs cs long w (.returned (.tuple #[.slice none 0 0, .int .i64 12])) wr) := by
          refine ⟨⟨_, _, _, _, rfl, Or.inl ⟨?_, rfl⟩⟩, hbw⟩
          have h1 := oftL_mono cs (show j + 1 ≤ long by omega)
          rw [oftL_len, HCNT.out, HL.out] at h1
          omega
        clear hown hbw hcells g1 hLL
        go_wp2
        exact bodyPost_ret (v := .tuple #[.slice none 0 0, .int .i64 12]) (by simp [results, Try.results103, go_sem]) rfl HF.out
      · have HIN := hide (And.intro hbw hown)
        have hNle : NN ≤ 16384 := by omega
        have HSTEP : Hid (oftL cs (j + 1) = oftL cs j ++ List.replicate NN.toNat (j : Int)) := by
          unfold Hid
          show oftL cs j ++ List.replicate (oCnt cs j).toNat (j : Int) = _
          rw [HCNT.out]
        clear hown hbw hcells g1 hLL HCNT
        go_wp2
        go_loopg [6, 28] NN.toNat (fun g mv i wr => ∃ (t : Nat) (a : Option Addr) (c : Nat), g + t = NN.toNat ∧ i = .int .i64 (t : Int) ∧ mv = .slice a (L + t) c ∧ Below w.heap.size w wr ∧ wr.ownsRow w.heap.size 3 1 (.slice a (L + t) c) (L + t) ((oftL cs j ++ List.replicate t (j : Int)).map (Value.int .i64)))
        case atStart => exact ⟨0, _, _, rfl, rfl, rfl, HIN.out.1, by simpa using HIN.out.2⟩
        case round =>
          clear HIN
          obtain ⟨t, a5, c5, hgt, rfl, rfl, hbq, hownq⟩ := hrel
          by_cases htl : t < NN.toNat
          · have htN : (t : Int) < NN := by omega
            obtain ⟨W1, e1⟩ : ∃ W1, wr.alloc (.cells #[.int .i64 (j : Int)] 3) = W1 := ⟨_, rfl⟩
            have B1 : Below wr.heap.size wr W1 := by rw [← e1]; exact one_alloc _ _
            have HOWN : Hid (W1.ownsRow w.heap.size 3 1 (.slice a5 (L + t) c5) (L + t) ((oftL cs j ++ List.replicate t (j : Int)).map (Value.int .i64))) := by rw [← e1]; exact hownq.alloc _
            have HLI : Hid (Lies W1 (some ⟨wr.heap.size, 0, none⟩) [.int .i64 (j : Int)]) := by
              have : Row 0 W1 (some ⟨wr.heap.size, 0, none⟩) [(j : Int)] := by rw [← e1]; exact row_one (by simp) (Nat.zero_le _) (cell_new0 wr _ 3 0 _ rfl)
              exact this.lies
            have HBW : Hid (Below w.heap.size w W1) := hbq.trans (B1.mono hbq.size)
            clear hownq hbq B1
            go_wp2_with (at_builtin; refine wpList_append_any rfl _ _ 22 rfl w.heap.size 3 i3 (.int .i64 0) 1 8 Try.underlying22 hi3 hz30 hz31 hz32 rfl (by decide) _ (L + t) _ rfl HOWN.out (some ⟨wr.heap.size, 0, none⟩) 1 1 [.int .i64 (j : Int)] rfl rfl HLI.out ?c3 ?c4 HBW.out.size ?_)
            case c3 => unfold maxLen; omega
            case c4 => omega
            intro v' w5 hown5 hb5
            obtain ⟨a6, c6, rfl⟩ : ∃ a c, v' = .slice a (L + (t + 1)) c := by obtain ⟨a, c, h, -⟩ := owns_cap hown5; exact ⟨a, c, h⟩
            have HF : Hid (Below w.heap.size w w5 ∧ w5.ownsRow w.heap.size 3 1 (.slice a6 (L + (t + 1)) c6) (L + (t + 1)) ((oftL cs j ++ List.replicate (t + 1) (j : Int)).map (Value.int .i64))) := ⟨HBW.out.trans hb5, by
              have e : (oftL cs j ++ List.replicate (t + 1) (j : Int)).map (Value.int .i64) = (oftL cs j ++ List.replicate t (j : Int)).map (Value.int .i64) ++ [.int .i64 (j : Int)] := by simp [List.replicate_succ']
              rw [e]; simp only [List.map_append, List.map_replicate, List.append_assoc]; exact hown5⟩
            clear hown5 hb5 HOWN HLI HBW e1
            go_wp2
            go_roundg (NN.toNat - (t + 1))
            case rel => exact ⟨t + 1, _, _, by omega, by go_num, rfl, HF.out.1, HF.out.2⟩
            case measure => omega
          · have hte : ¬ (t : Int) < NN := by omega
            have hteq : t = NN.toNat := by omega
            have HF : Hid (Below w.heap.size w wr ∧ (oftL cs (j + 1)).length ≤ 16384 ∧ wr.ownsRow w.heap.size 3 1 (.slice a5 (L + t) c5) (oftL cs (j + 1)).length ((oftL cs (j + 1)).map (Value.int .i64)) ∧ (oftL cs (j + 1)).length = L + t) := by
              rw [HSTEP.out, ← hteq, List.length_append, List.length_replicate, HL.out]
              exact ⟨hbq, by omega, hownq, rfl⟩
            clear hbq hownq hteq
            go_wp2
            go_roundg (long - (j + 1))
            case rel => exact ⟨j + 1, _, _, by omega, by go_num, by rw [HF.out.2.2.2], HF.out.1, HF.out.2.1, by rw [HF.out.2.2.2] at *; exact HF.out.2.2.1⟩
            case measure => omega
    · have hje : j = long := by omega
      subst hje
      obtain ⟨a, cap, he, ho⟩ := own1_of hL hown
      simp only [Value.slice.injEq] at he
      obtain ⟨rfl, -, rfl⟩ := he
      have HF : Hid (OftIs cs j w (.returned (.tuple #[.slice a0 (oftL cs j).length c0, .int .i64 0])) wr) := ⟨⟨_, _, _, _, rfl, Or.inr ⟨hL, rfl, rfl, ho⟩⟩, hbw⟩
      clear hown ho hbw
      generalize (oftL cs j).length = L at *
      go_wp2
      exact bodyPost_ret (v := .tuple #[.slice a0 L c0, .int .i64 0]) (by simp [results, Try.results103, go_sem]) rfl HF.out
end Go.Proofs.Ytmjncdhahdpplaa
namespace Go.Proofs.Ytmjncdhahdpplaa
open Go.ChangeShapes Go.WideShapes Go.ChangeAt Go.RowKit
set_option linter.unusedVariables false
set_option maxRecDepth 100000
theorem belowN {B : Nat} {a w : World} (h : Below B a w) (n : Nat) : Below B a (w.drewN n) := h.trans ⟨rfl, rfl, rfl, Nat.le_refl _, fun _ _ => rfl⟩
theorem oftL_mem (cs : List Ce) (j : Nat) {z : Int} (h : z ∈ oftL cs j) : 0 ≤ z ∧ z < (j : Int) := by
  induction j with
  | zero => simp [oftL] at h
  | succ j ih =>
    rcases List.mem_append.1 h with h1 | h1
    · have := ih h1; omega
    · have := List.eq_of_mem_replicate h1; omega
theorem oftL_in (cs : List Ce) (j i : Nat) (hi : i < (oftL cs j).length) : 0 ≤ gI (oftL cs j) i ∧ gI (oftL cs j) i < (j : Int) := oftL_mem cs j (getD_mem hi)
def repF (x : Ar) (i : Nat) : Int := if ¬ (cAt x.cells i).1 = 0 ∨ (cAt x.cells i).2.1 < 0 then 5 else 0
def repR (x y : Ar) (k : Nat) : Ar × Int :=
  if 1 < x.shape.length then (zeroA, 6) else if ¬ firstUp (repF x) x.cells.length = 0 then (zeroA, 5) else
  if x.shape.length = 1 ∧ ¬ (x.cells.length : Int) = gI y.shape k then (zeroA, 7) else
  if 16384 < (oftL x.cells (gI y.shape k).toNat).length then (zeroA, 12) else
  if ¬ sizeE (y.shape.set k ((oftL x.cells (gI y.shape k).toNat).length : Int)) = 0 then (zeroA, sizeE (y.shape.set k ((oftL x.cells (gI y.shape k).toNat).length : Int))) else
  (alongA y k (oftL x.cells (gI y.shape k).toNat), 0)
theorem repF_pos {x : Ar} {N : Nat} (h : firstUp (repF x) N = 0) (i : Nat) (hi : i < N) : (cAt x.cells i).1 = 0 ∧ 0 ≤ (cAt x.cells i).2.1 := by
  have h1 := firstUp_zero h i (by omega)
  have h2 := firstUp_zero h (i + 1) (by omega)
  rw [firstUp_step h1] at h2
  unfold repF at h2
  by_cases hc : ¬ (cAt x.cells i).1 = 0 ∨ (cAt x.cells i).2.1 < 0
  · rw [if_pos hc] at h2; omega
  · exact ⟨Classical.not_not.1 fun h => hc (Or.inl h), by omega⟩
set_option maxHeartbeats 8000000 in
theorem repeated_row {n m lo lo' lo2 k : Nat} {x y : Ar} {va : Value} {b1 b2 : Option Addr} {d1 d2 : Nat} {w0 w : World} (hx : ArIn (m + 1) lo w0 x va) (R' : Row lo2 w b1 y.shape) (hc' : CellsIn n lo' w0 y.cells b2) (hb0 : Below w0.heap.size w0 w) (hcx : chkA 8 x = 0) (hcy : chkA 8 y = 0) (hcap : Caps (.agg #[.slice b1 y.shape.length d1, .slice b2 y.cells.length d2])) (hk : k < y.shape.length) :
    Calls Try.prog 81 #[va, .agg #[.slice b1 y.shape.length d1, .slice b2 y.cells.length d2], .int .i64 (k : Int)] w fun e w' => Gives2K (n + 1) w0 (repR x y k).1 (repR x y k).2 w e w' := by
  obtain ⟨a1, c1, a2, c2, rfl, R, hc⟩ := hx.form
  have I := in3_new w (.slice a1 x.shape.length c1) (.slice a2 x.cells.length c2) (.slice b1 y.shape.length d1) (.slice b2 y.cells.length d2)
  obtain ⟨W3, e3⟩ : ∃ W3, ((w.alloc (.cells #[.slice a1 x.shape.length c1, .slice a2 x.cells.length c2] 25)).alloc (.cells #[.slice b1 y.shape.length d1, .slice b2 y.cells.length d2] 25)).alloc (.cells #[.slice none 0 0, .slice none 0 0] 25) = W3 := ⟨_, rfl⟩
  rw [e3] at I
  have HI := hide I
  have HB0 := hide hb0
  have HY := hide (And.intro hc' (And.intro hcy hcap))
  have HRY := hide R'
  have HXC := hide hc
  obtain ⟨lx8, cx16⟩ := chk_len hcx
  obtain ⟨ly8, cy16⟩ := chk_len hcy
  have hDb := (chk_axes hcy).1 (gI y.shape k) (getD_mem hk)
  obtain ⟨D, hD⟩ : ∃ D : Nat, gI y.shape k = (D : Int) := ⟨(gI y.shape k).toNat, by omega⟩
  have hD16 : D ≤ 16384 := by omega
  have HA1 := hide (fun h => (atom_one hcx h).2)
  have HE : Hid (repR x y k = if 1 < x.shape.length then (zeroA, 6) else if ¬ firstUp (repF x) x.cells.length = 0 then (zeroA, 5) else if x.shape.length = 1 ∧ ¬ (x.cells.length : Int) = (D : Int) then (zeroA, 7) else if 16384 < (oftL x.cells D).length then (zeroA, 12) else if ¬ sizeE (y.shape.set k ((oftL x.cells D).length : Int)) = 0 then (zeroA, sizeE (y.shape.set k ((oftL x.cells D).length : Int))) else (alongA y k (oftL x.cells D), 0)) := by unfold Hid repR; rw [hD, Int.toNat_natCast]
  have HD := hide hD
  obtain ⟨by', oy, rfl, hby, hcy0⟩ := row_at R' (j := k) hk
  have eg : y.shape[k]?.getD 0 = (D : Int) := hD
  rw [eg] at hcy0
  have HCY0 := hide (And.intro hby hcy0)
  obtain ⟨ab, cb, hcf⟩ := cells_fn hc
  have HCF := hide hcf
  have q0 := I.q0
  have q1 := I.q1
  have p0 := I.p0
  have p1 := I.p1
  have f0 := I.f0
  have f1 := I.f1
  have HT0 := hide (I.put (.slice none 0 0) (.slice none 0 0))
  have HGO : Hid (∀ l a c W, Row lo2 W a l → _) := fun l a c W (h : Row lo2 W a l) hl hk' long => reshaped_any l a c k long W h hl hk'
  obtain ⟨SX, hSX⟩ : ∃ SX, x.shape.length = SX := ⟨_, rfl⟩
  obtain ⟨CX, hCX⟩ : ∃ CX, x.cells.length = CX := ⟨_, rfl⟩
  obtain ⟨SY, hSY⟩ : ∃ SY, y.shape.length = SY := ⟨_, rfl⟩
  obtain ⟨CY, hCY⟩ : ∃ CY, y.cells.length = CY := ⟨_, rfl⟩
  have HSC := hide (And.intro hSX (And.intro hCX (And.intro hSY hCY)))
  simp only [hSX, hCX, hSY, hCY] at e3 q0 q1 HI HY HE HA1 HCF lx8 cx16 ly8 cy16 hk ⊢
  clear R hc I hx R' hc' hSX hCX hSY hCY hb0 hcx hcy hcap hD hby hcy0 eg hDb hcf HGO
  by_cases hS1 : 1 < SX
  · have HE5 : Hid (repR x y k = (zeroA, 6)) := by unfold Hid; rw [HE.out, if_pos hS1]
    clear HE HY HRY HXC
    go_enter Try.func81, Try.ntmps81
    go_wp2
    exact bodyPost_ret (v := .tuple #[.agg #[.slice none 0 0, .slice none 0 0], .int .i64 6]) (by simp [results, Try.results81, go_sem, HT0.out.1, HT0.out.2]) rfl (gives2k_of HE5.out caps_nil (fun _ _ _ => zeroA_in _ _ _) (HI.out.fin _ _))
  clear HT0 p0 p1 f0 f1
  go_enter Try.func81, Try.ntmps81
  go_wp2
  clear e3 q0 q1
  go_loopg [23] CX (fun g i wr => ∃ j : Nat, g + j = CX ∧ i = .int .i64 (j : Int) ∧ firstUp (repF x) j = 0 ∧ Below W3.heap.size W3 wr)
  case atStart => exact ⟨0, rfl, rfl, rfl, Below.refl _ _⟩
  case round =>
    obtain ⟨j, hgj, rfl, hfu, hBr⟩ := hrel
    have I6 := HI.out.next hBr
    have hNB := HB0.out.trans (I6.bel.mono HB0.out.size)
    by_cases hlt : j < CX
    · obtain ⟨b, off, rfl, -, hb, hcells⟩ := HCF.out (by omega)
      obtain ⟨g0, g1, g2, -⟩ := hcells j hlt
      have u0 := (hNB.cell (p := ⟨b, off + j * 3, none⟩) hb).trans g0
      have u1 := (hNB.cell (p := ⟨b, off + j * 3 + 1, none⟩) hb).trans g1
      have u2 := (hNB.cell (p := ⟨b, off + j * 3 + 2, none⟩) hb).trans g2
      have HLF : Hid (repF x j = if ¬ (cAt x.cells j).1 = 0 ∨ (cAt x.cells j).2.1 < 0 then 5 else 0) := rfl
      clear g0 g1 g2 hcells
      generalize (cAt x.cells j).1 = kk at *
      generalize (cAt x.cells j).2.1 = NN at *
      generalize (cAt x.cells j).2.2.length = nb at *
      generalize ab j = abp at *
      generalize cb j = cbp at *
      have BA := one_alloc wr (.cells #[.int .i64 kk, .int .i64 NN, .slice abp nb cbp] 36)
      have I5 := I6.next BA
      have HERR : Hid (repF x j = 5 → repR x y k = (zeroA, 5)) := fun h1 => by
        rw [HE.out, if_neg hS1, firstUp_hit hfu (by rw [h1]; decide) CX hlt, h1, if_pos (by decide)]
      by_cases hkk : kk = 0
      case neg =>
        have HE5 : Hid (repR x y k = (zeroA, 5)) := HERR.out (by rw [HLF.out, if_pos (Or.inl hkk)])
        have hkb : (kk == 0) = false := beq_eq_false_iff_ne.2 hkk
        have HT5 := hide (I5.put (.slice none 0 0) (.slice none 0 0))
        have HI5 := hide I5
        have p0 := I5.p0
        have p1 := I5.p1
        have f0 := I5.f0
        have f1 := I5.f1
        clear I6 I5 HY HRY HXC HCF hBr BA hNB
        go_wp2
        exact bodyPost_ret (v := .tuple #[.agg #[.slice none 0 0, .slice none 0 0], .int .i64 5]) (by simp [results, Try.results81, go_sem, HT5.out.1, HT5.out.2]) rfl (gives2k_of HE5.out caps_nil (fun _ _ _ => zeroA_in _ _ _) (HI5.out.fin _ _))
      subst hkk
      by_cases hN0 : NN < 0
      · have HE5 : Hid (repR x y k = (zeroA, 5)) := HERR.out (by rw [HLF.out, if_pos (Or.inr hN0)])
        have HT5 := hide (I5.put (.slice none 0 0) (.slice none 0 0))
        have HI5 := hide I5
        have p0 := I5.p0
        have p1 := I5.p1
        have f0 := I5.f0
        have f1 := I5.f1
        clear I6 I5 HY HRY HXC HCF hBr BA hNB
        go_wp2
        exact bodyPost_ret (v := .tuple #[.agg #[.slice none 0 0, .slice none 0 0], .int .i64 5]) (by simp [results, Try.results81, go_sem, HT5.out.1, HT5.out.2]) rfl (gives2k_of HE5.out caps_nil (fun _ _ _ => zeroA_in _ _ _) (HI5.out.fin _ _))
      have HS : Hid (firstUp (repF x) (j + 1) = 0 ∧ Below W3.heap.size W3 (wr.alloc (.cells #[.int .i64 0, .int .i64 NN, .slice abp nb cbp] 36))) := ⟨by rw [firstUp_step hfu, HLF.out, if_neg (by simp; omega)], hBr.trans (BA.mono hBr.size)⟩
      clear I6 I5 HY HRY HXC HCF hBr BA hNB
      go_wp2
      go_roundg (CX - (j + 1))
      case rel => exact ⟨j + 1, by omega, by go_num, HS.out⟩
      case measure => omega
    · have hje : j = CX := by omega
      subst hje
      have q0 := I6.q0
      have q1 := I6.q1
      have r0 := I6.r0
      have r1 := I6.r1
      have u0 := (I6.bel.cell (p := ⟨by', oy + k, none⟩) HCY0.out.1).trans HCY0.out.2
      have HI6 := hide I6
      have HFU := hide hfu
      by_cases hne : SX = 1 ∧ ¬ (j : Int) = (D : Int)
      · have HE5 : Hid (repR x y k = (zeroA, 7)) := by unfold Hid; rw [HE.out, if_neg hS1, if_neg (by rw [hfu]; simp), if_pos hne]
        have p0 := I6.p0
        have p1 := I6.p1
        have f0 := I6.f0
        have f1 := I6.f1
        have HT5 : Hid (∀ q : Nat, _ ∧ _) := fun q => (I6.next (belowN (Below.refl _ _) q)).put (.slice none 0 0) (.slice none 0 0)
        obtain ⟨rfl, hjD⟩ := hne
        have hb2 : ((j : Int) == (D : Int)) = false := beq_eq_false_iff_ne.2 hjD
        clear I6 HY HRY HXC HCF hBr hNB hfu
        go_wp2
        go_quiet (fail)
        go_wp2
        exact bodyPost_ret (v := .tuple #[.agg #[.slice none 0 0, .slice none 0 0], .int .i64 7]) (by simp [results, Try.results81, go_sem, HT5.out]) rfl (gives2k_of HE5.out caps_nil (fun _ _ _ => zeroA_in _ _ _) ((HI6.out.next (belowN (Below.refl _ _) _)).fin _ _))
      have HNE := hide hne
      have HU0 := hide u0
      have HBR : Hid (w.heap.size ≤ wr.heap.size) := I6.bel.size
      clear I6 hfu hNB
      go_wp2
      go_cut [51] from 37 to 51 (fun s wx => s = .bool false ∧ Below wr.heap.size wr wx)
      case first =>
        by_cases h1 : SX = 1
        · have hjD : (j : Int) = (D : Int) := Classical.not_not.1 fun h => HNE.out ⟨h1, h⟩
          have hb2 : ((j : Int) == (D : Int)) = true := by rw [hjD]; exact beq_self_eq_true _
          have hb1 : ((SX : Int) == 1) = true := by rw [h1]; rfl
          clear HY HRY HXC HCF hBr hne hjD h1
          go_quiet (fail)
          go_wp2
          go_meet
          exact ⟨congrArg Value.bool (by unfold bne; rw [hb2]; rfl), belowN (Below.refl _ _) _⟩
        · have hb1 : ((SX : Int) == 1) = false := beq_eq_false_iff_ne.2 (by omega)
          clear HY HRY HXC HCF hBr hne
          go_quiet (fail)
          go_wp2
          go_meet
          exact ⟨rfl, belowN (Below.refl _ _) _⟩
      case rest =>
        obtain ⟨rfl, hbB⟩ := hcut
        generalize wc = wB at *
        have I6 := HI6.out.next hbB
        have HI6 := hide I6
        have q0 := I6.q0
        have q1 := I6.q1
        have r0 := I6.r0
        have r1 := I6.r1
        have u0 := (hbB.cell (p := ⟨by', oy + k, none⟩) (Nat.lt_of_lt_of_le HCY0.out.1 HBR.out)).trans HU0.out
        clear I6 hbB
        have CO : Hid (∀ W, Below wB.heap.size wB W → Calls Try.prog 103 #[.slice a2 j c2, .int .i64 (D : Int)] W fun e w' => OftIs x.cells D W e w') := by
          intro W hW
          have hN := HB0.out.trans ((HI6.out.bel.trans (hW.mono HI6.out.bel.size)).mono HB0.out.size)
          have := often_any (lo := lo) (n := m) x.cells a2 c2 D W (HXC.out.mono (Nat.le_refl _) hN) (by rw [HSC.out.2.1]; exact cx16) hD16 (fun h => by
            rw [HSC.out.2.1]
            by_cases h1 : SX = 1
            · have hjD : (j : Int) = (D : Int) := Classical.not_not.1 fun h => HNE.out ⟨h1, h⟩
              omega
            · have := HA1.out (by omega); omega) (fun i hi => by
            rw [HSC.out.2.1] at hi
            exact (repF_pos HFU.out i hi).2)
          rw [HSC.out.2.1] at this
          exact this
        have HDD : Hid (Below wB.heap.size wB wB.drew) := (Below.refl _ _).drew
        clear hne
        go_wp2
        go_cut [10, 11] from 53 to 63 (fun s10 s11 wx => ∃ wv a N cap E, s10 = .slice a N cap ∧ s11 = .int .i64 E ∧ Below wB.heap.size wB wv ∧ Below wv.heap.size wv wx ∧ OftP x.cells D wv wx a N cap E)
        case first =>
          go_region_with (go_at_call 103; refine (CO.out _ HDD.out).mono ?_; rintro e w9 ⟨⟨ao, No, co, Eo, rfl, hO⟩, hb9⟩)
          all_goals
            have HO9 := hide (And.intro hO hb9)
            clear hO hb9
            go_wp2
            go_meet
          all_goals
            case rel => exact ⟨_, _, _, _, _, rfl, rfl, HDD.out, HO9.out.2, HO9.out.1⟩
        case rest =>
          obtain ⟨wv, ao, No, co, Eo, rfl, rfl, hbv, hb9, hO⟩ := hcut
          have BWC : Below wB.heap.size wB wc := hbv.trans (hb9.mono hbv.size)
          have I9 := HI6.out.next BWC
          have HI9 := hide I9
          clear CO HDD u0 q0 q1 r0 r1
          by_cases hE : Eo = 0
          case neg =>
            have hE12 : 16384 < (oftL x.cells D).length ∧ Eo = 12 := by
              rcases hO with h | h
              · exact h
              · exact absurd h.2.1 hE
            have HE5 : Hid (repR x y k = (zeroA, Eo)) := by unfold Hid; rw [HE.out, if_neg hS1, if_neg (by rw [HFU.out]; simp), if_neg HNE.out, if_pos hE12.1, hE12.2]
            have hne : (Eo == 0) = false := beq_eq_false_iff_ne.2 hE
            have HT9 := hide (I9.put (.slice none 0 0) (.slice none 0 0))
            have p0 := I9.p0
            have p1 := I9.p1
            have f0 := I9.f0
            have f1 := I9.f1
            clear HE HY HRY HXC HCF hBr hO hb9 hbv I9 hE12
            go_wp2
            exact bodyPost_ret (v := .tuple #[.agg #[.slice none 0 0, .slice none 0 0], .int .i64 Eo]) (by simp [results, Try.results81, go_sem, HT9.out.1, HT9.out.2]) rfl (gives2k_of HE5.out caps_nil (fun _ _ _ => zeroA_in _ _ _) (HI9.out.fin _ _))
          subst hE
          have hO2 : (oftL x.cells D).length ≤ 16384 ∧ No = (oftL x.cells D).length ∧ Own1 wv wc ao co (oftL x.cells D) := by
            rcases hO with h | h
            · exact absurd h.2 (by decide)
            · exact ⟨h.1, h.2.2.1, h.2.2.2⟩
          obtain ⟨hN16, hNo, hown⟩ := hO2
          rw [← hNo] at hN16
          have HOW := hide (And.intro hNo (And.intro hown hbv))
          have r0 := I9.r0
          have HRW := hide (HRY.out.next I9.bel)
          have CR := reshaped_any y.shape (some ⟨by', oy, none⟩) d1 k (No : Int) wc HRW.out (by rw [HSC.out.2.2.1]; exact ly8) (by rw [HSC.out.2.2.1]; exact hk)
          rw [HSC.out.2.2.1] at CR
          have HE2 : Hid (repR x y k = if ¬ sizeE (y.shape.set k (No : Int)) = 0 then (zeroA, sizeE (y.shape.set k (No : Int))) else (alongA y k (oftL x.cells D), 0)) := by unfold Hid; rw [HE.out, if_neg hS1, if_neg (by rw [HFU.out]; simp), if_neg HNE.out, ← hNo, if_neg (by omega)]
          obtain ⟨SE, hSE⟩ : ∃ z, sizeE (y.shape.set k (No : Int)) = z := ⟨_, rfl⟩
          have HSE := hide hSE
          rw [hSE] at CR HE2
          generalize sizeV (y.shape.set k (No : Int)) = SV at CR
          clear HE hO hb9 hbv I9 hown hNo hSE HXC HCF hBr BWC
          go_wp2_with fail
          refine CR.mono ?_
          clear CR r0
          rintro e w5 ⟨⟨a', cp, rfl, -⟩, hb5⟩
          have I5 := HI9.out.next hb5
          have HI5 := hide I5
          by_cases hS2 : SE = 0
          case neg =>
            have HE5 : Hid (repR x y k = (zeroA, SE)) := by unfold Hid; rw [HE2.out, if_pos hS2]
            have hne : (SE == 0) = false := beq_eq_false_iff_ne.2 hS2
            have HT9 := hide (I5.put (.slice none 0 0) (.slice none 0 0))
            have p0 := I5.p0
            have p1 := I5.p1
            have f0 := I5.f0
            have f1 := I5.f1
            clear HE2 HY HRY HOW I5 hb5
            go_wp2
            exact bodyPost_ret (v := .tuple #[.agg #[.slice none 0 0, .slice none 0 0], .int .i64 SE]) (by simp [results, Try.results81, go_sem, HT9.out.1, HT9.out.2]) rfl (gives2k_of HE5.out caps_nil (fun _ _ _ => zeroA_in _ _ _) (HI5.out.fin _ _))
          subst hS2
          have HE5 : Hid (repR x y k = (alongA y k (oftL x.cells D), 0)) := by unfold Hid; rw [HE2.out, if_neg (by simp)]
          have RR : Row 0 w5 ao (oftL x.cells D) := (HOW.out.2.1.2.2.low (Nat.zero_le _)).next hb5
          have C := along_row (k := k) (c1 := d1) (c2 := d2) (HRW.out.next hb5) HY.out.1 (HB0.out.trans (I5.bel.mono HB0.out.size)) (by rw [HSC.out.2.2.1, HSC.out.2.2.2]; exact HY.out.2.2) HY.out.2.1 (by rw [HSC.out.2.2.1]; exact hk) (oftL x.cells D) ao co RR (fun i hi => by rw [HD.out]; exact oftL_in x.cells D i hi) (by rw [← HOW.out.1]; exact HSE.out) (by rw [← HOW.out.1]; exact hN16)
          rw [← HOW.out.1, HSC.out.2.2.1, HSC.out.2.2.2] at C
          have r0 := I5.r0
          have r1 := I5.r1
          obtain ⟨Y, hYY⟩ : ∃ Y, alongA y k (oftL x.cells D) = Y := ⟨_, rfl⟩
          rw [hYY] at C HE5
          clear RR I5 HE2 hb5 hYY HRW
          go_wp2_with fail
          refine C.mono ?_
          clear C r0 r1
          rintro e w7 ⟨⟨v, rfl, hcv, hv⟩, hb7⟩
          have NB : Below w0.heap.size w0 w7 := HB0.out.trans ((HI5.out.bel.trans (hb7.mono HI5.out.bel.size)).mono HB0.out.size)
          obtain ⟨z1, m1, z2, m2, rfl, -, -⟩ := (hv w7 NB (Keeps.refl _ _)).form
          have I7 := HI5.out.next hb7
          have p0 := I7.p0
          have p1 := I7.p1
          have f0 := I7.f0
          have f1 := I7.f1
          have HT := hide (I7.put (.slice z1 Y.shape.length m1) (.slice z2 Y.cells.length m2))
          have HCV := hide hcv
          have HF : Hid (∀ u v W, Below w0.heap.size w0 W → Keeps w.heap.size ((w7.setCell ⟨w.heap.size + 2, 0, none⟩ u).setCell ⟨w.heap.size + 2, 1, none⟩ v) W → ArIn (n + 1) 0 W Y (.agg #[.slice z1 Y.shape.length m1, .slice z2 Y.cells.length m2])) := by
            intro u v W hW hK
            exact hv W hW (((keeps_three w7 w.heap.size u v).trans (hK.mono (show w.heap.size ≤ w.heap.size + 3 by omega))).mono HI5.out.size)
          have HFI := hide I7.fin
          clear I7 hv hcv hb7 NB
          generalize Y.shape.length = YS at *
          generalize Y.cells.length = YC at *
          go_wp2
          exact bodyPost_ret (v := .tuple #[.agg #[.slice z1 YS m1, .slice z2 YC m2], .int .i64 0]) (by simp [results, Try.results81, go_sem, HT.out.1, HT.out.2]) rfl (gives2k_of HE5.out HCV.out (HF.out _ _) (HFI.out _ _))
end Go.Proofs.Ytmjncdhahdpplaa
namespace Go.Proofs.Ytmjncdhahdpplaa
open Go.ChangeShapes Go.WideShapes Go.ChangeAt Go.RowKit
set_option linter.unusedVariables false
set_option maxRecDepth 100000
/-- Where the cell at a place comes from, of a rotation. -/
def rq (D w : Nat) (m : Int) (p : Nat) : Nat := (p / w / D * D + ((((p / w % D : Nat) : Int) + m) % (D : Int)).toNat) * w + p % w
theorem rq_along (D w : Nat) (m : Int) (p : Nat) (hD : 0 < D) : alongQ D w D (fun i => (gI (rotL m D) i).toNat) p = rq D w m p := by
  unfold alongQ rq
  simp only [rotL_at m D _ (Nat.mod_lt _ hD)]
  rw [Nat.add_mul, Nat.mul_assoc]
theorem rq_at (D w : Nat) (m : Int) (r j q : Nat) (hj : j < D) (hq : q < w) : rq D w m ((r * D + j) * w + q) = (r * D + ((((j : Nat) : Int) + m) % (D : Int)).toNat) * w + q := by
  unfold rq
  have h1 : ((r * D + j) * w + q) / w = r * D + j := by
    rw [Nat.mul_comm, Nat.mul_add_div (by omega), Nat.div_eq_of_lt hq]; omega
  have h2 : ((r * D + j) * w + q) % w = q := by rw [Nat.mul_comm, Nat.mul_add_mod, Nat.mod_eq_of_lt hq]
  have h3 : (r * D + j) / D = r := by rw [Nat.mul_comm, Nat.mul_add_div (by omega), Nat.div_eq_of_lt hj]; omega
  have h4 : (r * D + j) % D = j := by rw [Nat.mul_comm, Nat.mul_add_mod, Nat.mod_eq_of_lt hj]
  rw [h1, h2, h3, h4]
/-- A rotated array, cell by cell. -/
theorem rot_form {y : Ar} (hy : chkA 8 y = 0) {k D : Nat} (hk : k < y.shape.length) (hD : gI y.shape k = (D : Int)) (m : Int) : alongA y k (rotL m D) = .mk y.shape (mkCs y.cells.length fun p => cAt y.cells (rq D (sizeV (y.shape.drop (k + 1))).toNat m p)) := by
  have hset : y.shape.set k ((rotL m D).length : Int) = y.shape := by rw [rotL_len, ← hD]; exact set_gI _ _ hk
  have hv := ((chkA_iff 8 y).1 hy).2.1
  unfold alongA
  rw [hset, hv, Int.toNat_natCast, hD, Int.toNat_natCast, rotL_len]
  congr 1
  by_cases h0 : y.cells.length = 0
  · rw [h0]; rfl
  · have hDp : 0 < D := by
      have := ((chk_axes hy).2.1 (by omega)).1 (gI y.shape k) (getD_mem hk)
      omega
    congr 1
    funext p
    rw [rq_along D _ m p hDp]
theorem rq_lt {y : Ar} (hy : chkA 8 y = 0) {k D : Nat} (hk : k < y.shape.length) (hD : gI y.shape k = (D : Int)) (m : Int) (p : Nat) (hp : p < y.cells.length) : rq D (sizeV (y.shape.drop (k + 1))).toNat m p < y.cells.length ∧ 0 < D ∧ 0 < (sizeV (y.shape.drop (k + 1))).toNat := by
  have hset : y.shape.set k ((rotL m D).length : Int) = y.shape := by rw [rotL_len, ← hD]; exact set_gI _ _ hk
  obtain ⟨g1, g2, -, -⟩ := (chkA_iff 8 y).1 hy
  have hDp : 0 < D := by
    have := ((chk_axes hy).2.1 (by omega)).1 (gI y.shape k) (getD_mem hk)
    omega
  have hq := alongQ_lt hy (k := k) (l := rotL m D) hk (fun i hi => by
    rw [rotL_len] at hi
    rw [rotL_at m D i hi, hD]
    exact (rot_rem m D i hi).2.2.2) (by rw [hset]; exact g1) p (by rw [hset, g2, Int.toNat_natCast]; exact hp)
  rw [hD, Int.toNat_natCast, rotL_len, rq_along D _ m p hDp] at hq
  obtain ⟨A, D', wd, -, hwd, hw0, -⟩ := along_facts hy (k := k) (L := (rotL m D).length) hk (by rw [hset]; exact g1) (fun _ => by omega) (by rw [hset, g2]; omega)
  exact ⟨hq, hDp, by omega⟩
end Go.Proofs.Ytmjncdhahdpplaa
namespace Go.Proofs.Ytmjncdhahdpplaa
open Go.ChangeShapes Go.WideShapes Go.ChangeAt Go.RowKit
set_option linter.unusedVariables false
set_option maxRecDepth 100000
theorem plight_any {n lo : Nat} {x : Ar} {va : Value} {w : World} (hx : ArIn n lo w x va) : Calls Try.prog 17 #[va] w fun e w' => (∃ r : Bool, e = .returned (.bool r)) ∧ Below w.heap.size w w' := by
  have C := fun w' hb => weight_any' (w := w') (hx.next hb)
  cases n with
  | zero => exact hx.elim
  | succ n =>
    obtain ⟨a1, c1, a2, c2, rfl, -⟩ := hx
    generalize x.shape.length = SA at *
    generalize x.cells.length = CA at *
    have C1 := C _ (one_alloc w (.cells #[.slice a1 SA c1, .slice a2 CA c2] 25))
    clear C
    go_enter Try.func17, Try.ntmps17
    go_wp2_with fail
    refine C1.mono ?_
    rintro e w1 ⟨⟨r, rfl⟩, hb1⟩
    go_wp2
    go_ret
    exact ⟨⟨_, rfl⟩, (one_alloc _ _).trans (hb1.mono (one_alloc _ _).size)⟩
end Go.Proofs.Ytmjncdhahdpplaa
namespace Go.Proofs.Ytmjncdhahdpplaa
open Go.ChangeShapes Go.WideShapes Go.ChangeAt Go.RowKit
set_option linter.unusedVariables false
set_option maxRecDepth 100000
def GivesAK (n : Nat) (x : Ar) (w : World) (e : Ending) (w' : World) : Prop := (∃ v, e = .returned v ∧ Caps v ∧ ArIn n w.heap.size w' x v) ∧ Below w.heap.size w w'
theorem ratomK_any (n : Nat) (z : Int) (w : World) : Calls Try.prog 22 #[.int .i64 z] w fun e w' => GivesAK (n + 1) (atomA z) w e w' := by
  go_enter Try.func22, Try.ntmps22
  go_wp2
  exact bodyPost_ret (v := .agg #[.slice none 0 0, .slice (some ⟨w.heap.size + 1, 0, none⟩) 1 1]) (by simp [results, Try.results22, go_sem]) rfl ⟨⟨_, rfl, ⟨_, _, _, _, _, _, rfl, Nat.le_refl _, Nat.le_refl _⟩, atom_cells n z w _⟩, two_allocs _ _ _⟩
set_option maxHeartbeats 4000000 in
theorem rnumsK_any {lo : Nat} (n : Nat) (l : List Int) (a : Option Addr) (cap : Nat) (w : World) (R : Row lo w a l) (hl : l.length ≤ 16384) :
    Calls Try.prog 25 #[.slice a l.length cap] w fun e w' => GivesAK (n + 1) (numsA l) w e w' := by
  obtain ⟨i0, hi, hz0, hz1, hz2⟩ := info33'
  have hrow := @row_at _ _ _ _ R
  clear R
  have b1 : Below w.heap.size w ((w.alloc (.cells #[.slice none 0 0, .slice none 0 0] 25)).alloc (.cells #[.int .i64 (l.length : Int)] 3)) := two_allocs _ _ _
  have s1 := size_two w (.cells #[.slice none 0 0, .slice none 0 0] 25) (.cells #[.int .i64 (l.length : Int)] 3)
  have HST : Hid (Inv w.heap.size (w.heap.size + 2) (.slice (some ⟨w.heap.size + 1, 0, none⟩) 1 1) 0 l 0 (.slice none 0 0) w (((w.alloc (.cells #[.slice none 0 0, .slice none 0 0] 25)).alloc (.cells #[.int .i64 (l.length : Int)] 3)).alloc (.cells #[.slice (some ⟨w.heap.size + 1, 0, none⟩) 1 1, .slice none 0 0] 25))) := by
    have g := fun (b i : Nat) (v : Value) (hb : b < w.heap.size + 2) (h : ((w.alloc (.cells #[.slice none 0 0, .slice none 0 0] 25)).alloc (.cells #[.int .i64 (l.length : Int)] 3)).cell? ⟨b, i, none⟩ = some v) => ((one_alloc _ (.cells #[.slice (some ⟨w.heap.size + 1, 0, none⟩) 1 1, .slice none 0 0] 25)).cell (p := ⟨b, i, none⟩) (by rw [s1]; exact hb)).trans h
    have gf : ∀ i, (((w.alloc (.cells #[.slice none 0 0, .slice none 0 0] 25)).alloc (.cells #[.int .i64 (l.length : Int)] 3)).alloc (.cells #[.slice (some ⟨w.heap.size + 1, 0, none⟩) 1 1, .slice none 0 0] 25)).frozen? ⟨w.heap.size, i, none⟩ = false := fun i =>
      (((two_allocs (w.alloc (.cells #[.slice none 0 0, .slice none 0 0] 25)) (.cells #[.int .i64 (l.length : Int)] 3) (.cells #[.slice (some ⟨w.heap.size + 1, 0, none⟩) 1 1, .slice none 0 0] 25)).frozen (p := ⟨w.heap.size, i, none⟩) (by simp))).trans (frozen_new w _ 25 i)
    have n0 := cell_new0 ((w.alloc (.cells #[.slice none 0 0, .slice none 0 0] 25)).alloc (.cells #[.int .i64 (l.length : Int)] 3)) #[.slice (some ⟨w.heap.size + 1, 0, none⟩) 1 1, .slice none 0 0] 25 0 _ rfl
    have n1 := cell_new0 ((w.alloc (.cells #[.slice none 0 0, .slice none 0 0] 25)).alloc (.cells #[.int .i64 (l.length : Int)] 3)) #[.slice (some ⟨w.heap.size + 1, 0, none⟩) 1 1, .slice none 0 0] 25 1 _ rfl
    have nf := fun i => frozen_new ((w.alloc (.cells #[.slice none 0 0, .slice none 0 0] 25)).alloc (.cells #[.int .i64 (l.length : Int)] 3)) #[.slice (some ⟨w.heap.size + 1, 0, none⟩) 1 1, .slice none 0 0] 25 i
    rw [s1] at n0 n1 nf
    refine ⟨b1.trans ((one_alloc _ _).mono (by rw [s1]; omega)), by simp, ⟨g _ _ _ (by omega) (cell_new1 w _ 25 (0, 0) _ 0 _ rfl), g _ _ _ (by omega) (cell_new1 w _ 25 (0, 0) _ 1 _ rfl), gf 0, gf 1⟩, ⟨n0, n1, nf 0, nf 1⟩, ?_⟩
    exact World.ownsRow_nil _ _ _ _
  have HLEN : Hid ((((w.alloc (.cells #[.slice none 0 0, .slice none 0 0] 25)).alloc (.cells #[.int .i64 (l.length : Int)] 3)).alloc (.cells #[.slice (some ⟨w.heap.size + 1, 0, none⟩) 1 1, .slice none 0 0] 25)).cell? ⟨w.heap.size + 1, 0, none⟩ = some (.int .i64 (l.length : Int))) :=
    ((one_alloc _ (.cells #[.slice (some ⟨w.heap.size + 1, 0, none⟩) 1 1, .slice none 0 0] 25)).cell (p := ⟨w.heap.size + 1, 0, none⟩) (by rw [s1]; show w.heap.size + 1 < _; omega)).trans (cell_new2 w #[.int .i64 (l.length : Int)] 3 (0, 0) (.cells #[.slice none 0 0, .slice none 0 0] 25) 0 _ rfl)
  clear b1 s1
  go_enter Try.func25, Try.ntmps25
  go_wp2
  go_loopw [4] (fun i wr => ∃ (j : Nat) (v : Value), j ≤ l.length ∧ i = .int .i64 (j : Int) ∧ Inv w.heap.size (w.heap.size + 2) (.slice (some ⟨w.heap.size + 1, 0, none⟩) 1 1) 0 l j v w wr ∧ wr.cell? ⟨w.heap.size + 1, 0, none⟩ = some (.int .i64 (l.length : Int))) (fun i _ => l.length - (intOf i).toNat)
  case atStart => exact ⟨0, _, Nat.zero_le _, rfl, HST.out, HLEN.out⟩
  case round =>
    clear HST HLEN
    obtain ⟨j, v, hj, rfl, hinv, hlen⟩ := hrel
    have HI := hide hinv
    have HL := hide hlen
    obtain ⟨hnx, hsz, ⟨c0, c1, c2, c3⟩, ⟨d0, d1, d2, d3⟩, hown⟩ := hinv
    by_cases hlt : j < l.length
    · obtain ⟨b, off, ha, hb, hck⟩ := hrow hlt
      subst ha
      have hc1 : wr.cell? ⟨b, off + j, none⟩ = some (.int .i64 (l[j]?.getD 0)) := (hnx.cell (p := ⟨b, off + j, none⟩) hb).trans hck
      have hc2 : ∀ o, (wr.drew.alloc o).cell? ⟨w.heap.size + 2, 1, none⟩ = some v := fun o => ((one_alloc wr.drew o).cell (p := ⟨w.heap.size + 2, 1, none⟩) hsz).trans d1
      have HSTEP := hide (rowF_step 0 l j hlt)
      generalize l[j]?.getD 0 = z at *
      have HOWN := hide ((owns_drew hown).alloc (.cells #[.int .i64 0, .int .i64 z, .slice none 0 0] 36))
      have HNEWS : Hid (∀ i u, [Value.int .i64 0, .int .i64 z, .slice none 0 0][i]? = some u → (wr.drew.alloc (.cells #[.int .i64 0, .int .i64 z, .slice none 0 0] 36)).cell? ((⟨wr.heap.size, 0, none⟩ : Addr).add i) = some u) := by
        intro i u hu
        have ha : (⟨wr.heap.size, 0, none⟩ : Addr).add i = ⟨wr.drew.heap.size, i, none⟩ := by
          unfold Addr.add
          split
          · subst_vars; rfl
          · simp
        rw [ha]
        exact cell_new0 wr.drew _ 36 i u (by simpa using hu)
      have HONE : Hid (∀ u ∈ [Value.int .i64 0, .int .i64 z, .slice none 0 0], u.oneCell' = true) := by
        intro u hu
        simp at hu
        rcases hu with rfl | rfl | rfl <;> rfl
      have HMAX : Hid (j + 1 ≤ maxLen ∧ (j + 1) * 40 ≤ 140737488355328 ∧ w.heap.size + 2 + 1 ≤ (wr.drew.alloc (.cells #[.int .i64 0, .int .i64 z, .slice none 0 0] 36)).heap.size) := by
        refine ⟨by unfold maxLen; omega, by omega, ?_⟩
        have : (wr.drew.alloc (.cells #[.int .i64 0, .int .i64 z, .slice none 0 0] 36)).heap.size = wr.heap.size + 1 := by simp
        omega
      have HAL : Hid (Below (w.heap.size + 2 + 1) wr (wr.drew.alloc (.cells #[.int .i64 0, .int .i64 z, .slice none 0 0] 36))) := ((Below.refl _ _).drew).alloc (by show _ ≤ wr.heap.size; omega) _
      clear hown hck hrow hlen c0 c1 c2 c3 d0 d2 hb hnx
      go_wp2
      go_region_law (refine step_append_own rfl (.tmp 16) (.tmp 22) 23 rfl (w.heap.size + 2 + 1) 36 i0 (.agg #[.int .i64 0, .int .i64 0, .slice none 0 0]) 3 40 Try.underlying23 hi hz0 hz1 hz2 rfl (by decide) v j (rowF 0 l j) rfl HOWN.out ⟨wr.heap.size, 0, none⟩ 1 1 [.int .i64 0, .int .i64 z, .slice none 0 0] rfl rfl HNEWS.out HONE.out HMAX.out.1 HMAX.out.2.1 HMAX.out.2.2 ?_; intro v' w1 hown1 hb1; obtain ⟨g, cp, rfl, -⟩ := owns_form hown1 (Nat.succ_pos j); have dd1 := (HAL.out.trans hb1).cell (p := ⟨w.heap.size + 2, 1, none⟩) (Nat.lt_succ_self _) |>.trans d1; have dd3 := (HAL.out.trans hb1).frozen (p := ⟨w.heap.size + 2, 1, none⟩) (Nat.lt_succ_self _) |>.trans d3)
      all_goals
        have hown2 : w1.ownsRow (w.heap.size + 2 + 1) 36 3 (.slice (some ⟨g, 0, none⟩) (j + 1) cp) (j + 1) (rowF 0 l (j + 1)) := by rw [HSTEP.out]; exact hown1
        have HN := hide (inv_step (by omega) HI.out (HAL.out.trans hb1) hown2)
        have HN2 : Hid ((w1.setCell ⟨w.heap.size + 2, 1, none⟩ (.slice (some ⟨g, 0, none⟩) (j + 1) cp)).cell? ⟨w.heap.size + 1, 0, none⟩ = some (.int .i64 (l.length : Int))) := cell_apart (p := ⟨w.heap.size + 1, 0, none⟩) (q := ⟨w.heap.size + 2, 1, none⟩) (by show w.heap.size + 1 ≠ w.heap.size + 2; omega) _ (((HAL.out.trans hb1).cell (p := ⟨w.heap.size + 1, 0, none⟩) (by show w.heap.size + 1 < _; omega)).trans HL.out)
        clear hown1 hown2 hb1 dd1 dd3 HOWN HNEWS HONE HMAX HAL HI HL HSTEP
        go_wp2
        go_roundw
        case rel => exact ⟨j + 1, _, by omega, by go_num, HN.out, HN2.out⟩
        case measure => simp [intOf]; omega
    · have hje : j = l.length := by omega
      subst hje
      obtain ⟨a2, cp, rfl, hcs⟩ := owns_cells (n := n) (lo := w.heap.size + 2 + 1) 0 l hown (Nat.le_refl _)
      have HCP : Hid (l.length ≤ cp) := by
        obtain ⟨a', cap', he, hle⟩ := owns_cap hown
        simp only [Value.slice.injEq] at he
        obtain ⟨-, -, rfl⟩ := he
        exact hle
      have HF : Hid (∀ x y, ArIn (n + 1) w.heap.size ((wr.setCell ⟨w.heap.size, 0, none⟩ x).setCell ⟨w.heap.size, 1, none⟩ y) (numsA l) (.agg #[.slice (some ⟨w.heap.size + 1, 0, none⟩) 1 1, .slice a2 l.length cp])) := by
        intro x y
        have hk : Keeps (w.heap.size + 1) wr ((wr.setCell ⟨w.heap.size, 0, none⟩ x).setCell ⟨w.heap.size, 1, none⟩ y) := ((Keeps.refl _ _).setCell (p := ⟨w.heap.size, 0, none⟩) (by show w.heap.size < _; omega) x).setCell (p := ⟨w.heap.size, 1, none⟩) (by show w.heap.size < _; omega) y
        refine arIn_mk (x := numsA l) ?_ (by simp [numsA, Ar.cells, numCs_len]; omega) ?_ rfl (numCs_len 0 l)
        · exact ((row_one (lo := w.heap.size + 1) (b := w.heap.size + 1) (by omega) (Nat.le_refl _) HL.out).keeps hk).low (by omega)
        · exact ((hcs.mono (lo' := w.heap.size + 1) (by omega) (Below.refl _ _)).keeps hk).mono (by omega) (Below.refl _ _)
      have HT := hide (set_two c0 c1 (.slice (some ⟨w.heap.size + 1, 0, none⟩) 1 1) (.slice a2 l.length cp))
      have HB := hide hnx
      clear hown hrow hcs HI HL hnx
      go_wp2
      exact bodyPost_ret (v := .agg #[.slice (some ⟨w.heap.size + 1, 0, none⟩) 1 1, .slice a2 l.length cp]) (by simp [results, Try.results25, go_sem, HT.out.1, HT.out.2]) rfl ⟨⟨_, rfl, ⟨_, _, _, _, _, _, rfl, Nat.le_refl _, HCP.out⟩, HF.out _ _⟩, (HB.out.setCell (p := ⟨w.heap.size, 0, none⟩) (Nat.le_refl _) _).setCell (p := ⟨w.heap.size, 1, none⟩) (Nat.le_refl _) _⟩
end Go.Proofs.Ytmjncdhahdpplaa
namespace Go.Proofs.Ytmjncdhahdpplaa
open Go.ChangeShapes Go.WideShapes Go.ChangeAt Go.RowKit
set_option linter.unusedVariables false
set_option maxRecDepth 100000
def fromL (f L : Nat) : List Int := (List.range L).map fun i : Nat => ((f + i : Nat) : Int)
theorem fromL_len (f L : Nat) : (fromL f L).length = L := by simp [fromL]
theorem fromL_at (f L i : Nat) (hi : i < L) : gI (fromL f L) i = ((f + i : Nat) : Int) := by simp [gI, fromL, hi]
/-- Where Drop begins, and how many it leaves. -/
def drpF (n : Int) (D : Nat) : Nat := if n < 0 then 0 else (min n (D : Int)).toNat
def drpN (n : Int) (D : Nat) : Nat := if n < 0 then (max ((D : Int) + n) 0).toNat else D - (min n (D : Int)).toNat
def drpR (x y : Ar) : Ar × Int := if ¬ (numR x).2 = 0 then (zeroA, (numR x).2) else (alongA y 0 (fromL (drpF (numR x).1 (gI y.shape 0).toNat) (drpN (numR x).1 (gI y.shape 0).toNat)), 0)
theorem drp_le (n : Int) (D : Nat) : drpF n D + drpN n D ≤ D := by
  unfold drpF drpN
  split <;> omega
theorem drop_size {y : Ar} (hy : chkA 8 y = 0) (hS : 0 < y.shape.length) {D L : Nat} (hD : gI y.shape 0 = (D : Int)) (hL : L ≤ D) : sizeE (y.shape.set 0 (L : Int)) = 0 := by
  obtain ⟨d, t, hdt⟩ : ∃ d t, y.shape = d :: t := by
    cases hsh : y.shape with
    | nil => rw [hsh] at hS; simp at hS
    | cons d t => exact ⟨d, t, rfl⟩
  have ed : d = (D : Int) := by rw [← hD, hdt]; rfl
  obtain ⟨h1, -, -, -⟩ := (chkA_iff 8 y).1 hy
  rw [hdt] at h1 ⊢
  rw [List.set_cons_zero]
  obtain ⟨l8, g2, g3⟩ := fine_cases h1
  refine (fine_mk (l := (L : Int) :: t) (by simpa using l8) (fun z hz => ?_) ?_).1
  · rcases List.mem_cons.1 hz with h | h
    · omega
    · exact g2 z (List.mem_cons.2 (Or.inr h))
  · by_cases hL0 : L = 0
    · left; exact ⟨_, List.mem_cons_self, by omega⟩
    · rcases g3 with ⟨⟨z, hz, hz0⟩, -⟩ | ⟨hp, hle, -⟩
      · left
        rcases List.mem_cons.1 hz with h | h
        · omega
        · exact ⟨z, List.mem_cons.2 (Or.inr h), hz0⟩
      · right
        have e1 : prodL (d :: t) = d * prodL t := rfl
        have e2 : prodL ((L : Int) :: t) = (L : Int) * prodL t := rfl
        have pt := prodL_pos (l := t) fun z hz => hp z (List.mem_cons.2 (Or.inr hz))
        have := Int.mul_le_mul_of_nonneg_right (show (L : Int) ≤ d by omega) (show (0 : Int) ≤ prodL t by omega)
        rw [e1] at hle
        rw [e2]; omega
set_option maxHeartbeats 8000000 in
theorem dropped_row {n m lo lo' lo2 : Nat} {x y : Ar} {va : Value} {b1 b2 : Option Addr} {d1 d2 : Nat} {w0 w : World} (hx : ArIn (m + 1) lo w0 x va) (R' : Row lo2 w b1 y.shape) (hc' : CellsIn n lo' w0 y.cells b2) (hb0 : Below w0.heap.size w0 w) (hcx : chkA 8 x = 0) (hcy : chkA 8 y = 0) (hcap : Caps (.agg #[.slice b1 y.shape.length d1, .slice b2 y.cells.length d2])) (hS : 0 < y.shape.length) (hI64 : I64 (numR x).1) :
    Calls Try.prog 77 #[va, .agg #[.slice b1 y.shape.length d1, .slice b2 y.cells.length d2]] w fun e w' => Gives2K (n + 1) w0 (drpR x y).1 (drpR x y).2 w e w' := by
  obtain ⟨a1, c1, a2, c2, rfl, R, hc⟩ := hx.form
  have I := in3_new w (.slice a1 x.shape.length c1) (.slice a2 x.cells.length c2) (.slice b1 y.shape.length d1) (.slice b2 y.cells.length d2)
  obtain ⟨W3, e3⟩ : ∃ W3, ((w.alloc (.cells #[.slice a1 x.shape.length c1, .slice a2 x.cells.length c2] 25)).alloc (.cells #[.slice b1 y.shape.length d1, .slice b2 y.cells.length d2] 25)).alloc (.cells #[.slice none 0 0, .slice none 0 0] 25) = W3 := ⟨_, rfl⟩
  rw [e3] at I
  have q0 := I.q0
  have q1 := I.q1
  have CN := number_any (hx.next (hb0.trans (I.bel.mono hb0.size))) hcx
  have HI := hide I
  have HB0 := hide hb0
  have HY := hide (And.intro hc' (And.intro hcy hcap))
  have HRY := hide R'
  obtain ⟨l8, cy16⟩ := chk_len hcy
  have hDb := (chk_axes hcy).1 (gI y.shape 0) (getD_mem hS)
  obtain ⟨D, hD⟩ : ∃ D : Nat, gI y.shape 0 = (D : Int) := ⟨(gI y.shape 0).toNat, by omega⟩
  have hD16 : D ≤ 16384 := by omega
  have HE : Hid (drpR x y = if ¬ (numR x).2 = 0 then (zeroA, (numR x).2) else (alongA y 0 (fromL (drpF (numR x).1 D) (drpN (numR x).1 D)), 0)) := by unfold Hid drpR; rw [hD, Int.toNat_natCast]
  obtain ⟨⟨Nn, NE⟩, hNR⟩ : ∃ p, numR x = p := ⟨_, rfl⟩
  rw [hNR] at HE CN hI64
  simp only at CN HE hI64
  have HD := hide hD
  obtain ⟨by', oy, rfl, hby, hcy0⟩ := row_at R' (j := 0) hS
  have eg : y.shape[0]?.getD 0 = (D : Int) := hD
  rw [eg, Nat.add_zero] at hcy0
  have HCY0 := hide (And.intro hby hcy0)
  obtain ⟨SX, hSX⟩ : ∃ SX, x.shape.length = SX := ⟨_, rfl⟩
  obtain ⟨CX, hCX⟩ : ∃ CX, x.cells.length = CX := ⟨_, rfl⟩
  obtain ⟨SY, hSY⟩ : ∃ SY, y.shape.length = SY := ⟨_, rfl⟩
  obtain ⟨CY, hCY⟩ : ∃ CY, y.cells.length = CY := ⟨_, rfl⟩
  have HSC := hide (And.intro hSY hCY)
  simp only [hSX, hCX, hSY, hCY] at CN e3 q0 q1 HI HY l8 cy16 hS ⊢
  clear R hc I hx R' hc' hSX hCX hSY hCY hb0 hcx hcy hcap hNR hD hby hcy0 eg hDb
  obtain ⟨i1, i2⟩ := hI64
  go_enter Try.func77, Try.ntmps77
  go_wp2_with fail
  clear e3 q0 q1
  refine CN.mono ?_
  clear CN
  rintro e w1 ⟨rfl, hb1⟩
  have I1 := HI.out.next hb1
  have r0 := I1.r0
  have r1 := I1.r1
  have p0 := I1.p0
  have p1 := I1.p1
  have f0 := I1.f0
  have f1 := I1.f1
  have HI1 := hide I1
  by_cases hNE : NE = 0
  case neg =>
    have HE5 : Hid (drpR x y = (zeroA, NE)) := by unfold Hid; rw [HE.out, if_pos hNE]
    have HT := hide (I1.put (.slice none 0 0) (.slice none 0 0))
    have hne : (NE == 0) = false := beq_eq_false_iff_ne.2 hNE
    clear I1 HE HY HRY hb1 HI r0 r1
    go_wp2
    exact bodyPost_ret (v := .tuple #[.agg #[.slice none 0 0, .slice none 0 0], .int .i64 NE]) (by simp [results, Try.results77, go_sem, HT.out.1, HT.out.2]) rfl (gives2k_of HE5.out caps_nil (fun _ _ _ => zeroA_in _ _ _) (HI1.out.fin _ _))
  subst hNE
  have u0 := (I1.bel.cell (p := ⟨by', oy, none⟩) HCY0.out.1).trans HCY0.out.2
  have hle := drp_le Nn D
  obtain ⟨fz, hfz⟩ : ∃ fz, drpF Nn D = fz := ⟨_, rfl⟩
  obtain ⟨L, hL⟩ : ∃ L, drpN Nn D = L := ⟨_, rfl⟩
  have HE5 : Hid (drpR x y = (alongA y 0 (fromL fz L), 0)) := by unfold Hid; rw [HE.out, if_neg (by simp), hfz, hL]
  rw [hfz, hL] at hle
  have mk := run_make_row' (P := Try.prog) 22 3 (.int .i64 0) 8 Try.underlying22 int3 rfl .i64 .i64 L (by omega) (by omega) w1
  obtain ⟨W4, e4⟩ : ∃ W4, w1.alloc (.cells (madeCells #[.int .i64 0] L) 3) = W4 := ⟨_, rfl⟩
  rw [e4] at mk
  have B4 : Below w1.heap.size w1 W4 := by rw [← e4]; exact one_alloc _ _
  have z4 : W4.heap.size = w1.heap.size + 1 := by rw [← e4]; simp
  have RM : W4.rowIs w1.heap.size 3 L (toF (fromL fz L) 0) := by
    rw [← e4]
    exact (World.rowIs_made w1 (.int .i64 0) L 3).congr fun i hi => by unfold toF; rw [if_neg (by omega)]
  have I4 := I1.next B4
  have HI4 := hide I4
  have HZ4 := hide (And.intro z4 I1.size)
  have HRM := hide RM
  clear I1 HE hb1 HI p0 p1 f0 f1 B4 z4 RM I4
  by_cases hneg : Nn < 0
  · have hfz0 : fz = 0 := by rw [← hfz]; unfold drpF; rw [if_pos hneg]
    subst hfz0
    have hLv : (max ((D : Int) + Nn) 0) = (L : Int) := by
      have : drpN Nn D = (max ((D : Int) + Nn) 0).toNat := by unfold drpN; rw [if_pos hneg]
      omega
    have hm1 : ¬ (D : Int) < Nn := by omega
    by_cases hA : (D : Int) + Nn < 0
    · have hL0 : L = 0 := by omega
      subst hL0
      change (Instr.makeSlice 22 (.int .i64 0) (.int .i64 0)).run Try.prog w1 = _ at mk
      clear hfz hL hLv
      go_wp2
      clear mk e4 u0 r0 r1
      go_loopg [42] 0 (fun g i wr => ∃ j : Nat, g + j = 0 ∧ i = .int .i64 (j : Int) ∧ Two W4 w1.heap.size w1.heap.size wr ∧ wr.rowIs w1.heap.size 3 0 (toF (fromL 0 0) j))
      case atStart => exact ⟨0, rfl, rfl, Two.refl _ _ _, HRM.out⟩
      case round =>
        clear HRM
        obtain ⟨j, hgj, rfl, hTw, hrow⟩ := hrel
        by_cases hlt : j < 0
        · exact absurd hlt (by omega)
        · have hje : j = 0 := by omega
          subst hje
          have hz := HZ4.out
          have RR : Row 0 wr (some ⟨w1.heap.size, 0, none⟩) (fromL 0 0) := row_toF3 (by rw [fromL_len]; exact hrow) (Nat.zero_le _) (by rw [fromL_len]; omega)
          have I5 : In3 w (.slice a1 SX c1) (.slice a2 CX c2) (.slice (some ⟨by', oy, none⟩) SY d1) (.slice b2 CY d2) wr := HI4.out.belowS (hTw.belowB (B := w.heap.size + 3) (by omega) (by omega)) (Nat.le_refl _)
          have C := along_row (k := 0) (c1 := d1) (c2 := d2) (HRY.out.next I5.bel) HY.out.1 (HB0.out.trans (I5.bel.mono HB0.out.size)) (by rw [HSC.out.1, HSC.out.2]; exact HY.out.2.2) HY.out.2.1 (by rw [HSC.out.1]; exact hS) (fromL 0 0) (some ⟨w1.heap.size, 0, none⟩) 0 RR (fun i hi => by
            rw [fromL_len] at hi
            rw [fromL_at _ 0 i hi, HD.out]
            omega) (by rw [fromL_len]; exact drop_size HY.out.2.1 (by rw [HSC.out.1]; exact hS) HD.out (by omega)) (by rw [fromL_len]; omega)
          rw [fromL_len, HSC.out.1, HSC.out.2] at C
          have r0 := I5.r0
          have r1 := I5.r1
          have HI5 := hide I5
          obtain ⟨Y, hYY⟩ : ∃ Y, alongA y 0 (fromL 0 0) = Y := ⟨_, rfl⟩
          rw [hYY] at C HE5
          clear RR I5 hrow hTw hz hYY
          go_wp2_with fail
          refine C.mono ?_
          clear C
          rintro e w5 ⟨⟨v, rfl, hcv, hv⟩, hb5⟩
          have NB : Below w0.heap.size w0 w5 := HB0.out.trans ((HI5.out.bel.trans (hb5.mono HI5.out.bel.size)).mono HB0.out.size)
          obtain ⟨z1, m1, z2, m2, rfl, -, -⟩ := (hv w5 NB (Keeps.refl _ _)).form
          have I6 := HI5.out.next hb5
          have p0 := I6.p0
          have p1 := I6.p1
          have f0 := I6.f0
          have f1 := I6.f1
          have HT := hide (I6.put (.slice z1 Y.shape.length m1) (.slice z2 Y.cells.length m2))
          have HCV := hide hcv
          have HF : Hid (∀ u v W, Below w0.heap.size w0 W → Keeps w.heap.size ((w5.setCell ⟨w.heap.size + 2, 0, none⟩ u).setCell ⟨w.heap.size + 2, 1, none⟩ v) W → ArIn (n + 1) 0 W Y (.agg #[.slice z1 Y.shape.length m1, .slice z2 Y.cells.length m2])) := by
            intro u v W hW hK
            exact hv W hW (((keeps_three w5 w.heap.size u v).trans (hK.mono (show w.heap.size ≤ w.heap.size + 3 by omega))).mono HI5.out.size)
          have HFI := hide I6.fin
          clear I6 hv hcv hb5 NB r0 r1
          generalize Y.shape.length = YS at *
          generalize Y.cells.length = YC at *
          go_wp2
          exact bodyPost_ret (v := .tuple #[.agg #[.slice z1 YS m1, .slice z2 YC m2], .int .i64 0]) (by simp [results, Try.results77, go_sem, HT.out.1, HT.out.2]) rfl (gives2k_of HE5.out HCV.out (HF.out _ _) (HFI.out _ _))
    · have hDN : (D : Int) + Nn = (L : Int) := by omega
      clear hfz hL hLv hA
      go_wp2
      clear mk e4 u0 r0 r1
      go_loopg [42] L (fun g i wr => ∃ j : Nat, g + j = L ∧ i = .int .i64 (j : Int) ∧ Two W4 w1.heap.size w1.heap.size wr ∧ wr.rowIs w1.heap.size 3 L (toF (fromL 0 L) j))
      case atStart => exact ⟨0, rfl, rfl, Two.refl _ _ _, HRM.out⟩
      case round =>
        clear HRM
        obtain ⟨j, hgj, rfl, hTw, hrow⟩ := hrel
        by_cases hlt : j < L
        · have z0 := hrow.cell (i := j) hlt
          have y0 := hrow.frozen j
          have HS : Hid (Two W4 w1.heap.size w1.heap.size (wr.setCell ⟨w1.heap.size, j, none⟩ (.int .i64 ((0 + j : Nat) : Int))) ∧ (wr.setCell ⟨w1.heap.size, j, none⟩ (.int .i64 ((0 + j : Nat) : Int))).rowIs w1.heap.size 3 L (toF (fromL 0 L) (j + 1))) := ⟨hTw.set1 _ _, (hrow.set j (.int .i64 ((0 + j : Nat) : Int))).congr (fun i _ => by rw [toF_step, fromL_at 0 L j hlt])⟩
          obtain ⟨fj, hfj⟩ : ∃ fj, 0 + j = fj := ⟨_, rfl⟩
          rw [hfj] at HS
          have hfj2 : (0 : Int) + (j : Int) = (fj : Int) := by omega
          generalize toF (fromL 0 L) j j = yv at *
          clear hrow hTw hfj
          go_wp2
          go_roundg (L - (j + 1))
          case rel => exact ⟨j + 1, by omega, by go_num, HS.out⟩
          case measure => omega
        · have hje : j = L := by omega
          subst hje
          have hz := HZ4.out
          have RR : Row 0 wr (some ⟨w1.heap.size, 0, none⟩) (fromL 0 j) := row_toF3 (by rw [fromL_len]; exact hrow) (Nat.zero_le _) (by rw [fromL_len]; omega)
          have I5 : In3 w (.slice a1 SX c1) (.slice a2 CX c2) (.slice (some ⟨by', oy, none⟩) SY d1) (.slice b2 CY d2) wr := HI4.out.belowS (hTw.belowB (B := w.heap.size + 3) (by omega) (by omega)) (Nat.le_refl _)
          have C := along_row (k := 0) (c1 := d1) (c2 := d2) (HRY.out.next I5.bel) HY.out.1 (HB0.out.trans (I5.bel.mono HB0.out.size)) (by rw [HSC.out.1, HSC.out.2]; exact HY.out.2.2) HY.out.2.1 (by rw [HSC.out.1]; exact hS) (fromL 0 j) (some ⟨w1.heap.size, 0, none⟩) j RR (fun i hi => by
            rw [fromL_len] at hi
            rw [fromL_at _ j i hi, HD.out]
            omega) (by rw [fromL_len]; exact drop_size HY.out.2.1 (by rw [HSC.out.1]; exact hS) HD.out (by omega)) (by rw [fromL_len]; omega)
          rw [fromL_len, HSC.out.1, HSC.out.2] at C
          have r0 := I5.r0
          have r1 := I5.r1
          have HI5 := hide I5
          obtain ⟨Y, hYY⟩ : ∃ Y, alongA y 0 (fromL 0 j) = Y := ⟨_, rfl⟩
          rw [hYY] at C HE5
          clear RR I5 hrow hTw hz hYY
          go_wp2_with fail
          refine C.mono ?_
          clear C
          rintro e w5 ⟨⟨v, rfl, hcv, hv⟩, hb5⟩
          have NB : Below w0.heap.size w0 w5 := HB0.out.trans ((HI5.out.bel.trans (hb5.mono HI5.out.bel.size)).mono HB0.out.size)
          obtain ⟨z1, m1, z2, m2, rfl, -, -⟩ := (hv w5 NB (Keeps.refl _ _)).form
          have I6 := HI5.out.next hb5
          have p0 := I6.p0
          have p1 := I6.p1
          have f0 := I6.f0
          have f1 := I6.f1
          have HT := hide (I6.put (.slice z1 Y.shape.length m1) (.slice z2 Y.cells.length m2))
          have HCV := hide hcv
          have HF : Hid (∀ u v W, Below w0.heap.size w0 W → Keeps w.heap.size ((w5.setCell ⟨w.heap.size + 2, 0, none⟩ u).setCell ⟨w.heap.size + 2, 1, none⟩ v) W → ArIn (n + 1) 0 W Y (.agg #[.slice z1 Y.shape.length m1, .slice z2 Y.cells.length m2])) := by
            intro u v W hW hK
            exact hv W hW (((keeps_three w5 w.heap.size u v).trans (hK.mono (show w.heap.size ≤ w.heap.size + 3 by omega))).mono HI5.out.size)
          have HFI := hide I6.fin
          clear I6 hv hcv hb5 NB r0 r1
          generalize Y.shape.length = YS at *
          generalize Y.cells.length = YC at *
          go_wp2
          exact bodyPost_ret (v := .tuple #[.agg #[.slice z1 YS m1, .slice z2 YC m2], .int .i64 0]) (by simp [results, Try.results77, go_sem, HT.out.1, HT.out.2]) rfl (gives2k_of HE5.out HCV.out (HF.out _ _) (HFI.out _ _))
  · have hF : drpF Nn D = (min Nn (D : Int)).toNat := by unfold drpF; rw [if_neg hneg]
    have hG : drpN Nn D = D - (min Nn (D : Int)).toNat := by unfold drpN; rw [if_neg hneg]
    by_cases hB : (D : Int) < Nn
    · have h1 : fz = D := by omega
      have h2 : L = 0 := by omega
      subst h1 h2
      change (Instr.makeSlice 22 (.int .i64 0) (.int .i64 0)).run Try.prog w1 = _ at mk
      clear hfz hL hF hG
      go_wp2
      clear mk e4 u0 r0 r1
      go_loopg [42] 0 (fun g i wr => ∃ j : Nat, g + j = 0 ∧ i = .int .i64 (j : Int) ∧ Two W4 w1.heap.size w1.heap.size wr ∧ wr.rowIs w1.heap.size 3 0 (toF (fromL fz 0) j))
      case atStart => exact ⟨0, rfl, rfl, Two.refl _ _ _, HRM.out⟩
      case round =>
        clear HRM
        obtain ⟨j, hgj, rfl, hTw, hrow⟩ := hrel
        by_cases hlt : j < 0
        · exact absurd hlt (by omega)
        · have hje : j = 0 := by omega
          subst hje
          have hz := HZ4.out
          have RR : Row 0 wr (some ⟨w1.heap.size, 0, none⟩) (fromL fz 0) := row_toF3 (by rw [fromL_len]; exact hrow) (Nat.zero_le _) (by rw [fromL_len]; omega)
          have I5 : In3 w (.slice a1 SX c1) (.slice a2 CX c2) (.slice (some ⟨by', oy, none⟩) SY d1) (.slice b2 CY d2) wr := HI4.out.belowS (hTw.belowB (B := w.heap.size + 3) (by omega) (by omega)) (Nat.le_refl _)
          have C := along_row (k := 0) (c1 := d1) (c2 := d2) (HRY.out.next I5.bel) HY.out.1 (HB0.out.trans (I5.bel.mono HB0.out.size)) (by rw [HSC.out.1, HSC.out.2]; exact HY.out.2.2) HY.out.2.1 (by rw [HSC.out.1]; exact hS) (fromL fz 0) (some ⟨w1.heap.size, 0, none⟩) 0 RR (fun i hi => by
            rw [fromL_len] at hi
            rw [fromL_at _ 0 i hi, HD.out]
            omega) (by rw [fromL_len]; exact drop_size HY.out.2.1 (by rw [HSC.out.1]; exact hS) HD.out (by omega)) (by rw [fromL_len]; omega)
          rw [fromL_len, HSC.out.1, HSC.out.2] at C
          have r0 := I5.r0
          have r1 := I5.r1
          have HI5 := hide I5
          obtain ⟨Y, hYY⟩ : ∃ Y, alongA y 0 (fromL fz 0) = Y := ⟨_, rfl⟩
          rw [hYY] at C HE5
          clear RR I5 hrow hTw hz hYY
          go_wp2_with fail
          refine C.mono ?_
          clear C
          rintro e w5 ⟨⟨v, rfl, hcv, hv⟩, hb5⟩
          have NB : Below w0.heap.size w0 w5 := HB0.out.trans ((HI5.out.bel.trans (hb5.mono HI5.out.bel.size)).mono HB0.out.size)
          obtain ⟨z1, m1, z2, m2, rfl, -, -⟩ := (hv w5 NB (Keeps.refl _ _)).form
          have I6 := HI5.out.next hb5
          have p0 := I6.p0
          have p1 := I6.p1
          have f0 := I6.f0
          have f1 := I6.f1
          have HT := hide (I6.put (.slice z1 Y.shape.length m1) (.slice z2 Y.cells.length m2))
          have HCV := hide hcv
          have HF : Hid (∀ u v W, Below w0.heap.size w0 W → Keeps w.heap.size ((w5.setCell ⟨w.heap.size + 2, 0, none⟩ u).setCell ⟨w.heap.size + 2, 1, none⟩ v) W → ArIn (n + 1) 0 W Y (.agg #[.slice z1 Y.shape.length m1, .slice z2 Y.cells.length m2])) := by
            intro u v W hW hK
            exact hv W hW (((keeps_three w5 w.heap.size u v).trans (hK.mono (show w.heap.size ≤ w.heap.size + 3 by omega))).mono HI5.out.size)
          have HFI := hide I6.fin
          clear I6 hv hcv hb5 NB r0 r1
          generalize Y.shape.length = YS at *
          generalize Y.cells.length = YC at *
          go_wp2
          exact bodyPost_ret (v := .tuple #[.agg #[.slice z1 YS m1, .slice z2 YC m2], .int .i64 0]) (by simp [results, Try.results77, go_sem, HT.out.1, HT.out.2]) rfl (gives2k_of HE5.out HCV.out (HF.out _ _) (HFI.out _ _))
    · have h1 : Nn = (fz : Int) := by omega
      have h2 : D = fz + L := by omega
      subst h1
      have hsub : (D : Int) - (fz : Int) = (L : Int) := by omega
      clear hfz hL hF hG h2
      go_wp2
      clear mk e4 u0 r0 r1
      go_loopg [42] L (fun g i wr => ∃ j : Nat, g + j = L ∧ i = .int .i64 (j : Int) ∧ Two W4 w1.heap.size w1.heap.size wr ∧ wr.rowIs w1.heap.size 3 L (toF (fromL fz L) j))
      case atStart => exact ⟨0, rfl, rfl, Two.refl _ _ _, HRM.out⟩
      case round =>
        clear HRM
        obtain ⟨j, hgj, rfl, hTw, hrow⟩ := hrel
        by_cases hlt : j < L
        · have z0 := hrow.cell (i := j) hlt
          have y0 := hrow.frozen j
          have HS : Hid (Two W4 w1.heap.size w1.heap.size (wr.setCell ⟨w1.heap.size, j, none⟩ (.int .i64 ((fz + j : Nat) : Int))) ∧ (wr.setCell ⟨w1.heap.size, j, none⟩ (.int .i64 ((fz + j : Nat) : Int))).rowIs w1.heap.size 3 L (toF (fromL fz L) (j + 1))) := ⟨hTw.set1 _ _, (hrow.set j (.int .i64 ((fz + j : Nat) : Int))).congr (fun i _ => by rw [toF_step, fromL_at fz L j hlt])⟩
          obtain ⟨fj, hfj⟩ : ∃ fj, fz + j = fj := ⟨_, rfl⟩
          rw [hfj] at HS
          have hfj2 : (fz : Int) + (j : Int) = (fj : Int) := by omega
          generalize toF (fromL fz L) j j = yv at *
          clear hrow hTw hfj
          go_wp2
          go_roundg (L - (j + 1))
          case rel => exact ⟨j + 1, by omega, by go_num, HS.out⟩
          case measure => omega
        · have hje : j = L := by omega
          subst hje
          have hz := HZ4.out
          have RR : Row 0 wr (some ⟨w1.heap.size, 0, none⟩) (fromL fz j) := row_toF3 (by rw [fromL_len]; exact hrow) (Nat.zero_le _) (by rw [fromL_len]; omega)
          have I5 : In3 w (.slice a1 SX c1) (.slice a2 CX c2) (.slice (some ⟨by', oy, none⟩) SY d1) (.slice b2 CY d2) wr := HI4.out.belowS (hTw.belowB (B := w.heap.size + 3) (by omega) (by omega)) (Nat.le_refl _)
          have C := along_row (k := 0) (c1 := d1) (c2 := d2) (HRY.out.next I5.bel) HY.out.1 (HB0.out.trans (I5.bel.mono HB0.out.size)) (by rw [HSC.out.1, HSC.out.2]; exact HY.out.2.2) HY.out.2.1 (by rw [HSC.out.1]; exact hS) (fromL fz j) (some ⟨w1.heap.size, 0, none⟩) j RR (fun i hi => by
            rw [fromL_len] at hi
            rw [fromL_at _ j i hi, HD.out]
            omega) (by rw [fromL_len]; exact drop_size HY.out.2.1 (by rw [HSC.out.1]; exact hS) HD.out (by omega)) (by rw [fromL_len]; omega)
          rw [fromL_len, HSC.out.1, HSC.out.2] at C
          have r0 := I5.r0
          have r1 := I5.r1
          have HI5 := hide I5
          obtain ⟨Y, hYY⟩ : ∃ Y, alongA y 0 (fromL fz j) = Y := ⟨_, rfl⟩
          rw [hYY] at C HE5
          clear RR I5 hrow hTw hz hYY
          go_wp2_with fail
          refine C.mono ?_
          clear C
          rintro e w5 ⟨⟨v, rfl, hcv, hv⟩, hb5⟩
          have NB : Below w0.heap.size w0 w5 := HB0.out.trans ((HI5.out.bel.trans (hb5.mono HI5.out.bel.size)).mono HB0.out.size)
          obtain ⟨z1, m1, z2, m2, rfl, -, -⟩ := (hv w5 NB (Keeps.refl _ _)).form
          have I6 := HI5.out.next hb5
          have p0 := I6.p0
          have p1 := I6.p1
          have f0 := I6.f0
          have f1 := I6.f1
          have HT := hide (I6.put (.slice z1 Y.shape.length m1) (.slice z2 Y.cells.length m2))
          have HCV := hide hcv
          have HF : Hid (∀ u v W, Below w0.heap.size w0 W → Keeps w.heap.size ((w5.setCell ⟨w.heap.size + 2, 0, none⟩ u).setCell ⟨w.heap.size + 2, 1, none⟩ v) W → ArIn (n + 1) 0 W Y (.agg #[.slice z1 Y.shape.length m1, .slice z2 Y.cells.length m2])) := by
            intro u v W hW hK
            exact hv W hW (((keeps_three w5 w.heap.size u v).trans (hK.mono (show w.heap.size ≤ w.heap.size + 3 by omega))).mono HI5.out.size)
          have HFI := hide I6.fin
          clear I6 hv hcv hb5 NB r0 r1
          generalize Y.shape.length = YS at *
          generalize Y.cells.length = YC at *
          go_wp2
          exact bodyPost_ret (v := .tuple #[.agg #[.slice z1 YS m1, .slice z2 YC m2], .int .i64 0]) (by simp [results, Try.results77, go_sem, HT.out.1, HT.out.2]) rfl (gives2k_of HE5.out HCV.out (HF.out _ _) (HFI.out _ _))
end Go.Proofs.Ytmjncdhahdpplaa
namespace Go.Proofs.Ytmjncdhahdpplaa
open Go.ChangeShapes Go.WideShapes Go.ChangeAt Go.RowKit
set_option linter.unusedVariables false
set_option maxRecDepth 100000
set_option maxHeartbeats 4000000 in
theorem pieces_43 {n lo lo' : Nat} {x y : Ar} {va vb : Value} {w0 w : World} (hx : ArIn (n + 1) lo w0 x va) (hy : ArIn (n + 1) lo' w0 y vb) (hb0 : Below w0.heap.size w0 w) (hcx : chkA 8 x = 0) (hcy : chkA 8 y = 0) (hcapx : Caps va) (hcapy : Caps vb) (hI64 : I64 (numR x).1) :
    Calls Try.prog 46 #[.int .i64 43, va, vb] w fun e w' => Gives2K (n + 1) w0 (drpR x (lstA y)).1 (drpR x (lstA y)).2 w e w' := by
  obtain ⟨a1, c1, a2, c2, rfl, R, hc⟩ := hx.form
  obtain ⟨b1, d1, b2, d2, rfl, R', hc'⟩ := hy.form
  have I := in3_new w (.slice a1 x.shape.length c1) (.slice a2 x.cells.length c2) (.slice b1 y.shape.length d1) (.slice b2 y.cells.length d2)
  obtain ⟨W3, e3⟩ : ∃ W3, ((w.alloc (.cells #[.slice a1 x.shape.length c1, .slice a2 x.cells.length c2] 25)).alloc (.cells #[.slice b1 y.shape.length d1, .slice b2 y.cells.length d2] 25)).alloc (.cells #[.slice none 0 0, .slice none 0 0] 25) = W3 := ⟨_, rfl⟩
  rw [e3] at I
  have NB : Below w0.heap.size w0 W3 := hb0.trans (I.bel.mono hb0.size)
  have q0 := I.q0
  have q1 := I.q1
  have r0 := I.r0
  have r1 := I.r1
  have HI := hide I
  have HNB := hide NB
  obtain ⟨lx8, cx16⟩ := chk_len hcx
  obtain ⟨ly8, cy16⟩ := chk_len hcy
  obtain ⟨k1, k2, k3⟩ := lst_facts hcy
  have HC1 := hide (plisted_row hy NB.drew hcapy)
  have HC2 : Hid (∀ W s1 j1, Below w0.heap.size w0 W → Row 0 W s1 (lstA y).shape → (lstA y).shape.length ≤ j1 → Calls Try.prog 77 #[.agg #[.slice a1 x.shape.length c1, .slice a2 x.cells.length c2], .agg #[.slice s1 (lstA y).shape.length j1, .slice b2 y.cells.length d2]] W fun e w' => Gives2K (n + 1) w0 (drpR x (lstA y)).1 (drpR x (lstA y)).2 W e w') := by
    intro W s1 j1 hW hRW hj
    have := dropped_row (y := lstA y) (b2 := b2) (d1 := j1) (d2 := d2) hx hRW (by rw [k2]; exact hc') hW hcx k1 (by rw [k2]; exact ⟨_, _, _, _, _, _, rfl, hj, (caps_form hcapy).2⟩) k3 hI64
    rw [k2] at this
    exact this
  obtain ⟨⟨Y, EY⟩, hR⟩ : ∃ p, drpR x (lstA y) = p := ⟨_, rfl⟩
  rw [hR] at HC2 ⊢
  simp only at HC2 ⊢
  unfold LstIs at HC1
  obtain ⟨SL, hSL⟩ : ∃ SL, (lstA y).shape.length = SL := ⟨_, rfl⟩
  rw [hSL] at HC1 HC2
  obtain ⟨lsh, hlsh⟩ : ∃ l, (lstA y).shape = l := ⟨_, rfl⟩
  rw [hlsh] at HC1 HC2
  have HID : Hid (In3 w (.slice a1 x.shape.length c1) (.slice a2 x.cells.length c2) (.slice b1 y.shape.length d1) (.slice b2 y.cells.length d2) W3.drew) := I.next (Below.refl _ _).drew
  clear hR R hc R' hc' hx hy hcx hcy hcapx hcapy NB I hb0 k1 k2 k3 hSL hlsh hI64
  generalize x.shape.length = SX at *
  generalize x.cells.length = CX at *
  generalize y.shape.length = SY at *
  generalize y.cells.length = CY at *
  go_enter Try.func46, Try.ntmps46
  go_wp2
  clear e3
  go_region_with (first
    | (go_at_call 76; refine HC1.out.mono ?_; rintro e w1 ⟨⟨s1, j1, rfl, hj, hrw⟩, hb1⟩; have I1 := HID.out.next hb1; have t0 := I1.q0; have t1 := I1.q1; have NB1 := (HNB.out.drew.trans (hb1.mono HNB.out.drew.size)); have RW1 := hrw w1 NB1 (Keeps.refl _ _))
    | (go_at_call 77; refine (HC2.out _ _ _ NB1 RW1 hj).mono ?_; rintro e w2 ⟨⟨v, rfl, hcv, hv⟩, hb2⟩; obtain ⟨z1, m1, z2, m2, rfl, -, -⟩ := (hv w2 (NB1.trans (hb2.mono NB1.size)) (Keeps.refl _ _)).form; have I2 := I1.next hb2; have p0 := I2.p0; have p1 := I2.p1; have f0 := I2.f0; have f1 := I2.f1))
  all_goals
    have HT := hide (I2.put (.slice z1 Y.shape.length m1) (.slice z2 Y.cells.length m2))
    have HCV := hide hcv
    have hs3 := I1.size
    have HF : Hid (∀ u v W, Below w0.heap.size w0 W → Keeps w.heap.size ((w2.setCell ⟨w.heap.size + 2, 0, none⟩ u).setCell ⟨w.heap.size + 2, 1, none⟩ v) W → ArIn (n + 1) 0 W Y (.agg #[.slice z1 Y.shape.length m1, .slice z2 Y.cells.length m2])) := by
      intro u v W hW hK
      exact hv W hW (((keeps_three w2 w.heap.size u v).trans (hK.mono (show w.heap.size ≤ w.heap.size + 3 by omega))).mono hs3)
    have HFI := hide I2.fin
    clear I2 hv hcv hb2 HI hs3 q0 q1 r0 r1 HNB I1 t0 t1 NB1 RW1 hrw hb1 HC1 HC2 HID
    generalize Y.shape.length = YS at *
    generalize Y.cells.length = YC at *
    go_wp2
    exact bodyPost_ret (v := .tuple #[.agg #[.slice z1 YS m1, .slice z2 YC m2], .int .i64 EY]) (by simp [results, Try.results46, go_sem, HT.out.1, HT.out.2]) rfl ⟨⟨_, rfl, HCV.out, HF.out _ _⟩, HFI.out _ _⟩
theorem drp_chk {x y : Ar} (hy : chkA 8 y = 0) (hS : 0 < y.shape.length) : (¬ (drpR x y).2 = 0 → (drpR x y).1 = zeroA) ∧ ((drpR x y).2 = 0 → chkA 8 (drpR x y).1 = 0) := by
  unfold drpR
  by_cases h1 : (numR x).2 = 0
  case neg => rw [if_pos h1]; exact ⟨fun _ => rfl, fun h => absurd h h1⟩
  rw [if_neg (by simpa using h1)]
  refine ⟨fun h => absurd rfl h, fun _ => ?_⟩
  have hDb := (chk_axes hy).1 (gI y.shape 0) (getD_mem hS)
  obtain ⟨D, hD⟩ : ∃ D : Nat, gI y.shape 0 = (D : Int) := ⟨(gI y.shape 0).toNat, by omega⟩
  rw [hD, Int.toNat_natCast]
  have hle := drp_le (numR x).1 D
  generalize drpF (numR x).1 D = f at *
  generalize drpN (numR x).1 D = L at *
  have hsz : sizeE (y.shape.set 0 ((fromL f L).length : Int)) = 0 := by rw [fromL_len]; exact drop_size hy hS hD (by omega)
  have hA := alongA_cells hy hS (l := fromL f L) (fun i hi => by
    rw [fromL_len] at hi
    rw [fromL_at f L i hi, hD]
    omega) hsz
  have e : alongA y 0 (fromL f L) = .mk (y.shape.set 0 ((fromL f L).length : Int)) (alongA y 0 (fromL f L)).cells := rfl
  rw [e]
  refine chk_of hy hsz hA.1.symm ?_ hA.2
  rintro ⟨z, hz, hl⟩
  rcases List.mem_or_eq_of_mem_set hz with h | h
  · exact ((chkA_iff 8 y).1 hy).2.2.1 ⟨z, h, hl⟩
  · rw [fromL_len] at h; omega
theorem dy_43 {n lo lo' : Nat} {x y : Ar} {va vb : Value} {w : World} (hx : ArIn (n + 1) lo w x va) (hy : ArIn (n + 1) lo' w y vb) (hcx : chkA 8 x = 0) (hcy : chkA 8 y = 0) (kx : Caps va) (ky : Caps vb) (hI : I64 (numR x).1) : Calls Try.prog 19 #[.int .i64 43, va, vb] w fun e w' => GivesD (n + 1) (drpR x (lstA y)).1 (drpR x (lstA y)).2 w e w' :=
  dy_of hx hy hcx hcy (fun W hW => pieces_43 hx hy hW hcx hcy kx ky hI) (drp_chk (lst_facts hcy).1 (lst_facts hcy).2.2).1 (drp_chk (lst_facts hcy).1 (lst_facts hcy).2.2).2
end Go.Proofs.Ytmjncdhahdpplaa
namespace Go.Proofs.Ytmjncdhahdpplaa
open Go.ChangeShapes Go.WideShapes Go.ChangeAt Go.RowKit
set_option linter.unusedVariables false
set_option maxRecDepth 100000
set_option maxHeartbeats 4000000 in
theorem pieces_50 {n lo lo' : Nat} {x y : Ar} {va vb : Value} {w0 w : World} (hx : ArIn (n + 1) lo w0 x va) (hy : ArIn (n + 1) lo' w0 y vb) (hb0 : Below w0.heap.size w0 w) (hcx : chkA 8 x = 0) (hcy : chkA 8 y = 0) (hcapx : Caps va) (hcapy : Caps vb) :
    Calls Try.prog 46 #[.int .i64 50, va, vb] w fun e w' => Gives2K (n + 1) w0 (repR x (lstA y) 0).1 (repR x (lstA y) 0).2 w e w' := by
  obtain ⟨a1, c1, a2, c2, rfl, R, hc⟩ := hx.form
  obtain ⟨b1, d1, b2, d2, rfl, R', hc'⟩ := hy.form
  have I := in3_new w (.slice a1 x.shape.length c1) (.slice a2 x.cells.length c2) (.slice b1 y.shape.length d1) (.slice b2 y.cells.length d2)
  obtain ⟨W3, e3⟩ : ∃ W3, ((w.alloc (.cells #[.slice a1 x.shape.length c1, .slice a2 x.cells.length c2] 25)).alloc (.cells #[.slice b1 y.shape.length d1, .slice b2 y.cells.length d2] 25)).alloc (.cells #[.slice none 0 0, .slice none 0 0] 25) = W3 := ⟨_, rfl⟩
  rw [e3] at I
  have NB : Below w0.heap.size w0 W3 := hb0.trans (I.bel.mono hb0.size)
  have q0 := I.q0
  have q1 := I.q1
  have r0 := I.r0
  have r1 := I.r1
  have HI := hide I
  have HNB := hide NB
  obtain ⟨lx8, cx16⟩ := chk_len hcx
  obtain ⟨ly8, cy16⟩ := chk_len hcy
  obtain ⟨k1, k2, k3⟩ := lst_facts hcy
  have HC1 := hide (plisted_row hy NB.drew hcapy)
  have HC2 : Hid (∀ W s1 j1, Below w0.heap.size w0 W → Row 0 W s1 (lstA y).shape → (lstA y).shape.length ≤ j1 → Calls Try.prog 81 #[.agg #[.slice a1 x.shape.length c1, .slice a2 x.cells.length c2], .agg #[.slice s1 (lstA y).shape.length j1, .slice b2 y.cells.length d2], .int .i64 0] W fun e w' => Gives2K (n + 1) w0 (repR x (lstA y) 0).1 (repR x (lstA y) 0).2 W e w') := by
    intro W s1 j1 hW hRW hj
    have := repeated_row (k := 0) (y := lstA y) (b2 := b2) (d1 := j1) (d2 := d2) hx hRW (by rw [k2]; exact hc') hW hcx k1 (by rw [k2]; exact ⟨_, _, _, _, _, _, rfl, hj, (caps_form hcapy).2⟩) k3
    rw [k2] at this
    exact this
  obtain ⟨⟨Y, EY⟩, hR⟩ : ∃ p, repR x (lstA y) 0 = p := ⟨_, rfl⟩
  rw [hR] at HC2 ⊢
  simp only at HC2 ⊢
  unfold LstIs at HC1
  obtain ⟨SL, hSL⟩ : ∃ SL, (lstA y).shape.length = SL := ⟨_, rfl⟩
  rw [hSL] at HC1 HC2
  obtain ⟨lsh, hlsh⟩ : ∃ l, (lstA y).shape = l := ⟨_, rfl⟩
  rw [hlsh] at HC1 HC2
  have HID : Hid (In3 w (.slice a1 x.shape.length c1) (.slice a2 x.cells.length c2) (.slice b1 y.shape.length d1) (.slice b2 y.cells.length d2) W3.drew) := I.next (Below.refl _ _).drew
  clear hR R hc R' hc' hx hy hcx hcy hcapx hcapy NB I hb0 k1 k2 k3 hSL hlsh
  generalize x.shape.length = SX at *
  generalize x.cells.length = CX at *
  generalize y.shape.length = SY at *
  generalize y.cells.length = CY at *
  go_enter Try.func46, Try.ntmps46
  go_wp2
  clear e3
  go_region_with (first
    | (go_at_call 76; refine HC1.out.mono ?_; rintro e w1 ⟨⟨s1, j1, rfl, hj, hrw⟩, hb1⟩; have I1 := HID.out.next hb1; have t0 := I1.q0; have t1 := I1.q1; have NB1 := (HNB.out.drew.trans (hb1.mono HNB.out.drew.size)); have RW1 := hrw w1 NB1 (Keeps.refl _ _))
    | (go_at_call 81; refine (HC2.out _ _ _ NB1 RW1 hj).mono ?_; rintro e w2 ⟨⟨v, rfl, hcv, hv⟩, hb2⟩; obtain ⟨z1, m1, z2, m2, rfl, -, -⟩ := (hv w2 (NB1.trans (hb2.mono NB1.size)) (Keeps.refl _ _)).form; have I2 := I1.next hb2; have p0 := I2.p0; have p1 := I2.p1; have f0 := I2.f0; have f1 := I2.f1))
  all_goals
    have HT := hide (I2.put (.slice z1 Y.shape.length m1) (.slice z2 Y.cells.length m2))
    have HCV := hide hcv
    have hs3 := I1.size
    have HF : Hid (∀ u v W, Below w0.heap.size w0 W → Keeps w.heap.size ((w2.setCell ⟨w.heap.size + 2, 0, none⟩ u).setCell ⟨w.heap.size + 2, 1, none⟩ v) W → ArIn (n + 1) 0 W Y (.agg #[.slice z1 Y.shape.length m1, .slice z2 Y.cells.length m2])) := by
      intro u v W hW hK
      exact hv W hW (((keeps_three w2 w.heap.size u v).trans (hK.mono (show w.heap.size ≤ w.heap.size + 3 by omega))).mono hs3)
    have HFI := hide I2.fin
    clear I2 hv hcv hb2 HI hs3 q0 q1 r0 r1 HNB I1 t0 t1 NB1 RW1 hrw hb1 HC1 HC2 HID
    generalize Y.shape.length = YS at *
    generalize Y.cells.length = YC at *
    go_wp2
    exact bodyPost_ret (v := .tuple #[.agg #[.slice z1 YS m1, .slice z2 YC m2], .int .i64 EY]) (by simp [results, Try.results46, go_sem, HT.out.1, HT.out.2]) rfl ⟨⟨_, rfl, HCV.out, HF.out _ _⟩, HFI.out _ _⟩
set_option maxHeartbeats 4000000 in
theorem pieces_51 {n lo lo' : Nat} {x y : Ar} {va vb : Value} {w0 w : World} (hx : ArIn (n + 1) lo w0 x va) (hy : ArIn (n + 1) lo' w0 y vb) (hb0 : Below w0.heap.size w0 w) (hcx : chkA 8 x = 0) (hcy : chkA 8 y = 0) (hcapx : Caps va) (hcapy : Caps vb) :
    Calls Try.prog 46 #[.int .i64 51, va, vb] w fun e w' => Gives2K (n + 1) w0 (repR x (lstA y) ((lstA y).shape.length - 1)).1 (repR x (lstA y) ((lstA y).shape.length - 1)).2 w e w' := by
  obtain ⟨a1, c1, a2, c2, rfl, R, hc⟩ := hx.form
  obtain ⟨b1, d1, b2, d2, rfl, R', hc'⟩ := hy.form
  have I := in3_new w (.slice a1 x.shape.length c1) (.slice a2 x.cells.length c2) (.slice b1 y.shape.length d1) (.slice b2 y.cells.length d2)
  have hf := fun i => ((one_alloc ((w.alloc (.cells #[.slice a1 x.shape.length c1, .slice a2 x.cells.length c2] 25)).alloc (.cells #[.slice b1 y.shape.length d1, .slice b2 y.cells.length d2] 25)) (.cells #[.slice none 0 0, .slice none 0 0] 25)).frozen (p := ⟨w.heap.size + 1, i, none⟩) (by simp)).trans (frozen_new1 w #[.slice b1 y.shape.length d1, .slice b2 y.cells.length d2] 25 (.cells #[.slice a1 x.shape.length c1, .slice a2 x.cells.length c2] 25) i)
  obtain ⟨W3, e3⟩ : ∃ W3, ((w.alloc (.cells #[.slice a1 x.shape.length c1, .slice a2 x.cells.length c2] 25)).alloc (.cells #[.slice b1 y.shape.length d1, .slice b2 y.cells.length d2] 25)).alloc (.cells #[.slice none 0 0, .slice none 0 0] 25) = W3 := ⟨_, rfl⟩
  rw [e3] at I hf
  have NB : Below w0.heap.size w0 W3 := hb0.trans (I.bel.mono hb0.size)
  have q0 := I.q0
  have q1 := I.q1
  have r0 := I.r0
  have r1 := I.r1
  have HI := hide I
  have HHF := hide hf
  have HNB := hide NB
  obtain ⟨lx8, cx16⟩ := chk_len hcx
  obtain ⟨ly8, cy16⟩ := chk_len hcy
  obtain ⟨k1, k2, k3⟩ := lst_facts hcy
  have HC1 := hide (plisted_row hy NB hcapy)
  have HC2 : Hid (∀ W s1 j1, Below w0.heap.size w0 W → Row 0 W s1 (lstA y).shape → (lstA y).shape.length ≤ j1 → Calls Try.prog 81 #[.agg #[.slice a1 x.shape.length c1, .slice a2 x.cells.length c2], .agg #[.slice s1 (lstA y).shape.length j1, .slice b2 y.cells.length d2], .int .i64 (((lstA y).shape.length - 1 : Nat) : Int)] W fun e w' => Gives2K (n + 1) w0 (repR x (lstA y) ((lstA y).shape.length - 1)).1 (repR x (lstA y) ((lstA y).shape.length - 1)).2 W e w') := by
    intro W s1 j1 hW hRW hj
    have := repeated_row (k := (lstA y).shape.length - 1) (y := lstA y) (b2 := b2) (d1 := j1) (d2 := d2) hx hRW (by rw [k2]; exact hc') hW hcx k1 (by rw [k2]; exact ⟨_, _, _, _, _, _, rfl, hj, (caps_form hcapy).2⟩) (by omega)
    rw [k2] at this
    exact this
  have l8 := (chk_len k1).1
  obtain ⟨⟨Y, EY⟩, hR⟩ : ∃ p, repR x (lstA y) ((lstA y).shape.length - 1) = p := ⟨_, rfl⟩
  rw [hR] at HC2 ⊢
  simp only at HC2 ⊢
  unfold LstIs at HC1
  obtain ⟨SL, hSL⟩ : ∃ SL, (lstA y).shape.length = SL := ⟨_, rfl⟩
  rw [hSL] at HC1 HC2 k3 l8
  have hsub : (SL : Int) - 1 = ((SL - 1 : Nat) : Int) := by omega
  obtain ⟨lsh, hlsh⟩ : ∃ l, (lstA y).shape = l := ⟨_, rfl⟩
  rw [hlsh] at HC1 HC2
  have hs0 := hb0.size
  clear hR R hc R' hc' hx hy hcx hcy hcapx hcapy NB I hb0 k1 k2 hSL hlsh hf
  generalize x.shape.length = SX at *
  generalize x.cells.length = CX at *
  generalize y.shape.length = SY at *
  generalize y.cells.length = CY at *
  go_enter Try.func46, Try.ntmps46
  go_wp2_with fail
  clear e3 q0 q1 r0 r1
  refine HC1.out.mono ?_
  rintro e w1 ⟨⟨s1, j1, rfl, hj, hrw⟩, hb1⟩
  have I1 := HI.out.next hb1
  have r0 := I1.r0
  have r1 := I1.r1
  have sz := HI.out.size
  have g0 : w1.frozen? ⟨w.heap.size + 1, 0, none⟩ = false := (hb1.frozen (p := ⟨w.heap.size + 1, 0, none⟩) (by show w.heap.size + 1 < _; omega)).trans (HHF.out 0)
  have g1 : w1.frozen? ⟨w.heap.size + 1, 1, none⟩ = false := (hb1.frozen (p := ⟨w.heap.size + 1, 1, none⟩) (by show w.heap.size + 1 < _; omega)).trans (HHF.out 1)
  obtain ⟨W4, e4⟩ : ∃ W4, (w1.setCell ⟨w.heap.size + 1, 0, none⟩ (.slice s1 SL j1)).setCell ⟨w.heap.size + 1, 1, none⟩ (.slice b2 CY d2) = W4 := ⟨_, rfl⟩
  have st := set_two r0 r1 (.slice s1 SL j1) (.slice b2 CY d2)
  have I4 : In3 w (.slice a1 SX c1) (.slice a2 CX c2) (.slice s1 SL j1) (.slice b2 CY d2) W4 := by
    rw [← e4]
    refine ⟨(I1.bel.setCell (p := ⟨w.heap.size + 1, 0, none⟩) (by show _ ≤ w.heap.size + 1; omega) _).setCell (p := ⟨w.heap.size + 1, 1, none⟩) (by show _ ≤ w.heap.size + 1; omega) _, by simpa using I1.size, ?_, ?_, ?_, st.2, ?_, ?_, ?_, ?_⟩
    · rw [World.cell?_setCell_other _ _ _ _ (by simp), World.cell?_setCell_other _ _ _ _ (by simp)]; exact I1.q0
    · rw [World.cell?_setCell_other _ _ _ _ (by simp), World.cell?_setCell_other _ _ _ _ (by simp)]; exact I1.q1
    · rw [World.cell?_setCell_other _ _ _ _ (by simp)]; exact st.1
    · rw [World.cell?_setCell_other _ _ _ _ (by simp), World.cell?_setCell_other _ _ _ _ (by simp)]; exact I1.p0
    · rw [World.cell?_setCell_other _ _ _ _ (by simp), World.cell?_setCell_other _ _ _ _ (by simp)]; exact I1.p1
    · exact frozen_set _ _ _ _ (frozen_set _ _ _ _ I1.f0)
    · exact frozen_set _ _ _ _ (frozen_set _ _ _ _ I1.f1)
  have NB1 : Below w0.heap.size w0 w1 := HNB.out.trans (hb1.mono HNB.out.size)
  have NB4 : Below w0.heap.size w0 W4 := by
    rw [← e4]
    exact (NB1.setCell (p := ⟨w.heap.size + 1, 0, none⟩) (by show _ ≤ w.heap.size + 1; omega) _).setCell (p := ⟨w.heap.size + 1, 1, none⟩) (by show _ ≤ w.heap.size + 1; omega) _
  have RW4 := hrw W4 NB4 (by
    rw [← e4]
    exact ((Keeps.refl _ _).setCell (p := ⟨w.heap.size + 1, 0, none⟩) (by show w.heap.size + 1 < _; omega) _).setCell (p := ⟨w.heap.size + 1, 1, none⟩) (by show w.heap.size + 1 < _; omega) _)
  have C2 := HC2.out W4 s1 j1 NB4 RW4 hj
  have t0 := I4.q0
  have t1 := I4.q1
  have t2 := I4.r0
  have t3 := I4.r1
  have HI4 := hide I4
  have HNB4 := hide NB4
  clear I1 I4 NB1 NB4 RW4 hrw hb1 st HI HHF HC1 HC2 HNB sz
  go_wp2_with fail
  clear e4 t0 t1 t2 t3 r0 r1 g0 g1
  refine C2.mono ?_
  clear C2
  rintro e w2 ⟨⟨v, rfl, hcv, hv⟩, hb2⟩
  obtain ⟨z1, m1, z2, m2, rfl, -, -⟩ := (hv w2 (HNB4.out.trans (hb2.mono HNB4.out.size)) (Keeps.refl _ _)).form
  have I2 := HI4.out.next hb2
  have p0 := I2.p0
  have p1 := I2.p1
  have f0 := I2.f0
  have f1 := I2.f1
  have HT := hide (I2.put (.slice z1 Y.shape.length m1) (.slice z2 Y.cells.length m2))
  have HCV := hide hcv
  have hs3 := HI4.out.size
  have HF : Hid (∀ u v W, Below w0.heap.size w0 W → Keeps w.heap.size ((w2.setCell ⟨w.heap.size + 2, 0, none⟩ u).setCell ⟨w.heap.size + 2, 1, none⟩ v) W → ArIn (n + 1) 0 W Y (.agg #[.slice z1 Y.shape.length m1, .slice z2 Y.cells.length m2])) := by
    intro u v W hW hK
    exact hv W hW (((keeps_three w2 w.heap.size u v).trans (hK.mono (show w.heap.size ≤ w.heap.size + 3 by omega))).mono hs3)
  have HFI := hide I2.fin
  clear I2 hv hcv hb2 HI4 hs3 HNB4
  generalize Y.shape.length = YS at *
  generalize Y.cells.length = YC at *
  go_wp2
  exact bodyPost_ret (v := .tuple #[.agg #[.slice z1 YS m1, .slice z2 YC m2], .int .i64 EY]) (by simp [results, Try.results46, go_sem, HT.out.1, HT.out.2]) rfl ⟨⟨_, rfl, HCV.out, HF.out _ _⟩, HFI.out _ _⟩
theorem rep_chk {x y : Ar} (hy : chkA 8 y = 0) {k : Nat} (hk : k < y.shape.length) : (¬ (repR x y k).2 = 0 → (repR x y k).1 = zeroA) ∧ ((repR x y k).2 = 0 → chkA 8 (repR x y k).1 = 0) := by
  have hDb := (chk_axes hy).1 (gI y.shape k) (getD_mem hk)
  obtain ⟨D, hD⟩ : ∃ D : Nat, gI y.shape k = (D : Int) := ⟨(gI y.shape k).toNat, by omega⟩
  unfold repR
  rw [hD, Int.toNat_natCast]
  by_cases h1 : 1 < x.shape.length
  · rw [if_pos h1]; exact ⟨fun _ => rfl, fun h => absurd h (by decide)⟩
  rw [if_neg h1]
  by_cases h2 : firstUp (repF x) x.cells.length = 0
  case neg => rw [if_pos h2]; exact ⟨fun _ => rfl, fun h => absurd h (by decide)⟩
  rw [if_neg (by simpa using h2)]
  by_cases h3 : x.shape.length = 1 ∧ ¬ (x.cells.length : Int) = (D : Int)
  · rw [if_pos h3]; exact ⟨fun _ => rfl, fun h => absurd h (by decide)⟩
  rw [if_neg h3]
  by_cases h4 : 16384 < (oftL x.cells D).length
  · rw [if_pos h4]; exact ⟨fun _ => rfl, fun h => absurd h (by decide)⟩
  rw [if_neg h4]
  by_cases h5 : sizeE (y.shape.set k ((oftL x.cells D).length : Int)) = 0
  case neg => rw [if_pos h5]; exact ⟨fun _ => rfl, fun h => absurd h h5⟩
  rw [if_neg (by simpa using h5)]
  refine ⟨fun h => absurd rfl h, fun _ => ?_⟩
  have hA := alongA_cells hy hk (l := oftL x.cells D) (fun i hi => by rw [hD]; exact oftL_in x.cells D i hi) h5
  have e : alongA y k (oftL x.cells D) = .mk (y.shape.set k ((oftL x.cells D).length : Int)) (alongA y k (oftL x.cells D)).cells := rfl
  rw [e]
  refine chk_of hy h5 hA.1.symm ?_ hA.2
  rintro ⟨z, hz, hl⟩
  rcases List.mem_or_eq_of_mem_set hz with h | h
  · exact ((chkA_iff 8 y).1 hy).2.2.1 ⟨z, h, hl⟩
  · omega
theorem dy_50 {n lo lo' : Nat} {x y : Ar} {va vb : Value} {w : World} (hx : ArIn (n + 1) lo w x va) (hy : ArIn (n + 1) lo' w y vb) (hcx : chkA 8 x = 0) (hcy : chkA 8 y = 0) (kx : Caps va) (ky : Caps vb) : Calls Try.prog 19 #[.int .i64 50, va, vb] w fun e w' => GivesD (n + 1) (repR x (lstA y) 0).1 (repR x (lstA y) 0).2 w e w' :=
  dy_of hx hy hcx hcy (fun W hW => pieces_50 hx hy hW hcx hcy kx ky) (rep_chk (lst_facts hcy).1 (lst_facts hcy).2.2).1 (rep_chk (lst_facts hcy).1 (lst_facts hcy).2.2).2
theorem dy_51 {n lo lo' : Nat} {x y : Ar} {va vb : Value} {w : World} (hx : ArIn (n + 1) lo w x va) (hy : ArIn (n + 1) lo' w y vb) (hcx : chkA 8 x = 0) (hcy : chkA 8 y = 0) (kx : Caps va) (ky : Caps vb) : Calls Try.prog 19 #[.int .i64 51, va, vb] w fun e w' => GivesD (n + 1) (repR x (lstA y) ((lstA y).shape.length - 1)).1 (repR x (lstA y) ((lstA y).shape.length - 1)).2 w e w' :=
  have h0 := (lst_facts hcy).2.2
  dy_of hx hy hcx hcy (fun W hW => pieces_51 hx hy hW hcx hcy kx ky) (rep_chk (lst_facts hcy).1 (by omega)).1 (rep_chk (lst_facts hcy).1 (by omega)).2
end Go.Proofs.Ytmjncdhahdpplaa
namespace Go.Proofs.Ytmjncdhahdpplaa
open Go.ChangeShapes Go.WideShapes Go.ChangeAt Go.RowKit
set_option linter.unusedVariables false
set_option maxRecDepth 100000
/-- A block laid for a variable, still as it was laid. -/
def Zb (w : World) (b : Nat) : Prop := w.cell? ⟨b, 0, none⟩ = some (.slice none 0 0) ∧ w.cell? ⟨b, 1, none⟩ = some (.slice none 0 0) ∧ w.frozen? ⟨b, 0, none⟩ = false ∧ w.frozen? ⟨b, 1, none⟩ = false ∧ b < w.heap.size
theorem Zb.next {w w' : World} {b : Nat} (h : Zb w b) (hb : Below w.heap.size w w') : Zb w' b := by
  obtain ⟨h1, h2, h3, h4, h5⟩ := h
  exact ⟨(hb.cell (p := ⟨b, 0, none⟩) h5).trans h1, (hb.cell (p := ⟨b, 1, none⟩) h5).trans h2, (hb.frozen (p := ⟨b, 0, none⟩) h5).trans h3, (hb.frozen (p := ⟨b, 1, none⟩) h5).trans h4, Nat.lt_of_lt_of_le h5 hb.size⟩
theorem Zb.new (w : World) : Zb (w.alloc (.cells #[.slice none 0 0, .slice none 0 0] 25)) w.heap.size := ⟨cell_new0 w _ 25 0 _ rfl, cell_new0 w _ 25 1 _ rfl, frozen_new w _ 25 0, frozen_new w _ 25 1, by simp⟩
theorem Zb.drew {w : World} {b : Nat} (h : Zb w b) : Zb w.drew b := h.next (Below.refl _ _).drew
/-- A variable that holds an array. -/
structure Var (n : Nat) (w : World) (b : Nat) (x : Ar) (u v : Value) : Prop where
  lt : b < w.heap.size
  c0 : w.cell? ⟨b, 0, none⟩ = some u
  c1 : w.cell? ⟨b, 1, none⟩ = some v
  ar : ArIn n 0 w x (.agg #[u, v])
  cap : Caps (.agg #[u, v])
theorem Var.next {n : Nat} {w w' : World} {b : Nat} {x : Ar} {u v : Value} (h : Var n w b x u v) (hb : Below w.heap.size w w') : Var n w' b x u v := ⟨Nat.lt_of_lt_of_le h.lt hb.size, (hb.cell (p := ⟨b, 0, none⟩) h.lt).trans h.c0, (hb.cell (p := ⟨b, 1, none⟩) h.lt).trans h.c1, h.ar.next hb, h.cap⟩
theorem var_new {n lo : Nat} {W3 w5 : World} {x : Ar} {u v : Value} (g : Below W3.heap.size W3 w5) (hz : ArIn n lo w5 x (.agg #[u, v])) (hc : Caps (.agg #[u, v])) : Below W3.heap.size W3 (w5.alloc (.cells #[u, v] 25)) ∧ Var n (w5.alloc (.cells #[u, v] 25)) w5.heap.size x u v := ⟨g.alloc g.size _, by simp, cell_new0 w5 _ 25 0 _ rfl, cell_new0 w5 _ 25 1 _ rfl, (hz.mono (Nat.zero_le _) (one_alloc _ _)), hc⟩
theorem var_old {n B : Nat} {W3 w4 w5 : World} {x : Ar} {u v : Value} (t : Zb w4 B) (hB : W3.heap.size ≤ B) (g : Below W3.heap.size W3 w5) (hb : Below w4.heap.size w4 w5) (hz : ArIn n w4.heap.size w5 x (.agg #[u, v])) (hc : Caps (.agg #[u, v])) : Below W3.heap.size W3 ((w5.setCell ⟨B, 0, none⟩ u).setCell ⟨B, 1, none⟩ v) ∧ Var n ((w5.setCell ⟨B, 0, none⟩ u).setCell ⟨B, 1, none⟩ v) B x u v := by
  obtain ⟨k0, k1, k2, k3, k4⟩ := t.next hb
  have st := set_two k0 k1 u v
  have hk := ((Keeps.refl w4.heap.size w5).setCell (p := ⟨B, 0, none⟩) t.2.2.2.2 u).setCell (p := ⟨B, 1, none⟩) t.2.2.2.2 v
  exact ⟨(g.setCell (p := ⟨B, 0, none⟩) hB u).setCell (p := ⟨B, 1, none⟩) hB v, by simpa using k4, by rw [World.cell?_setCell_other _ _ _ _ (by simp)]; exact st.1, st.2, (hz.keeps hk).mono (Nat.zero_le _) (Below.refl _ _), hc⟩
/-- What a call of Atom gives, in a form for regions that draw. -/
theorem atom_at (n : Nat) (k : Int) (W3 W : World) (h : Below W3.heap.size W3 W) : Calls Try.prog 22 #[.int .i64 k] W fun e w' => (∃ y1 n1 y2 n2, e = .returned (.agg #[.slice y1 0 n1, .slice y2 1 n2]) ∧ Caps (.agg #[.slice y1 0 n1, .slice y2 1 n2]) ∧ ArIn (n + 1) 0 w' (atomA k) (.agg #[.slice y1 0 n1, .slice y2 1 n2])) ∧ Below W3.heap.size W3 w' ∧ Below W.heap.size W w' := by
  refine (ratomK_any n k W).mono ?_
  rintro e w' ⟨⟨v, rfl, kc, hv⟩, hb⟩
  obtain ⟨y1, n1, y2, n2, rfl, -, -⟩ := hv.form
  exact ⟨⟨_, _, _, _, rfl, kc, hv.mono (Nat.zero_le _) (Below.refl _ _)⟩, h.trans (hb.mono h.size), hb⟩
/-- What a call of Dy gives, in such a form. -/
theorem dy_at {n YS YC : Nat} {Y : Ar} {E : Int} {args : Array Value} {R : Ar × Int} {W3 W : World} (h : Below W3.heap.size W3 W) (C : Calls Try.prog 19 args W fun e w' => GivesD (n + 1) R.1 R.2 W e w') (hR : R = (Y, E)) (hs : Y.shape.length = YS) (hc : Y.cells.length = YC) :
    Calls Try.prog 19 args W fun e w' => (∃ z1 l1 z2 l2, e = .returned (.tuple #[.agg #[.slice z1 YS l1, .slice z2 YC l2], .int .i64 E]) ∧ Caps (.agg #[.slice z1 YS l1, .slice z2 YC l2]) ∧ ArIn (n + 1) W.heap.size w' Y (.agg #[.slice z1 YS l1, .slice z2 YC l2])) ∧ Below W3.heap.size W3 w' ∧ Below W.heap.size W w' := by
  subst hR hs hc
  refine C.mono ?_
  rintro e w' ⟨⟨v, rfl, kc, hv⟩, hb⟩
  obtain ⟨y1, n1, y2, n2, rfl, -, -⟩ := hv.form
  exact ⟨⟨_, _, _, _, rfl, kc, hv⟩, h.trans (hb.mono h.size), hb⟩
end Go.Proofs.Ytmjncdhahdpplaa
namespace Go.Proofs.Ytmjncdhahdpplaa
open Go.ChangeShapes Go.WideShapes Go.ChangeAt Go.RowKit
set_option linter.unusedVariables false
set_option maxRecDepth 100000
set_option maxHeartbeats 4000000 in
theorem dy_bad1 {n lo lo' : Nat} {op : Int} {x y : Ar} {va vb : Value} {w : World} (hx : ArIn (n + 1) lo w x va) (hy : ArIn (n + 1) lo' w y vb) (hcx : ¬ chkA 8 x = 0) : Calls Try.prog 19 #[.int .i64 op, va, vb] w fun e w' => GivesD (n + 1) zeroA (chkA 8 x) w e w' := by
  obtain ⟨a1, c1, a2, c2, rfl, RX, hc⟩ := hx.form
  obtain ⟨b1, d1, b2, d2, rfl, R', hc'⟩ := hy.form
  have I := in3_new w (.slice a1 x.shape.length c1) (.slice a2 x.cells.length c2) (.slice b1 y.shape.length d1) (.slice b2 y.cells.length d2)
  obtain ⟨W3, e3⟩ : ∃ W3, ((w.alloc (.cells #[.slice a1 x.shape.length c1, .slice a2 x.cells.length c2] 25)).alloc (.cells #[.slice b1 y.shape.length d1, .slice b2 y.cells.length d2] 25)).alloc (.cells #[.slice none 0 0, .slice none 0 0] 25) = W3 := ⟨_, rfl⟩
  rw [e3] at I
  have q0 := I.q0
  have q1 := I.q1
  have CK := check_any (n + 1) x _ _ W3 (hx.next I.bel)
  have HI := hide I
  obtain ⟨E, hE⟩ : ∃ E, chkA 8 x = E := ⟨_, rfl⟩
  rw [hE] at CK hcx ⊢
  have hne : (E == 0) = false := beq_eq_false_iff_ne.2 hcx
  clear RX hc I hx hy R' hc' hE
  generalize x.shape.length = SX at *
  generalize x.cells.length = CX at *
  generalize y.shape.length = SY at *
  generalize y.cells.length = CY at *
  go_enter Try.func19, Try.ntmps19
  go_wp2_with fail
  clear e3 q0 q1
  refine CK.mono ?_
  clear CK
  rintro e w1 ⟨rfl, hb1⟩
  have I1 := HI.out.next hb1
  have p0 := I1.p0
  have p1 := I1.p1
  have f0 := I1.f0
  have f1 := I1.f1
  have HT := hide (I1.put (.slice none 0 0) (.slice none 0 0))
  have HFI := hide I1.fin
  clear I1 hb1 HI
  go_wp2
  exact bodyPost_ret (v := .tuple #[.agg #[.slice none 0 0, .slice none 0 0], .int .i64 E]) (by simp [results, Try.results19, go_sem, HT.out.1, HT.out.2]) rfl ⟨⟨_, rfl, caps_nil, zeroA_in _ _ _⟩, HFI.out _ _⟩
set_option maxHeartbeats 4000000 in
theorem dy_bad2 {n lo lo' : Nat} {op : Int} {x y : Ar} {va vb : Value} {w : World} (hx : ArIn (n + 1) lo w x va) (hy : ArIn (n + 1) lo' w y vb) (hcx : chkA 8 x = 0) (hcy : ¬ chkA 8 y = 0) : Calls Try.prog 19 #[.int .i64 op, va, vb] w fun e w' => GivesD (n + 1) zeroA (chkA 8 y) w e w' := by
  obtain ⟨a1, c1, a2, c2, rfl, RX, hc⟩ := hx.form
  obtain ⟨b1, d1, b2, d2, rfl, R', hc'⟩ := hy.form
  have I := in3_new w (.slice a1 x.shape.length c1) (.slice a2 x.cells.length c2) (.slice b1 y.shape.length d1) (.slice b2 y.cells.length d2)
  obtain ⟨W3, e3⟩ : ∃ W3, ((w.alloc (.cells #[.slice a1 x.shape.length c1, .slice a2 x.cells.length c2] 25)).alloc (.cells #[.slice b1 y.shape.length d1, .slice b2 y.cells.length d2] 25)).alloc (.cells #[.slice none 0 0, .slice none 0 0] 25) = W3 := ⟨_, rfl⟩
  rw [e3] at I
  have q0 := I.q0
  have q1 := I.q1
  have CK := check_any (n + 1) x _ _ W3 (hx.next I.bel)
  rw [hcx] at CK
  have HI := hide I
  have HY := hide hy
  obtain ⟨E, hE⟩ : ∃ E, chkA 8 y = E := ⟨_, rfl⟩
  rw [hE] at hcy ⊢
  have HEE := hide hE
  have hne : (E == 0) = false := beq_eq_false_iff_ne.2 hcy
  clear RX hc I hx hy R' hc' hE hcx
  generalize x.shape.length = SX at *
  generalize x.cells.length = CX at *
  generalize y.shape.length = SY at *
  generalize y.cells.length = CY at *
  go_enter Try.func19, Try.ntmps19
  go_wp2_with fail
  clear e3 q0 q1
  refine CK.mono ?_
  clear CK
  rintro e w1 ⟨rfl, hb1⟩
  have I1 := HI.out.next hb1
  have r0 := I1.r0
  have r1 := I1.r1
  have CK2 := check_any (n + 1) y _ _ w1 (HY.out.next I1.bel)
  rw [HEE.out] at CK2
  have HI1 := hide I1
  clear I1 hb1 HI
  go_wp2_with fail
  refine CK2.mono ?_
  clear CK2 r0 r1
  rintro e w2 ⟨rfl, hb2⟩
  have I2 := HI1.out.next hb2
  have p0 := I2.p0
  have p1 := I2.p1
  have f0 := I2.f0
  have f1 := I2.f1
  have HT := hide (I2.put (.slice none 0 0) (.slice none 0 0))
  have HFI := hide I2.fin
  clear I2 hb2 HI1
  go_wp2
  exact bodyPost_ret (v := .tuple #[.agg #[.slice none 0 0, .slice none 0 0], .int .i64 E]) (by simp [results, Try.results19, go_sem, HT.out.1, HT.out.2]) rfl ⟨⟨_, rfl, caps_nil, zeroA_in _ _ _⟩, HFI.out _ _⟩
/-- Dy of whatever arrays, out of what it is of arrays that may be. -/
def dyR (f : Ar → Ar → Ar × Int) (x y : Ar) : Ar × Int := if ¬ chkA 8 x = 0 then (zeroA, chkA 8 x) else if ¬ chkA 8 y = 0 then (zeroA, chkA 8 y) else f x y
theorem dy_all {n lo lo' : Nat} {op : Int} {x y : Ar} {va vb : Value} {w : World} (hx : ArIn (n + 1) lo w x va) (hy : ArIn (n + 1) lo' w y vb) (f : Ar → Ar → Ar × Int) (hP : chkA 8 x = 0 → chkA 8 y = 0 → Calls Try.prog 19 #[.int .i64 op, va, vb] w fun e w' => GivesD (n + 1) (f x y).1 (f x y).2 w e w') : Calls Try.prog 19 #[.int .i64 op, va, vb] w fun e w' => GivesD (n + 1) (dyR f x y).1 (dyR f x y).2 w e w' := by
  unfold dyR
  by_cases h1 : chkA 8 x = 0
  case neg => rw [if_pos h1]; exact dy_bad1 hx hy h1
  rw [if_neg (by simpa using h1)]
  by_cases h2 : chkA 8 y = 0
  case neg => rw [if_pos h2]; exact dy_bad2 hx hy h1 h2
  rw [if_neg (by simpa using h2)]
  exact hP h1 h2
end Go.Proofs.Ytmjncdhahdpplaa
namespace Go.Proofs.Ytmjncdhahdpplaa
open Go.ChangeShapes Go.WideShapes Go.ChangeAt Go.RowKit
set_option linter.unusedVariables false
set_option maxRecDepth 100000
set_option maxHeartbeats 4000000 in
theorem pieces_46 {n lo lo' : Nat} {x y : Ar} {va vb : Value} {w0 w : World} (hx : ArIn (n + 1) lo w0 x va) (hy : ArIn (n + 1) lo' w0 y vb) (hb0 : Below w0.heap.size w0 w) (hcx : chkA 8 x = 0) (hcy : chkA 8 y = 0) (hcapx : Caps va) (hcapy : Caps vb) :
    Calls Try.prog 46 #[.int .i64 46, va, vb] w fun e w' => Gives2K (n + 1) w0 (joiR false x y).1 (joiR false x y).2 w e w' := by
  obtain ⟨a1, c1, a2, c2, rfl, R, hc⟩ := hx.form
  obtain ⟨b1, d1, b2, d2, rfl, R', hc'⟩ := hy.form
  have I := in3_new w (.slice a1 x.shape.length c1) (.slice a2 x.cells.length c2) (.slice b1 y.shape.length d1) (.slice b2 y.cells.length d2)
  obtain ⟨W3, e3⟩ : ∃ W3, ((w.alloc (.cells #[.slice a1 x.shape.length c1, .slice a2 x.cells.length c2] 25)).alloc (.cells #[.slice b1 y.shape.length d1, .slice b2 y.cells.length d2] 25)).alloc (.cells #[.slice none 0 0, .slice none 0 0] 25) = W3 := ⟨_, rfl⟩
  rw [e3] at I
  have NB : Below w0.heap.size w0 W3 := hb0.trans (I.bel.mono hb0.size)
  have q0 := I.q0
  have q1 := I.q1
  have r0 := I.r0
  have r1 := I.r1
  have HI := hide I
  have HNB := hide NB
  obtain ⟨lx8, cx16⟩ := chk_len hcx
  obtain ⟨ly8, cy16⟩ := chk_len hcy
  have C := joined_any hx hy NB hcx hcy hcapx hcapy false
  obtain ⟨⟨Y, EY⟩, hR⟩ : ∃ p, joiR false x y = p := ⟨_, rfl⟩
  rw [hR] at C ⊢
  simp only at C ⊢
  clear hR R hc R' hc' hx hy hcx hcy hcapx hcapy NB I hb0
  generalize x.shape.length = SX at *
  generalize x.cells.length = CX at *
  generalize y.shape.length = SY at *
  generalize y.cells.length = CY at *
  go_enter Try.func46, Try.ntmps46
  go_wp2_with fail
  clear e3
  refine C.mono ?_
  clear C
  rintro e w2 ⟨⟨v, rfl, hcv, hv⟩, hb2⟩
  obtain ⟨z1, m1, z2, m2, rfl, -, -⟩ := (hv w2 (HNB.out.trans (hb2.mono HNB.out.size)) (Keeps.refl _ _)).form
  have I2 := HI.out.next hb2
  have p0 := I2.p0
  have p1 := I2.p1
  have f0 := I2.f0
  have f1 := I2.f1
  have HT := hide (I2.put (.slice z1 Y.shape.length m1) (.slice z2 Y.cells.length m2))
  have HCV := hide hcv
  have hs3 := HI.out.size
  have HF : Hid (∀ u v W, Below w0.heap.size w0 W → Keeps w.heap.size ((w2.setCell ⟨w.heap.size + 2, 0, none⟩ u).setCell ⟨w.heap.size + 2, 1, none⟩ v) W → ArIn (n + 1) 0 W Y (.agg #[.slice z1 Y.shape.length m1, .slice z2 Y.cells.length m2])) := by
    intro u v W hW hK
    exact hv W hW (((keeps_three w2 w.heap.size u v).trans (hK.mono (show w.heap.size ≤ w.heap.size + 3 by omega))).mono hs3)
  have HFI := hide I2.fin
  clear I2 hv hcv hb2 HI hs3 q0 q1 r0 r1 HNB
  generalize Y.shape.length = YS at *
  generalize Y.cells.length = YC at *
  go_wp2
  exact bodyPost_ret (v := .tuple #[.agg #[.slice z1 YS m1, .slice z2 YC m2], .int .i64 EY]) (by simp [results, Try.results46, go_sem, HT.out.1, HT.out.2]) rfl ⟨⟨_, rfl, HCV.out, HF.out _ _⟩, HFI.out _ _⟩
set_option maxHeartbeats 4000000 in
theorem pieces_47 {n lo lo' : Nat} {x y : Ar} {va vb : Value} {w0 w : World} (hx : ArIn (n + 1) lo w0 x va) (hy : ArIn (n + 1) lo' w0 y vb) (hb0 : Below w0.heap.size w0 w) (hcx : chkA 8 x = 0) (hcy : chkA 8 y = 0) (hcapx : Caps va) (hcapy : Caps vb) :
    Calls Try.prog 46 #[.int .i64 47, va, vb] w fun e w' => Gives2K (n + 1) w0 (joiR true x y).1 (joiR true x y).2 w e w' := by
  obtain ⟨a1, c1, a2, c2, rfl, R, hc⟩ := hx.form
  obtain ⟨b1, d1, b2, d2, rfl, R', hc'⟩ := hy.form
  have I := in3_new w (.slice a1 x.shape.length c1) (.slice a2 x.cells.length c2) (.slice b1 y.shape.length d1) (.slice b2 y.cells.length d2)
  obtain ⟨W3, e3⟩ : ∃ W3, ((w.alloc (.cells #[.slice a1 x.shape.length c1, .slice a2 x.cells.length c2] 25)).alloc (.cells #[.slice b1 y.shape.length d1, .slice b2 y.cells.length d2] 25)).alloc (.cells #[.slice none 0 0, .slice none 0 0] 25) = W3 := ⟨_, rfl⟩
  rw [e3] at I
  have NB : Below w0.heap.size w0 W3 := hb0.trans (I.bel.mono hb0.size)
  have q0 := I.q0
  have q1 := I.q1
  have r0 := I.r0
  have r1 := I.r1
  have HI := hide I
  have HNB := hide NB
  obtain ⟨lx8, cx16⟩ := chk_len hcx
  obtain ⟨ly8, cy16⟩ := chk_len hcy
  have C := joined_any hx hy NB hcx hcy hcapx hcapy true
  obtain ⟨⟨Y, EY⟩, hR⟩ : ∃ p, joiR true x y = p := ⟨_, rfl⟩
  rw [hR] at C ⊢
  simp only at C ⊢
  clear hR R hc R' hc' hx hy hcx hcy hcapx hcapy NB I hb0
  generalize x.shape.length = SX at *
  generalize x.cells.length = CX at *
  generalize y.shape.length = SY at *
  generalize y.cells.length = CY at *
  go_enter Try.func46, Try.ntmps46
  go_wp2_with fail
  clear e3
  refine C.mono ?_
  clear C
  rintro e w2 ⟨⟨v, rfl, hcv, hv⟩, hb2⟩
  obtain ⟨z1, m1, z2, m2, rfl, -, -⟩ := (hv w2 (HNB.out.trans (hb2.mono HNB.out.size)) (Keeps.refl _ _)).form
  have I2 := HI.out.next hb2
  have p0 := I2.p0
  have p1 := I2.p1
  have f0 := I2.f0
  have f1 := I2.f1
  have HT := hide (I2.put (.slice z1 Y.shape.length m1) (.slice z2 Y.cells.length m2))
  have HCV := hide hcv
  have hs3 := HI.out.size
  have HF : Hid (∀ u v W, Below w0.heap.size w0 W → Keeps w.heap.size ((w2.setCell ⟨w.heap.size + 2, 0, none⟩ u).setCell ⟨w.heap.size + 2, 1, none⟩ v) W → ArIn (n + 1) 0 W Y (.agg #[.slice z1 Y.shape.length m1, .slice z2 Y.cells.length m2])) := by
    intro u v W hW hK
    exact hv W hW (((keeps_three w2 w.heap.size u v).trans (hK.mono (show w.heap.size ≤ w.heap.size + 3 by omega))).mono hs3)
  have HFI := hide I2.fin
  clear I2 hv hcv hb2 HI hs3 q0 q1 r0 r1 HNB
  generalize Y.shape.length = YS at *
  generalize Y.cells.length = YC at *
  go_wp2
  exact bodyPost_ret (v := .tuple #[.agg #[.slice z1 YS m1, .slice z2 YC m2], .int .i64 EY]) (by simp [results, Try.results46, go_sem, HT.out.1, HT.out.2]) rfl ⟨⟨_, rfl, HCV.out, HF.out _ _⟩, HFI.out _ _⟩
set_option maxHeartbeats 4000000 in
theorem pieces_none {n lo lo' : Nat} {op : Int} {x y : Ar} {va vb : Value} {w0 w : World} (hx : ArIn (n + 1) lo w0 x va) (hy : ArIn (n + 1) lo' w0 y vb) (hop : ¬ (42 ≤ op ∧ op ≤ 47) ∧ ¬ (50 ≤ op ∧ op ≤ 53)) :
    Calls Try.prog 46 #[.int .i64 op, va, vb] w fun e w' => Gives2K (n + 1) w0 zeroA 1 w e w' := by
  obtain ⟨a1, c1, a2, c2, rfl, R, hc⟩ := hx.form
  obtain ⟨b1, d1, b2, d2, rfl, R', hc'⟩ := hy.form
  have I := in3_new w (.slice a1 x.shape.length c1) (.slice a2 x.cells.length c2) (.slice b1 y.shape.length d1) (.slice b2 y.cells.length d2)
  obtain ⟨W3, e3⟩ : ∃ W3, ((w.alloc (.cells #[.slice a1 x.shape.length c1, .slice a2 x.cells.length c2] 25)).alloc (.cells #[.slice b1 y.shape.length d1, .slice b2 y.cells.length d2] 25)).alloc (.cells #[.slice none 0 0, .slice none 0 0] 25) = W3 := ⟨_, rfl⟩
  rw [e3] at I
  have HI := hide I
  have p0 := I.p0
  have p1 := I.p1
  have f0 := I.f0
  have f1 := I.f1
  have HT := hide (I.put (.slice none 0 0) (.slice none 0 0))
  have o1 : (op == 42) = false := beq_eq_false_iff_ne.2 (by omega)
  have o2 : (op == 43) = false := beq_eq_false_iff_ne.2 (by omega)
  have o3 : (op == 44) = false := beq_eq_false_iff_ne.2 (by omega)
  have o4 : (op == 45) = false := beq_eq_false_iff_ne.2 (by omega)
  have o5 : (op == 46) = false := beq_eq_false_iff_ne.2 (by omega)
  have o6 : (op == 47) = false := beq_eq_false_iff_ne.2 (by omega)
  have o7 : (op == 50) = false := beq_eq_false_iff_ne.2 (by omega)
  have o8 : (op == 51) = false := beq_eq_false_iff_ne.2 (by omega)
  have o9 : (op == 52) = false := beq_eq_false_iff_ne.2 (by omega)
  have o10 : (op == 53) = false := beq_eq_false_iff_ne.2 (by omega)
  clear hx hy I R R' hc hc' hop
  generalize x.shape.length = SX at *
  generalize x.cells.length = CX at *
  generalize y.shape.length = SY at *
  generalize y.cells.length = CY at *
  go_enter Try.func46, Try.ntmps46
  go_wp2
  exact bodyPost_ret (v := .tuple #[.agg #[.slice none 0 0, .slice none 0 0], .int .i64 1]) (by simp [results, Try.results46, go_sem, HT.out.1, HT.out.2]) rfl ⟨⟨_, rfl, caps_nil, fun _ _ _ => zeroA_in _ _ _⟩, HI.out.fin _ _⟩
theorem joi_chk {x y : Ar} (hx : chkA 8 x = 0) (hy : chkA 8 y = 0) (last : Bool) : (¬ (joiR last x y).2 = 0 → (joiR last x y).1 = zeroA) ∧ ((joiR last x y).2 = 0 → chkA 8 (joiR last x y).1 = 0) := by
  have h : chkA 8 (joiS x y).1 = 0 ∧ chkA 8 (joiS x y).2 = 0 ∧ 0 < max (joiS x y).1.shape.length (joiS x y).2.shape.length := by
    unfold joiS
    by_cases h : x.shape.length = 0 ∧ y.shape.length = 0
    · rw [if_pos h]
      have h1 := lst_facts hx
      have h2 := lst_facts hy
      exact ⟨h1.1, h2.1, by have := h1.2.2; show 0 < max (lstA x).shape.length _; omega⟩
    · rw [if_neg h]
      exact ⟨hx, hy, by show 0 < max x.shape.length y.shape.length; omega⟩
  unfold joiR
  exact joiT_chk h.1 h.2.1 (by have := h.2.2; unfold joiK; split <;> omega)
theorem dy_46 {n lo lo' : Nat} {x y : Ar} {va vb : Value} {w : World} (hx : ArIn (n + 1) lo w x va) (hy : ArIn (n + 1) lo' w y vb) (hcx : chkA 8 x = 0) (hcy : chkA 8 y = 0) (kx : Caps va) (ky : Caps vb) : Calls Try.prog 19 #[.int .i64 46, va, vb] w fun e w' => GivesD (n + 1) (joiR false x y).1 (joiR false x y).2 w e w' :=
  dy_of hx hy hcx hcy (fun W hW => pieces_46 hx hy hW hcx hcy kx ky) (joi_chk hcx hcy false).1 (joi_chk hcx hcy false).2
theorem dy_47 {n lo lo' : Nat} {x y : Ar} {va vb : Value} {w : World} (hx : ArIn (n + 1) lo w x va) (hy : ArIn (n + 1) lo' w y vb) (hcx : chkA 8 x = 0) (hcy : chkA 8 y = 0) (kx : Caps va) (ky : Caps vb) : Calls Try.prog 19 #[.int .i64 47, va, vb] w fun e w' => GivesD (n + 1) (joiR true x y).1 (joiR true x y).2 w e w' :=
  dy_of hx hy hcx hcy (fun W hW => pieces_47 hx hy hW hcx hcy kx ky) (joi_chk hcx hcy true).1 (joi_chk hcx hcy true).2
/-- Dy's answer for whatever function, of arrays that may be. -/
def pickR (op : Int) (x y : Ar) : Ar × Int :=
  if op = 42 then takR x (lstA y) else if op = 43 then drpR x (lstA y) else if op = 44 then rotR x y 0 else if op = 45 then rotR x y (y.shape.length - 1) else if op = 46 then joiR false x y else if op = 47 then joiR true x y else
  if op = 50 then repR x (lstA y) 0 else if op = 51 then repR x (lstA y) ((lstA y).shape.length - 1) else if op = 52 then lookR x y else if op = 53 then lookR y x else (zeroA, 1)
theorem pick_any {op : Int} {n lo lo' : Nat} {x y : Ar} {va vb : Value} {w : World} (hx : ArIn (n + 1) lo w x va) (hy : ArIn (n + 1) lo' w y vb) (hcx : chkA 8 x = 0) (hcy : chkA 8 y = 0) (kx : Caps va) (ky : Caps vb) (hI : I64 (numR x).1) : Calls Try.prog 19 #[.int .i64 op, va, vb] w fun e w' => GivesD (n + 1) (pickR op x y).1 (pickR op x y).2 w e w' := by
  unfold pickR
  by_cases h : op = 42
  · subst h; rw [if_pos rfl]; exact dy_42 hx hy hcx hcy kx ky
  rw [if_neg h]
  by_cases h : op = 43
  · subst h; rw [if_pos rfl]; exact dy_43 hx hy hcx hcy kx ky hI
  rw [if_neg h]
  by_cases h : op = 44
  · subst h; rw [if_pos rfl]; exact dy_44 hx hy hcx hcy kx ky
  rw [if_neg h]
  by_cases h : op = 45
  · subst h; rw [if_pos rfl]; exact dy_45 hx hy hcx hcy kx ky
  rw [if_neg h]
  by_cases h : op = 46
  · subst h; rw [if_pos rfl]; exact dy_46 hx hy hcx hcy kx ky
  rw [if_neg h]
  by_cases h : op = 47
  · subst h; rw [if_pos rfl]; exact dy_47 hx hy hcx hcy kx ky
  rw [if_neg h]
  by_cases h : op = 50
  · subst h; rw [if_pos rfl]; exact dy_50 hx hy hcx hcy kx ky
  rw [if_neg h]
  by_cases h : op = 51
  · subst h; rw [if_pos rfl]; exact dy_51 hx hy hcx hcy kx ky
  rw [if_neg h]
  by_cases h : op = 52
  · subst h; rw [if_pos rfl]; exact dy_52 hx hy hcx hcy kx ky
  rw [if_neg h]
  by_cases h : op = 53
  · subst h; rw [if_pos rfl]; exact dy_53 hx hy hcx hcy kx ky
  rw [if_neg h]
  exact dy_of (R := (zeroA, 1)) hx hy hcx hcy (fun W hW => pieces_none hx hy (by omega)) (fun _ => rfl) (fun h => absurd h (by decide))
end Go.Proofs.Ytmjncdhahdpplaa
namespace Go.Proofs.Ytmjncdhahdpplaa
open Go.ChangeShapes Go.WideShapes Go.ChangeAt Go.RowKit
set_option linter.unusedVariables false
set_option maxRecDepth 100000
theorem plc_of {l m : List Int} (hs : sizeE l = 0) (h : inAxes l m) : plcV l m = place l m ∧ m.length = l.length := by
  have h2 := (inAxes_iff l m).1 h
  exact ⟨(plc_in hs h2.1 h2.2).1, h2.1⟩
theorem SoftC.next {w w' : World} {b : Nat} {l : List Int} (h : SoftC w b l) (hb : b < w.heap.size) (hn : Below w.heap.size w w') : SoftC w' b l := fun i hi => ⟨(hn.cell (p := ⟨b, i, none⟩) hb).trans (h i hi).1, (hn.frozen (p := ⟨b, i, none⟩) hb).trans (h i hi).2⟩
theorem GrowC.new {W : World} {o : Nat} {sv : Value} {T : Nat → Value × Value × Value} (c0 : W.cell? ⟨o, 0, none⟩ = some sv) (c1 : W.cell? ⟨o, 1, none⟩ = some (.slice none 0 0)) (f1 : W.frozen? ⟨o, 1, none⟩ = false) : GrowC W o sv T 0 (.slice none 0 0) W :=
  ⟨Below.refl _ _, fun _ _ _ => rfl, c0, c1, f1, World.ownsRow_nil _ _ _ _⟩
end Go.Proofs.Ytmjncdhahdpplaa
