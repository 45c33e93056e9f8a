/-
  The contract of the document's Dy of layer 6: the functions that want a number.
  The contract of the document's Dy of layer 6, whatever the function and the arrays.
-/
import Derived.Test.YtmjncdhahdpplaaM7
import Derived.Test.YtmjncdhahdpplaaChecked
import GoSem.Claim
import GoSem.ClaimJoined
import GoSem.ClaimMapViews
import Derived.JoinedTies
import Derived.KernelRfl
import Derived.WalkKit
import Derived.ProofKit
import Derived.Below
import Derived.Deep.OwnRows
import Derived.Deep.QuietTactic
import Derived.BigQuiet
import Derived.Deep.RegionWith
import Derived.Laws.MakeOwn
import Derived.Deep.RegionHeld3
import Derived.Laws.IdiomCopy
import Derived.Deep.Cut
import Derived.Deep.LoopGhost
import Derived.OpenShut
import Derived.ChangeOld
import Derived.SizedLaws
import Derived.Deep.Slices
import Derived.Deep.Strs
import Derived.Laws.AppendOwn
import Derived.BigFrame
import Derived.Deep.CutRange
import Derived.Deep.RegionLaw
import Derived.Laws.OwnMore
import Derived.Lib.SliceRun
import Derived.Laws.CopyOwn
import Derived.Lib.Overlaps
import Derived.Lib.Mul64
namespace Go.Proofs.Ytmjncdhahdpplaa
open Go.ChangeShapes Go.WideShapes Go.ChangeAt Go.RowKit
set_option linter.unusedVariables false
set_option maxRecDepth 100000
set_option maxHeartbeats 4000000 in
theorem rdy_44 {n lo lo' : Nat} {x y : Ar} {va vb : Value} {w0 w : World} (hx : ArIn (n + 1) lo w0 x va) (hy : ArIn (n + 1) lo' w0 y vb) (hb0 : Below w0.heap.size w0 w) (hcx : chkA 8 x = 0) (hcy : chkA 8 y = 0) (hcapx : Caps va) (hcapy : Caps vb) (hI : I64 (numR x).1) :
    Calls Try.prog 20 #[.int .i64 44, va, vb] w fun e w' => Gives2Z (n + 1) w0 (rotR x y (axL false y)).1 (rotR x y (axL false y)).2 w e w' := by
  obtain ⟨a1, c1, a2, c2, rfl, R, hc⟩ := hx.form
  obtain ⟨b1, d1, b2, d2, rfl, R', hc'⟩ := hy.form
  have I := in3_new w (.slice a1 x.shape.length c1) (.slice a2 x.cells.length c2) (.slice b1 y.shape.length d1) (.slice b2 y.cells.length d2)
  obtain ⟨W3, e3⟩ : ∃ W3, ((w.alloc (.cells #[.slice a1 x.shape.length c1, .slice a2 x.cells.length c2] 25)).alloc (.cells #[.slice b1 y.shape.length d1, .slice b2 y.cells.length d2] 25)).alloc (.cells #[.slice none 0 0, .slice none 0 0] 25) = W3 := ⟨_, rfl⟩
  rw [e3] at I
  have q0 := I.q0
  have q1 := I.q1
  have r0 := I.r0
  have r1 := I.r1
  have CK := rcheck_any (n + 1) x _ _ W3 (hx.next (hb0.trans (I.bel.mono hb0.size)))
  have HCK2 : Hid (∀ W, Below w0.heap.size w0 W → Calls Try.prog 16 #[.agg #[.slice b1 y.shape.length d1, .slice b2 y.cells.length d2]] W fun e w' => e = .returned (.int .i64 (chkA 8 y)) ∧ Below W.heap.size W w') := fun W h => rcheck_any (n + 1) y _ _ W (hy.next h)
  have HI := hide I
  have HB0 := hide hb0
  have HXY := hide (And.intro hx hy)
  have HCP := hide (And.intro hcapx hcapy)
  have HII := hide hI
  rw [hcx] at CK
  rw [hcy] at HCK2
  have HCN : Hid (∀ W, Below w0.heap.size w0 W → Calls Try.prog 50 #[.agg #[.slice a1 x.shape.length c1, .slice a2 x.cells.length c2]] W fun e w' => e = .returned (.tuple #[.int .i64 (numR x).1, .int .i64 (numR x).2]) ∧ Below W.heap.size W w') := fun W h => rnumber_any (hx.next h) hcx
  obtain ⟨z, hz⟩ : ∃ z, (numR x).1 = z := ⟨_, rfl⟩
  obtain ⟨EN, hEN⟩ : ∃ EN, (numR x).2 = EN := ⟨_, rfl⟩
  obtain ⟨RS, hRS⟩ : ∃ RS, rotR x y (axL false y) = RS := ⟨_, rfl⟩
  rw [hRS]
  have HER : Hid (¬ EN = 0 → RS = (zeroA, EN)) := fun h => by
    rw [← hRS, ← hEN]; unfold rotR; rw [if_pos (by rw [hEN]; exact h)]
  rw [hz, hEN] at HCN
  have HC : Hid (EN = 0 → RS = (rotY z y (axL false y), 0) ∧ ∀ W, Below w0.heap.size w0 W → Calls Try.prog 53 #[.int .i64 z, .agg #[.slice b1 y.shape.length d1, .slice b2 y.cells.length d2], .bool false] W fun e w' => GivesZ (n + 1) w0 (rotY z y (axL false y)) W e w') := fun h0 => ⟨by rw [← hRS, ← hz]; exact rot_is (by rw [hEN]; exact h0), fun W h => rrot_any z false hy h hcy (by rw [← hz]; exact hI)⟩
  clear hx hy R hc R' hc' I hb0 hcapx hcapy HXY HCP HII hI hRS hz
  generalize x.shape.length = SX at *
  generalize x.cells.length = CX at *
  generalize y.shape.length = SY at *
  generalize y.cells.length = CY at *
  go_enter Try.func20, Try.ntmps20
  go_wp2_with fail
  clear e3
  refine CK.mono ?_
  clear CK q0 q1 r0 r1
  rintro e w1 ⟨rfl, hb1⟩
  have I1 := HI.out.next hb1
  have HI1 := hide I1
  have C2 := HCK2.out w1 (HB0.out.trans (I1.bel.mono HB0.out.size))
  have r0 := I1.r0
  have r1 := I1.r1
  clear hb1 HI I1 HCK2
  go_wp2_with fail
  refine C2.mono ?_
  clear C2 r0 r1
  rintro e w2 ⟨rfl, hb2⟩
  have I2 := HI1.out.next hb2
  have HI2 := hide I2
  have NB := HB0.out.trans (I2.bel.mono HB0.out.size)
  have HNB := hide NB
  have CN := HCN.out w2 NB
  have q0 := I2.q0
  have q1 := I2.q1
  clear hb2 HI1 I2 NB HCN hEN
  go_wp2_with fail
  refine CN.mono ?_
  clear CN q0 q1
  rintro e w3 ⟨rfl, hb3⟩
  have I3 := HI2.out.next hb3
  have HI3 := hide I3
  have HNB3 := hide (HB0.out.trans (I3.bel.mono HB0.out.size))
  clear hb3 HI2 HNB
  by_cases hE0 : ¬ EN = 0
  · have hEb : (EN == 0) = false := by simp [hE0]
    have hRE := HER.out hE0
    have HT := hide (HI3.out.put (.slice none 0 0) (.slice none 0 0))
    have p0 := I3.p0
    have p1 := I3.p1
    have f0 := I3.f0
    have f1 := I3.f1
    have HF : Hid (∀ u v, Gives2Z (n + 1) w0 RS.1 RS.2 w (.returned (.tuple #[.agg #[.slice none 0 0, .slice none 0 0], .int .i64 EN])) ((w3.setCell ⟨w.heap.size + 2, 0, none⟩ u).setCell ⟨w.heap.size + 2, 1, none⟩ v)) := fun u v => gives2z_of hRE (fun W _ _ => zeroA_in _ _ _) (HI3.out.fin u v)
    clear I3 hRE HC
    go_wp2
    exact bodyPost_ret (v := .tuple #[.agg #[.slice none 0 0, .slice none 0 0], .int .i64 EN]) (by simp [results, Try.results20, go_sem, HT.out.1, HT.out.2]) rfl (HF.out _ _)
  have hE1 : EN = 0 := Classical.not_not.1 hE0
  subst hE1
  clear hE0
  obtain ⟨hRE, HC2⟩ := HC.out rfl
  have C := HC2 w3 HNB3.out
  have r0 := I3.r0
  have r1 := I3.r1
  have hs3 := I3.size
  clear I3 HC HC2
  generalize rotY z y (axL false y) = Y at *
  go_wp2_with fail
  refine C.mono ?_
  clear C r0 r1
  rintro e w5 ⟨⟨v, rfl, hv⟩, hb5⟩
  have HI5 := hide (HI3.out.next hb5)
  have HNB5 := hide (HNB3.out.trans (hb5.mono HNB3.out.size))
  clear hb5 HI3
  obtain ⟨z1, m1, z2, m2, rfl, -, -⟩ := (hv w5 HNB5.out (Keeps.refl _ _)).form
  have I5 := HI5.out
  have p0 := I5.p0
  have p1 := I5.p1
  have f0 := I5.f0
  have f1 := I5.f1
  have HT := hide (I5.put (.slice z1 Y.shape.length m1) (.slice z2 Y.cells.length m2))
  have HF : Hid (∀ u v, Gives2Z (n + 1) w0 RS.1 RS.2 w (.returned (.tuple #[.agg #[.slice z1 Y.shape.length m1, .slice z2 Y.cells.length m2], .int .i64 0])) ((w5.setCell ⟨w.heap.size + 2, 0, none⟩ u).setCell ⟨w.heap.size + 2, 1, none⟩ v)) := by
    intro u v
    refine gives2z_of hRE (fun W hW hK => hv W hW ?_) (I5.fin u v)
    exact ((keeps_three w5 w.heap.size u v).trans (hK.mono (show w.heap.size ≤ w.heap.size + 3 by omega))).mono (by omega)
  clear I5 hv HI5 hRE
  generalize Y.shape.length = YS at *
  generalize Y.cells.length = YC at *
  go_wp2
  exact bodyPost_ret (v := .tuple #[.agg #[.slice z1 YS m1, .slice z2 YC m2], .int .i64 0]) (by simp [results, Try.results20, go_sem, HT.out.1, HT.out.2]) rfl (HF.out _ _)
set_option maxHeartbeats 4000000 in
theorem rdy_45 {n lo lo' : Nat} {x y : Ar} {va vb : Value} {w0 w : World} (hx : ArIn (n + 1) lo w0 x va) (hy : ArIn (n + 1) lo' w0 y vb) (hb0 : Below w0.heap.size w0 w) (hcx : chkA 8 x = 0) (hcy : chkA 8 y = 0) (hcapx : Caps va) (hcapy : Caps vb) (hI : I64 (numR x).1) :
    Calls Try.prog 20 #[.int .i64 45, va, vb] w fun e w' => Gives2Z (n + 1) w0 (rotR x y (axL true y)).1 (rotR x y (axL true y)).2 w e w' := by
  obtain ⟨a1, c1, a2, c2, rfl, R, hc⟩ := hx.form
  obtain ⟨b1, d1, b2, d2, rfl, R', hc'⟩ := hy.form
  have I := in3_new w (.slice a1 x.shape.length c1) (.slice a2 x.cells.length c2) (.slice b1 y.shape.length d1) (.slice b2 y.cells.length d2)
  obtain ⟨W3, e3⟩ : ∃ W3, ((w.alloc (.cells #[.slice a1 x.shape.length c1, .slice a2 x.cells.length c2] 25)).alloc (.cells #[.slice b1 y.shape.length d1, .slice b2 y.cells.length d2] 25)).alloc (.cells #[.slice none 0 0, .slice none 0 0] 25) = W3 := ⟨_, rfl⟩
  rw [e3] at I
  have q0 := I.q0
  have q1 := I.q1
  have r0 := I.r0
  have r1 := I.r1
  have CK := rcheck_any (n + 1) x _ _ W3 (hx.next (hb0.trans (I.bel.mono hb0.size)))
  have HCK2 : Hid (∀ W, Below w0.heap.size w0 W → Calls Try.prog 16 #[.agg #[.slice b1 y.shape.length d1, .slice b2 y.cells.length d2]] W fun e w' => e = .returned (.int .i64 (chkA 8 y)) ∧ Below W.heap.size W w') := fun W h => rcheck_any (n + 1) y _ _ W (hy.next h)
  have HI := hide I
  have HB0 := hide hb0
  have HXY := hide (And.intro hx hy)
  have HCP := hide (And.intro hcapx hcapy)
  have HII := hide hI
  rw [hcx] at CK
  rw [hcy] at HCK2
  have HCN : Hid (∀ W, Below w0.heap.size w0 W → Calls Try.prog 50 #[.agg #[.slice a1 x.shape.length c1, .slice a2 x.cells.length c2]] W fun e w' => e = .returned (.tuple #[.int .i64 (numR x).1, .int .i64 (numR x).2]) ∧ Below W.heap.size W w') := fun W h => rnumber_any (hx.next h) hcx
  obtain ⟨z, hz⟩ : ∃ z, (numR x).1 = z := ⟨_, rfl⟩
  obtain ⟨EN, hEN⟩ : ∃ EN, (numR x).2 = EN := ⟨_, rfl⟩
  obtain ⟨RS, hRS⟩ : ∃ RS, rotR x y (axL true y) = RS := ⟨_, rfl⟩
  rw [hRS]
  have HER : Hid (¬ EN = 0 → RS = (zeroA, EN)) := fun h => by
    rw [← hRS, ← hEN]; unfold rotR; rw [if_pos (by rw [hEN]; exact h)]
  rw [hz, hEN] at HCN
  have HC : Hid (EN = 0 → RS = (rotY z y (axL true y), 0) ∧ ∀ W, Below w0.heap.size w0 W → Calls Try.prog 53 #[.int .i64 z, .agg #[.slice b1 y.shape.length d1, .slice b2 y.cells.length d2], .bool true] W fun e w' => GivesZ (n + 1) w0 (rotY z y (axL true y)) W e w') := fun h0 => ⟨by rw [← hRS, ← hz]; exact rot_is (by rw [hEN]; exact h0), fun W h => rrot_any z true hy h hcy (by rw [← hz]; exact hI)⟩
  clear hx hy R hc R' hc' I hb0 hcapx hcapy HXY HCP HII hI hRS hz
  generalize x.shape.length = SX at *
  generalize x.cells.length = CX at *
  generalize y.shape.length = SY at *
  generalize y.cells.length = CY at *
  go_enter Try.func20, Try.ntmps20
  go_wp2_with fail
  clear e3
  refine CK.mono ?_
  clear CK q0 q1 r0 r1
  rintro e w1 ⟨rfl, hb1⟩
  have I1 := HI.out.next hb1
  have HI1 := hide I1
  have C2 := HCK2.out w1 (HB0.out.trans (I1.bel.mono HB0.out.size))
  have r0 := I1.r0
  have r1 := I1.r1
  clear hb1 HI I1 HCK2
  go_wp2_with fail
  refine C2.mono ?_
  clear C2 r0 r1
  rintro e w2 ⟨rfl, hb2⟩
  have I2 := HI1.out.next hb2
  have HI2 := hide I2
  have NB := HB0.out.trans (I2.bel.mono HB0.out.size)
  have HNB := hide NB
  have CN := HCN.out w2 NB
  have q0 := I2.q0
  have q1 := I2.q1
  clear hb2 HI1 I2 NB HCN hEN
  go_wp2_with fail
  refine CN.mono ?_
  clear CN q0 q1
  rintro e w3 ⟨rfl, hb3⟩
  have I3 := HI2.out.next hb3
  have HI3 := hide I3
  have HNB3 := hide (HB0.out.trans (I3.bel.mono HB0.out.size))
  clear hb3 HI2 HNB
  by_cases hE0 : ¬ EN = 0
  · have hEb : (EN == 0) = false := by simp [hE0]
    have hRE := HER.out hE0
    have HT := hide (HI3.out.put (.slice none 0 0) (.slice none 0 0))
    have p0 := I3.p0
    have p1 := I3.p1
    have f0 := I3.f0
    have f1 := I3.f1
    have HF : Hid (∀ u v, Gives2Z (n + 1) w0 RS.1 RS.2 w (.returned (.tuple #[.agg #[.slice none 0 0, .slice none 0 0], .int .i64 EN])) ((w3.setCell ⟨w.heap.size + 2, 0, none⟩ u).setCell ⟨w.heap.size + 2, 1, none⟩ v)) := fun u v => gives2z_of hRE (fun W _ _ => zeroA_in _ _ _) (HI3.out.fin u v)
    clear I3 hRE HC
    go_wp2
    exact bodyPost_ret (v := .tuple #[.agg #[.slice none 0 0, .slice none 0 0], .int .i64 EN]) (by simp [results, Try.results20, go_sem, HT.out.1, HT.out.2]) rfl (HF.out _ _)
  have hE1 : EN = 0 := Classical.not_not.1 hE0
  subst hE1
  clear hE0
  obtain ⟨hRE, HC2⟩ := HC.out rfl
  have C := HC2 w3 HNB3.out
  have r0 := I3.r0
  have r1 := I3.r1
  have hs3 := I3.size
  clear I3 HC HC2
  generalize rotY z y (axL true y) = Y at *
  go_wp2_with fail
  refine C.mono ?_
  clear C r0 r1
  rintro e w5 ⟨⟨v, rfl, hv⟩, hb5⟩
  have HI5 := hide (HI3.out.next hb5)
  have HNB5 := hide (HNB3.out.trans (hb5.mono HNB3.out.size))
  clear hb5 HI3
  obtain ⟨z1, m1, z2, m2, rfl, -, -⟩ := (hv w5 HNB5.out (Keeps.refl _ _)).form
  have I5 := HI5.out
  have p0 := I5.p0
  have p1 := I5.p1
  have f0 := I5.f0
  have f1 := I5.f1
  have HT := hide (I5.put (.slice z1 Y.shape.length m1) (.slice z2 Y.cells.length m2))
  have HF : Hid (∀ u v, Gives2Z (n + 1) w0 RS.1 RS.2 w (.returned (.tuple #[.agg #[.slice z1 Y.shape.length m1, .slice z2 Y.cells.length m2], .int .i64 0])) ((w5.setCell ⟨w.heap.size + 2, 0, none⟩ u).setCell ⟨w.heap.size + 2, 1, none⟩ v)) := by
    intro u v
    refine gives2z_of hRE (fun W hW hK => hv W hW ?_) (I5.fin u v)
    exact ((keeps_three w5 w.heap.size u v).trans (hK.mono (show w.heap.size ≤ w.heap.size + 3 by omega))).mono (by omega)
  clear I5 hv HI5 hRE
  generalize Y.shape.length = YS at *
  generalize Y.cells.length = YC at *
  go_wp2
  exact bodyPost_ret (v := .tuple #[.agg #[.slice z1 YS m1, .slice z2 YC m2], .int .i64 0]) (by simp [results, Try.results20, go_sem, HT.out.1, HT.out.2]) rfl (HF.out _ _)
set_option maxHeartbeats 4000000 in
theorem rdy_42 {n lo lo' : Nat} {x y : Ar} {va vb : Value} {w0 w : World} (hx : ArIn (n + 1) lo w0 x va) (hy : ArIn (n + 1) lo' w0 y vb) (hb0 : Below w0.heap.size w0 w) (hcx : chkA 8 x = 0) (hcy : chkA 8 y = 0) (hcapx : Caps va) (hcapy : Caps vb) (hI : I64 (numR x).1) :
    Calls Try.prog 20 #[.int .i64 42, va, vb] w fun e w' => Gives2Z (n + 1) w0 (takR x (lstA y)).1 (takR x (lstA y)).2 w e w' := by
  obtain ⟨a1, c1, a2, c2, rfl, R, hc⟩ := hx.form
  obtain ⟨b1, d1, b2, d2, rfl, R', hc'⟩ := hy.form
  have I := in3_new w (.slice a1 x.shape.length c1) (.slice a2 x.cells.length c2) (.slice b1 y.shape.length d1) (.slice b2 y.cells.length d2)
  obtain ⟨W3, e3⟩ : ∃ W3, ((w.alloc (.cells #[.slice a1 x.shape.length c1, .slice a2 x.cells.length c2] 25)).alloc (.cells #[.slice b1 y.shape.length d1, .slice b2 y.cells.length d2] 25)).alloc (.cells #[.slice none 0 0, .slice none 0 0] 25) = W3 := ⟨_, rfl⟩
  rw [e3] at I
  have q0 := I.q0
  have q1 := I.q1
  have r0 := I.r0
  have r1 := I.r1
  have CK := rcheck_any (n + 1) x _ _ W3 (hx.next (hb0.trans (I.bel.mono hb0.size)))
  have HCK2 : Hid (∀ W, Below w0.heap.size w0 W → Calls Try.prog 16 #[.agg #[.slice b1 y.shape.length d1, .slice b2 y.cells.length d2]] W fun e w' => e = .returned (.int .i64 (chkA 8 y)) ∧ Below W.heap.size W w') := fun W h => rcheck_any (n + 1) y _ _ W (hy.next h)
  have HI := hide I
  have HB0 := hide hb0
  have HXY := hide (And.intro hx hy)
  have HCP := hide (And.intro hcapx hcapy)
  have HII := hide hI
  rw [hcx] at CK
  rw [hcy] at HCK2
  have HCN : Hid (∀ W, Below w0.heap.size w0 W → Calls Try.prog 50 #[.agg #[.slice a1 x.shape.length c1, .slice a2 x.cells.length c2]] W fun e w' => e = .returned (.tuple #[.int .i64 (numR x).1, .int .i64 (numR x).2]) ∧ Below W.heap.size W w') := fun W h => rnumber_any (hx.next h) hcx
  obtain ⟨z, hz⟩ : ∃ z, (numR x).1 = z := ⟨_, rfl⟩
  obtain ⟨EN, hEN⟩ : ∃ EN, (numR x).2 = EN := ⟨_, rfl⟩
  obtain ⟨RS, hRS⟩ : ∃ RS, takR x (lstA y) = RS := ⟨_, rfl⟩
  rw [hRS]
  have HER : Hid (¬ EN = 0 → RS = (zeroA, EN)) := fun h => by
    rw [← hRS, ← hEN]; unfold takR; rw [if_pos (by rw [hEN]; exact h)]
  rw [hz, hEN] at HCN
  have hCL : ∀ W, Below w0.heap.size w0 W → Calls Try.prog 21 #[.agg #[.slice b1 y.shape.length d1, .slice b2 y.cells.length d2]] W fun e w' => LstIs w0 y b2 d2 W e w' := fun W h => rlisted_row hy h (caps_form hcapy).1
  unfold LstIs at hCL
  obtain ⟨L, hL⟩ : ∃ L, lstA y = L := ⟨_, rfl⟩
  obtain ⟨hLc, hLcl, hLs⟩ := lst_facts hcy
  rw [hL] at hLc hLcl hLs hCL
  obtain ⟨m, hm, hm16⟩ := sizeV_nat L.shape.tail
  have hDb := (chk_axes hLc).1 (gI L.shape 0) (getD_mem hLs)
  obtain ⟨D, hD⟩ : ∃ D : Nat, gI L.shape 0 = (D : Int) := ⟨(gI L.shape 0).toNat, by omega⟩
  have hIz : I64 z := by rw [← hz]; exact hI
  have hc0 : CellsIn n 0 w0 y.cells b2 := by
    obtain ⟨b1', d1', b2', d2', he, -, h⟩ := (hy.mono (Nat.zero_le _) (Below.refl _ _)).form
    simp only [Value.agg.injEq, Array.mk.injEq, List.cons.injEq, Value.slice.injEq, and_true, true_and] at he
    obtain ⟨-, rfl, -⟩ := he
    exact h
  have HCL := hide hCL
  obtain ⟨SL, hSL⟩ : ∃ SL, L.shape.length = SL := ⟨_, rfl⟩
  have HC : Hid (EN = 0 → RS = takY z L D m ∧ ∀ W s1 k1, Row 0 W s1 L.shape → SL ≤ k1 → Below w0.heap.size w0 W → Calls Try.prog 51 #[.int .i64 z, .agg #[.slice s1 SL k1, .slice b2 y.cells.length d2]] W fun e w' => Gives2Z (n + 1) w0 (takY z L D m).1 (takY z L D m).2 W e w') := fun h0 => ⟨by rw [← hRS, hL, ← hz]; exact take_is hLc hLs hD hm (by rw [hEN]; exact h0), fun W s1 k1 hr hk h => by
    have hW : ArW n 0 W w0 L (.agg #[.slice s1 SL k1, .slice b2 y.cells.length d2]) := ⟨s1, k1, b2, d2, by rw [hSL, hLcl], hr, by rw [hLcl]; exact hc0⟩
    exact rtake_two z hW (Below.refl _ _) h hLc ⟨_, _, _, _, _, _, rfl, hk, (caps_form hcapy).2⟩ hLs hD hm hIz⟩
  rw [hSL] at HCL
  clear hCL hL hLc hLcl hm hm16 hDb hD hIz hc0
  clear hx hy R hc R' hc' I hb0 hcapx hcapy HXY HCP HII hI hRS hz
  generalize x.shape.length = SX at *
  generalize x.cells.length = CX at *
  generalize y.shape.length = SY at *
  generalize y.cells.length = CY at *
  go_enter Try.func20, Try.ntmps20
  go_wp2_with fail
  clear e3
  refine CK.mono ?_
  clear CK q0 q1 r0 r1
  rintro e w1 ⟨rfl, hb1⟩
  have I1 := HI.out.next hb1
  have HI1 := hide I1
  have C2 := HCK2.out w1 (HB0.out.trans (I1.bel.mono HB0.out.size))
  have r0 := I1.r0
  have r1 := I1.r1
  clear hb1 HI I1 HCK2
  go_wp2_with fail
  refine C2.mono ?_
  clear C2 r0 r1
  rintro e w2 ⟨rfl, hb2⟩
  have I2 := HI1.out.next hb2
  have HI2 := hide I2
  have NB := HB0.out.trans (I2.bel.mono HB0.out.size)
  have HNB := hide NB
  have CN := HCN.out w2 NB
  have q0 := I2.q0
  have q1 := I2.q1
  clear hb2 HI1 I2 NB HCN hEN
  go_wp2_with fail
  refine CN.mono ?_
  clear CN q0 q1
  rintro e w3 ⟨rfl, hb3⟩
  have I3 := HI2.out.next hb3
  have HI3 := hide I3
  have HNB3 := hide (HB0.out.trans (I3.bel.mono HB0.out.size))
  clear hb3 HI2 HNB
  by_cases hE0 : ¬ EN = 0
  · have hEb : (EN == 0) = false := by simp [hE0]
    have hRE := HER.out hE0
    have HT := hide (HI3.out.put (.slice none 0 0) (.slice none 0 0))
    have p0 := I3.p0
    have p1 := I3.p1
    have f0 := I3.f0
    have f1 := I3.f1
    have HF : Hid (∀ u v, Gives2Z (n + 1) w0 RS.1 RS.2 w (.returned (.tuple #[.agg #[.slice none 0 0, .slice none 0 0], .int .i64 EN])) ((w3.setCell ⟨w.heap.size + 2, 0, none⟩ u).setCell ⟨w.heap.size + 2, 1, none⟩ v)) := fun u v => gives2z_of hRE (fun W _ _ => zeroA_in _ _ _) (HI3.out.fin u v)
    clear I3 hRE HC
    go_wp2
    exact bodyPost_ret (v := .tuple #[.agg #[.slice none 0 0, .slice none 0 0], .int .i64 EN]) (by simp [results, Try.results20, go_sem, HT.out.1, HT.out.2]) rfl (HF.out _ _)
  have hE1 : EN = 0 := Classical.not_not.1 hE0
  subst hE1
  clear hE0
  obtain ⟨hRE, HC2⟩ := HC.out rfl
  have CL := HCL.out w3 HNB3.out
  have r0 := I3.r0
  have r1 := I3.r1
  have hs3 := I3.size
  clear I3 HC HCL
  go_wp2_with fail
  refine CL.mono ?_
  clear CL r0 r1
  rintro e w4 ⟨⟨s1, k1, rfl, hk1, hr1⟩, hb4⟩
  have HI4 := hide (HI3.out.next hb4)
  have HNB4 := hide (HNB3.out.trans (hb4.mono HNB3.out.size))
  have hs4 := hb4.size
  have C := HC2 w4 s1 k1 (hr1 w4 HNB4.out (Keeps.refl _ _)) hk1 HNB4.out
  clear hb4 HI3 HNB3 hr1 HC2
  obtain ⟨⟨Y, EY⟩, hTY⟩ : ∃ p, takY z L D m = p := ⟨_, rfl⟩
  rw [hTY] at C hRE
  simp only at C
  clear hTY
  go_wp2_with fail
  refine C.mono ?_
  clear C
  rintro e w5 ⟨⟨v, rfl, hv⟩, hb5⟩
  have HI5 := hide (HI4.out.next hb5)
  have HNB5 := hide (HNB4.out.trans (hb5.mono HNB4.out.size))
  clear hb5 HI4
  obtain ⟨z1, m1, z2, m2, rfl, -, -⟩ := (hv w5 HNB5.out (Keeps.refl _ _)).form
  have I5 := HI5.out
  have p0 := I5.p0
  have p1 := I5.p1
  have f0 := I5.f0
  have f1 := I5.f1
  have HT := hide (I5.put (.slice z1 Y.shape.length m1) (.slice z2 Y.cells.length m2))
  have HF : Hid (∀ u v, Gives2Z (n + 1) w0 RS.1 RS.2 w (.returned (.tuple #[.agg #[.slice z1 Y.shape.length m1, .slice z2 Y.cells.length m2], .int .i64 EY])) ((w5.setCell ⟨w.heap.size + 2, 0, none⟩ u).setCell ⟨w.heap.size + 2, 1, none⟩ v)) := by
    intro u v
    refine gives2z_of hRE (fun W hW hK => hv W hW ?_) (I5.fin u v)
    exact ((keeps_three w5 w.heap.size u v).trans (hK.mono (show w.heap.size ≤ w.heap.size + 3 by omega))).mono (by omega)
  clear I5 hv HI5 hRE
  generalize Y.shape.length = YS at *
  generalize Y.cells.length = YC at *
  go_wp2
  exact bodyPost_ret (v := .tuple #[.agg #[.slice z1 YS m1, .slice z2 YC m2], .int .i64 EY]) (by simp [results, Try.results20, go_sem, HT.out.1, HT.out.2]) rfl (HF.out _ _)
set_option maxHeartbeats 4000000 in
theorem rdy_43 {n lo lo' : Nat} {x y : Ar} {va vb : Value} {w0 w : World} (hx : ArIn (n + 1) lo w0 x va) (hy : ArIn (n + 1) lo' w0 y vb) (hb0 : Below w0.heap.size w0 w) (hcx : chkA 8 x = 0) (hcy : chkA 8 y = 0) (hcapx : Caps va) (hcapy : Caps vb) (hI : I64 (numR x).1) :
    Calls Try.prog 20 #[.int .i64 43, va, vb] w fun e w' => Gives2Z (n + 1) w0 (drpR x (lstA y)).1 (drpR x (lstA y)).2 w e w' := by
  obtain ⟨a1, c1, a2, c2, rfl, R, hc⟩ := hx.form
  obtain ⟨b1, d1, b2, d2, rfl, R', hc'⟩ := hy.form
  have I := in3_new w (.slice a1 x.shape.length c1) (.slice a2 x.cells.length c2) (.slice b1 y.shape.length d1) (.slice b2 y.cells.length d2)
  obtain ⟨W3, e3⟩ : ∃ W3, ((w.alloc (.cells #[.slice a1 x.shape.length c1, .slice a2 x.cells.length c2] 25)).alloc (.cells #[.slice b1 y.shape.length d1, .slice b2 y.cells.length d2] 25)).alloc (.cells #[.slice none 0 0, .slice none 0 0] 25) = W3 := ⟨_, rfl⟩
  rw [e3] at I
  have q0 := I.q0
  have q1 := I.q1
  have r0 := I.r0
  have r1 := I.r1
  have CK := rcheck_any (n + 1) x _ _ W3 (hx.next (hb0.trans (I.bel.mono hb0.size)))
  have HCK2 : Hid (∀ W, Below w0.heap.size w0 W → Calls Try.prog 16 #[.agg #[.slice b1 y.shape.length d1, .slice b2 y.cells.length d2]] W fun e w' => e = .returned (.int .i64 (chkA 8 y)) ∧ Below W.heap.size W w') := fun W h => rcheck_any (n + 1) y _ _ W (hy.next h)
  have HI := hide I
  have HB0 := hide hb0
  have HXY := hide (And.intro hx hy)
  have HCP := hide (And.intro hcapx hcapy)
  have HII := hide hI
  rw [hcx] at CK
  rw [hcy] at HCK2
  have HCN : Hid (∀ W, Below w0.heap.size w0 W → Calls Try.prog 50 #[.agg #[.slice a1 x.shape.length c1, .slice a2 x.cells.length c2]] W fun e w' => e = .returned (.tuple #[.int .i64 (numR x).1, .int .i64 (numR x).2]) ∧ Below W.heap.size W w') := fun W h => rnumber_any (hx.next h) hcx
  obtain ⟨z, hz⟩ : ∃ z, (numR x).1 = z := ⟨_, rfl⟩
  obtain ⟨EN, hEN⟩ : ∃ EN, (numR x).2 = EN := ⟨_, rfl⟩
  obtain ⟨RS, hRS⟩ : ∃ RS, drpR x (lstA y) = RS := ⟨_, rfl⟩
  rw [hRS]
  have HER : Hid (¬ EN = 0 → RS = (zeroA, EN)) := fun h => by
    rw [← hRS, ← hEN]; unfold drpR; rw [if_pos (by rw [hEN]; exact h)]
  rw [hz, hEN] at HCN
  have hCL : ∀ W, Below w0.heap.size w0 W → Calls Try.prog 21 #[.agg #[.slice b1 y.shape.length d1, .slice b2 y.cells.length d2]] W fun e w' => LstIs w0 y b2 d2 W e w' := fun W h => rlisted_row hy h (caps_form hcapy).1
  unfold LstIs at hCL
  obtain ⟨L, hL⟩ : ∃ L, lstA y = L := ⟨_, rfl⟩
  obtain ⟨hLc, hLcl, hLs⟩ := lst_facts hcy
  rw [hL] at hLc hLcl hLs hCL
  obtain ⟨m, hm, hm16⟩ := sizeV_nat L.shape.tail
  have hDb := (chk_axes hLc).1 (gI L.shape 0) (getD_mem hLs)
  obtain ⟨D, hD⟩ : ∃ D : Nat, gI L.shape 0 = (D : Int) := ⟨(gI L.shape 0).toNat, by omega⟩
  have hIz : I64 z := by rw [← hz]; exact hI
  have hc0 : CellsIn n 0 w0 y.cells b2 := by
    obtain ⟨b1', d1', b2', d2', he, -, h⟩ := (hy.mono (Nat.zero_le _) (Below.refl _ _)).form
    simp only [Value.agg.injEq, Array.mk.injEq, List.cons.injEq, Value.slice.injEq, and_true, true_and] at he
    obtain ⟨-, rfl, -⟩ := he
    exact h
  have HCL := hide hCL
  obtain ⟨SL, hSL⟩ : ∃ SL, L.shape.length = SL := ⟨_, rfl⟩
  have HC : Hid (EN = 0 → RS = (itmsA L m (fromL (drpF z D) (drpN z D)) 0 0, 0) ∧ ∀ W s1 k1, Row 0 W s1 L.shape → SL ≤ k1 → Below w0.heap.size w0 W → Calls Try.prog 52 #[.int .i64 z, .agg #[.slice s1 SL k1, .slice b2 y.cells.length d2]] W fun e w' => GivesZ (n + 1) w0 (itmsA L m (fromL (drpF z D) (drpN z D)) 0 0) W e w') := fun h0 => ⟨by rw [← hRS, hL, ← hz]; exact drop_is hLc hLs hD hm (by rw [hEN]; exact h0), fun W s1 k1 hr hk h => by
    have hW : ArW n 0 W w0 L (.agg #[.slice s1 SL k1, .slice b2 y.cells.length d2]) := ⟨s1, k1, b2, d2, by rw [hSL, hLcl], hr, by rw [hLcl]; exact hc0⟩
    exact rdrop_two z hW (Below.refl _ _) h hLc ⟨_, _, _, _, _, _, rfl, hk, (caps_form hcapy).2⟩ hLs hD hm hIz⟩
  rw [hSL] at HCL
  clear hCL hL hLc hLcl hm hm16 hDb hD hIz hc0
  clear hx hy R hc R' hc' I hb0 hcapx hcapy HXY HCP HII hI hRS hz
  generalize x.shape.length = SX at *
  generalize x.cells.length = CX at *
  generalize y.shape.length = SY at *
  generalize y.cells.length = CY at *
  go_enter Try.func20, Try.ntmps20
  go_wp2_with fail
  clear e3
  refine CK.mono ?_
  clear CK q0 q1 r0 r1
  rintro e w1 ⟨rfl, hb1⟩
  have I1 := HI.out.next hb1
  have HI1 := hide I1
  have C2 := HCK2.out w1 (HB0.out.trans (I1.bel.mono HB0.out.size))
  have r0 := I1.r0
  have r1 := I1.r1
  clear hb1 HI I1 HCK2
  go_wp2_with fail
  refine C2.mono ?_
  clear C2 r0 r1
  rintro e w2 ⟨rfl, hb2⟩
  have I2 := HI1.out.next hb2
  have HI2 := hide I2
  have NB := HB0.out.trans (I2.bel.mono HB0.out.size)
  have HNB := hide NB
  have CN := HCN.out w2 NB
  have q0 := I2.q0
  have q1 := I2.q1
  clear hb2 HI1 I2 NB HCN hEN
  go_wp2_with fail
  refine CN.mono ?_
  clear CN q0 q1
  rintro e w3 ⟨rfl, hb3⟩
  have I3 := HI2.out.next hb3
  have HI3 := hide I3
  have HNB3 := hide (HB0.out.trans (I3.bel.mono HB0.out.size))
  clear hb3 HI2 HNB
  by_cases hE0 : ¬ EN = 0
  · have hEb : (EN == 0) = false := by simp [hE0]
    have hRE := HER.out hE0
    have HT := hide (HI3.out.put (.slice none 0 0) (.slice none 0 0))
    have p0 := I3.p0
    have p1 := I3.p1
    have f0 := I3.f0
    have f1 := I3.f1
    have HF : Hid (∀ u v, Gives2Z (n + 1) w0 RS.1 RS.2 w (.returned (.tuple #[.agg #[.slice none 0 0, .slice none 0 0], .int .i64 EN])) ((w3.setCell ⟨w.heap.size + 2, 0, none⟩ u).setCell ⟨w.heap.size + 2, 1, none⟩ v)) := fun u v => gives2z_of hRE (fun W _ _ => zeroA_in _ _ _) (HI3.out.fin u v)
    clear I3 hRE HC
    go_wp2
    exact bodyPost_ret (v := .tuple #[.agg #[.slice none 0 0, .slice none 0 0], .int .i64 EN]) (by simp [results, Try.results20, go_sem, HT.out.1, HT.out.2]) rfl (HF.out _ _)
  have hE1 : EN = 0 := Classical.not_not.1 hE0
  subst hE1
  clear hE0
  obtain ⟨hRE, HC2⟩ := HC.out rfl
  have CL := HCL.out w3 HNB3.out
  have r0 := I3.r0
  have r1 := I3.r1
  have hs3 := I3.size
  clear I3 HC HCL
  go_wp2_with fail
  refine CL.mono ?_
  clear CL r0 r1
  rintro e w4 ⟨⟨s1, k1, rfl, hk1, hr1⟩, hb4⟩
  have HI4 := hide (HI3.out.next hb4)
  have HNB4 := hide (HNB3.out.trans (hb4.mono HNB3.out.size))
  have hs4 := hb4.size
  have C := HC2 w4 s1 k1 (hr1 w4 HNB4.out (Keeps.refl _ _)) hk1 HNB4.out
  clear hb4 HI3 HNB3 hr1 HC2
  generalize itmsA L m (fromL (drpF z D) (drpN z D)) 0 0 = Y at *
  go_wp2_with fail
  refine C.mono ?_
  clear C
  rintro e w5 ⟨⟨v, rfl, hv⟩, hb5⟩
  have HI5 := hide (HI4.out.next hb5)
  have HNB5 := hide (HNB4.out.trans (hb5.mono HNB4.out.size))
  clear hb5 HI4
  obtain ⟨z1, m1, z2, m2, rfl, -, -⟩ := (hv w5 HNB5.out (Keeps.refl _ _)).form
  have I5 := HI5.out
  have p0 := I5.p0
  have p1 := I5.p1
  have f0 := I5.f0
  have f1 := I5.f1
  have HT := hide (I5.put (.slice z1 Y.shape.length m1) (.slice z2 Y.cells.length m2))
  have HF : Hid (∀ u v, Gives2Z (n + 1) w0 RS.1 RS.2 w (.returned (.tuple #[.agg #[.slice z1 Y.shape.length m1, .slice z2 Y.cells.length m2], .int .i64 0])) ((w5.setCell ⟨w.heap.size + 2, 0, none⟩ u).setCell ⟨w.heap.size + 2, 1, none⟩ v)) := by
    intro u v
    refine gives2z_of hRE (fun W hW hK => hv W hW ?_) (I5.fin u v)
    exact ((keeps_three w5 w.heap.size u v).trans (hK.mono (show w.heap.size ≤ w.heap.size + 3 by omega))).mono (by omega)
  clear I5 hv HI5 hRE
  generalize Y.shape.length = YS at *
  generalize Y.cells.length = YC at *
  go_wp2
  exact bodyPost_ret (v := .tuple #[.agg #[.slice z1 YS m1, .slice z2 YC m2], .int .i64 0]) (by simp [results, Try.results20, go_sem, HT.out.1, HT.out.2]) rfl (HF.out _ _)
end Go.Proofs.Ytmjncdhahdpplaa
namespace Go.Proofs.Ytmjncdhahdpplaa
open Go.ChangeShapes Go.WideShapes Go.ChangeAt Go.RowKit
set_option linter.unusedVariables false
set_option maxRecDepth 100000
theorem rdyP_any {n lo lo' : Nat} {op : Int} {x y : Ar} {va vb : Value} {w0 w : World} (hio : I64 op) (hx : ArIn (n + 1) lo w0 x va) (hy : ArIn (n + 1) lo' w0 y vb) (hb0 : Below w0.heap.size w0 w) (kx : Caps va) (ky : Caps vb) (hI : I64 (numR x).1) :
    Calls Try.prog 20 #[.int .i64 op, va, vb] w fun e w' => Gives2Z (n + 1) w0 (dyR (pickR op) x y).1 (dyR (pickR op) x y).2 w e w' := by
  unfold dyR
  by_cases h1 : chkA 8 x = 0
  case neg => rw [if_pos h1]; exact rdy_bad1 hx hy hb0 h1 kx ky hI
  by_cases h2 : chkA 8 y = 0
  case neg => rw [if_neg (by simpa using h1), if_pos h2]; exact rdy_bad2 hx hy hb0 h1 h2 kx ky hI
  rw [if_neg (by simpa using h1), if_neg (by simpa using h2)]
  unfold pickR
  by_cases h : op = 42
  · subst h; rw [if_pos rfl]; exact rdy_42 hx hy hb0 h1 h2 kx ky hI
  rw [if_neg h]
  by_cases h : op = 43
  · subst h; rw [if_pos rfl]; exact rdy_43 hx hy hb0 h1 h2 kx ky hI
  rw [if_neg h]
  by_cases h : op = 44
  · subst h; rw [if_pos rfl]; exact rdy_44 hx hy hb0 h1 h2 kx ky hI
  rw [if_neg h]
  by_cases h : op = 45
  · subst h; rw [if_pos rfl]; exact rdy_45 hx hy hb0 h1 h2 kx ky hI
  rw [if_neg h]
  by_cases h : op = 46
  · subst h; rw [if_pos rfl]; exact rdy_46 hx hy hb0 h1 h2 kx ky hI
  rw [if_neg h]
  by_cases h : op = 47
  · subst h; rw [if_pos rfl]; exact rdy_47 hx hy hb0 h1 h2 kx ky hI
  rw [if_neg h]
  by_cases h : op = 50
  · subst h; rw [if_pos rfl]; exact rdy_50 hx hy hb0 h1 h2 kx ky hI
  rw [if_neg h]
  by_cases h : op = 51
  · subst h; rw [if_pos rfl]; exact rdy_51 hx hy hb0 h1 h2 kx ky hI
  rw [if_neg h]
  by_cases h : op = 52
  · subst h; rw [if_pos rfl]; exact rdy_52 hx hy hb0 h1 h2 kx ky hI
  rw [if_neg h]
  by_cases h : op = 53
  · subst h; rw [if_pos rfl]; exact rdy_53 hx hy hb0 h1 h2 kx ky hI
  rw [if_neg h]
  exact rdy_none (by omega) hio hx hy hb0 h1 h2 kx ky hI
end Go.Proofs.Ytmjncdhahdpplaa
