/-
  For all arrays the statement SeekFinds holds: what is found at a place stands there, and not ahead of it; a cell is in a list just if it is found; no condition (the given row speaks of what a machine of 64 bits can hold).
-/
import Derived.Test.YtimkcpbgnoekcaaM9
import Derived.Test.YtimkcpbgnoekcaaChecked
import GoSem.Claim
import GoSem.ClaimJoined
import GoSem.ClaimMapViews
import Derived.JoinedTies
import Derived.KernelRfl
import Derived.WalkKit
import Derived.ProofKit
import Derived.Below
import Derived.Deep.OwnRows
import Derived.Deep.QuietTactic
import Derived.BigQuiet
import Derived.Deep.RegionWith
import Derived.Laws.MakeOwn
import Derived.Deep.RegionHeld3
import Derived.Laws.IdiomCopy
import Derived.Deep.Cut
import Derived.Deep.LoopGhost
import Derived.OpenShut
import Derived.ChangeOld
import Derived.SizedLaws
import Derived.Deep.Slices
import Derived.Deep.Strs
import Derived.Laws.AppendOwn
import Derived.BigFrame
import Derived.Deep.CutRange
import Derived.Deep.RegionLaw
import Derived.Laws.OwnMore
import Derived.Lib.SliceRun
import Derived.Laws.CopyOwn
import Derived.Lib.Mul64
import Derived.Lib.Overlaps
import Derived.Laws.EntriesVeiled
namespace Go.Proofs.Ytimkcpbgnoekcaa.seekFinds
open Go.ChangeShapes Go.WideShapes Go.ChangeAt Go.RowKit
set_option linter.unusedVariables false
set_option maxRecDepth 100000
set_option maxHeartbeats 4000000 in
theorem walk (n : Nat) (x : Ar) (d0 d1 : Value) (m : Nat) (y : Ar) (f0 f1 : Value) (w : World) (hx : ArIn n 0 w x (.agg #[d0, d1])) (hcap : Caps (.agg #[d0, d1])) (hy : ArIn m 0 w y (.agg #[f0, f1])) (hcap2 : Caps (.agg #[f0, f1])) :
    Calls Try.prog 7 #[.agg #[d0, d1], .agg #[f0, f1]] w fun e w' => e = .returned (.bool true) ∧ Below w.heap.size w w' := by
  obtain ⟨k, hk1, hk2⟩ : ∃ k, n ≤ k + 1 ∧ m ≤ k + 1 := ⟨n + m, by omega, by omega⟩
  replace hx := hx.deep hk1
  replace hy := hy.deep hk2
  clear hk1 hk2 hcap hcap2
  generalize k = n at *
  have hx' := hx
  obtain ⟨a1, c1, a2, c2, hv, -⟩ := hx'
  simp only [Value.agg.injEq, Array.mk.injEq, List.cons.injEq, and_true] at hv
  obtain ⟨rfl, rfl⟩ := hv
  have hy' := hy
  obtain ⟨b1', g1, b2', g2, hv, -⟩ := hy'
  simp only [Value.agg.injEq, Array.mk.injEq, List.cons.injEq, and_true] at hv
  obtain ⟨rfl, rfl⟩ := hv
  obtain ⟨_, _, x3, _, hvx, -, hcX⟩ := hx.form
  obtain ⟨_, _, y3, _, hvy, -, hcY⟩ := hy.form
  simp only [Value.agg.injEq, Array.mk.injEq, List.cons.injEq, Value.slice.injEq, and_true] at hvx hvy
  rw [← hvx.2.1] at hcX
  rw [← hvy.2.1] at hcY
  clear hvx hvy
  obtain ⟨abX, cbX, hfX⟩ := cells_fn hcX
  obtain ⟨abY, cbY, hfY⟩ := cells_fn hcY
  have HFX := hide hfX
  have HFY := hide hfY
  clear hfX hfY hcX hcY
  have HX : Hid (∀ W, Below w.heap.size w W → ArIn (n + 1) 0 W x (.agg #[.slice a1 x.shape.length c1, .slice a2 x.cells.length c2])) := fun W h => hx.next h
  have HY : Hid (∀ W, Below w.heap.size w W → ArIn (n + 1) 0 W y (.agg #[.slice b1' y.shape.length g1, .slice b2' y.cells.length g2])) := fun W h => hy.next h
  obtain ⟨SA, hSA⟩ : ∃ SA, x.shape.length = SA := ⟨_, rfl⟩
  obtain ⟨CA, hCA⟩ : ∃ CA, x.cells.length = CA := ⟨_, rfl⟩
  obtain ⟨SB, hSB⟩ : ∃ SB, y.shape.length = SB := ⟨_, rfl⟩
  obtain ⟨CB, hCB⟩ : ∃ CB, y.cells.length = CB := ⟨_, rfl⟩
  simp only [hSA, hCA, hSB, hCB] at hx hy HX HY HFX HFY ⊢
  have HLN := hide (And.intro hSA (And.intro hCA (And.intro hSB hCB)))
  clear hSA hCA hSB hCB
  obtain ⟨W1, e1⟩ : ∃ W1, (w.alloc (.cells #[.slice a1 SA c1, .slice a2 CA c2] 25)).alloc (.cells #[.slice b1' SB g1, .slice b2' CB g2] 25) = W1 := ⟨_, rfl⟩
  have b1 : Below w.heap.size w W1 := by rw [← e1]; exact two_allocs _ _ _
  have z1 : W1.heap.size = w.heap.size + 2 := by rw [← e1]; simp
  have q0 : W1.cell? ⟨w.heap.size, 0, none⟩ = some (.slice a1 SA c1) := by rw [← e1]; exact cell_new1 w _ 25 (0, 0) _ 0 _ rfl
  have q1 : W1.cell? ⟨w.heap.size, 1, none⟩ = some (.slice a2 CA c2) := by rw [← e1]; exact cell_new1 w _ 25 (0, 0) _ 1 _ rfl
  have q2 : W1.cell? ⟨w.heap.size + 1, 0, none⟩ = some (.slice b1' SB g1) := by rw [← e1]; exact cell_new2 w _ 25 (0, 0) _ 0 _ rfl
  have q3 : W1.cell? ⟨w.heap.size + 1, 1, none⟩ = some (.slice b2' CB g2) := by rw [← e1]; exact cell_new2 w _ 25 (0, 0) _ 1 _ rfl
  have HQ : Hid (∀ W, Below W1.heap.size W1 W → Below w.heap.size w W ∧ W.cell? ⟨w.heap.size, 0, none⟩ = some (.slice a1 SA c1) ∧ W.cell? ⟨w.heap.size, 1, none⟩ = some (.slice a2 CA c2) ∧ W.cell? ⟨w.heap.size + 1, 0, none⟩ = some (.slice b1' SB g1) ∧ W.cell? ⟨w.heap.size + 1, 1, none⟩ = some (.slice b2' CB g2)) := fun W h => ⟨b1.trans (h.mono b1.size), (h.cell (p := ⟨w.heap.size, 0, none⟩) (by show w.heap.size < _; omega)).trans q0, (h.cell (p := ⟨w.heap.size, 1, none⟩) (by show w.heap.size < _; omega)).trans q1, (h.cell (p := ⟨w.heap.size + 1, 0, none⟩) (by show w.heap.size + 1 < _; omega)).trans q2, (h.cell (p := ⟨w.heap.size + 1, 1, none⟩) (by show w.heap.size + 1 < _; omega)).trans q3⟩
  have HW : Hid (∀ W, Below W1.heap.size W1 W → Calls Try.prog 9 #[] W fun e w' => e = .returned (.bool true) ∧ Below w.heap.size w w') := fun W h => (sworks_any W).mono fun e w' ⟨he, hw⟩ => ⟨he, (HQ.out W h).1.trans (hw.mono (HQ.out W h).1.size)⟩
  have C0 := slight_any (HX.out _ b1)
  clear hx hy b1 z1
  go_enter Try.func7, Try.ntmps7
  go_wp2_with fail
  clear e1
  refine C0.mono ?_
  clear C0 q0 q1 q2 q3
  rintro e w2 ⟨⟨r, rfl⟩, hb2⟩
  have HB2 := hide hb2
  have CW := HW.out w2 hb2
  obtain ⟨n2, t0, t1, t2, t3⟩ := HQ.out w2 hb2
  have C1 := slight_any (HY.out _ n2)
  clear hb2 n2
  cases r with
  | false =>
    clear C1
    go_wp2_with fail
    refine CW.mono ?_
    rintro e w9 ⟨rfl, hb9⟩
    have HF := hide hb9
    clear hb9 CW
    go_wp2
    go_ret
    exact ⟨rfl, HF.out⟩
  | true =>
  clear CW
  go_wp2_with fail
  refine C1.mono ?_
  clear C1 t0 t1 t2 t3
  rintro e w3 ⟨⟨r, rfl⟩, hb3⟩
  have hb3' : Below W1.heap.size W1 w3 := HB2.out.trans (hb3.mono HB2.out.size)
  have CW := HW.out w3 hb3'
  obtain ⟨n3, t0, t1, t2, t3⟩ := HQ.out w3 hb3'
  have HB3 := hide hb3'
  have C2 := rcheck_any (n + 1) x _ _ w3 (HX.out _ n3)
  clear hb3 hb3' n3 HB2
  cases r with
  | false =>
    clear C2
    go_wp2_with fail
    refine CW.mono ?_
    rintro e w9 ⟨rfl, hb9⟩
    have HF := hide hb9
    clear hb9 CW
    go_wp2
    go_ret
    exact ⟨rfl, HF.out⟩
  | true =>
  clear CW
  obtain ⟨E, hE⟩ : ∃ E, chkA 8 x = E := ⟨_, rfl⟩
  rw [hE] at C2
  go_wp2_with fail
  refine C2.mono ?_
  clear C2 t0 t1 t2 t3
  rintro e w4 ⟨rfl, hb4⟩
  have hb4' : Below W1.heap.size W1 w4 := HB3.out.trans (hb4.mono HB3.out.size)
  have CW := HW.out w4 hb4'
  obtain ⟨n4, t0, t1, t2, t3⟩ := HQ.out w4 hb4'
  have HB4 := hide hb4'
  have C3 := rcheck_any (n + 1) y _ _ w4 (HY.out _ n4)
  clear hb4 hb4' n4 HB3
  by_cases hE0 : E = 0
  case neg =>
    have hEb : (E != 0) = true := by simp; exact hE0
    clear C3 hE
    go_wp2_with fail
    refine CW.mono ?_
    rintro e w9 ⟨rfl, hb9⟩
    have HF := hide hb9
    clear hb9 CW
    go_wp2
    go_ret
    exact ⟨rfl, HF.out⟩
  subst hE0
  clear CW
  obtain ⟨E, hE2⟩ : ∃ E, chkA 8 y = E := ⟨_, rfl⟩
  rw [hE2] at C3
  have HE := hide hE
  clear hE
  go_wp2_with fail
  refine C3.mono ?_
  clear C3
  rintro e w5 ⟨rfl, hb5⟩
  have hb5' : Below W1.heap.size W1 w5 := HB4.out.trans (hb5.mono HB4.out.size)
  have CW := HW.out w5 hb5'
  clear t0 t1 t2 t3
  obtain ⟨n5, t0, t1, t2, t3⟩ := HQ.out w5 hb5'
  have HB5 := hide hb5'
  have HN5 := hide n5
  clear hb5 hb5' n5 HB4
  by_cases hE0 : E = 0
  case neg =>
    have hEb : (E != 0) = true := by simp; exact hE0
    clear hE2
    go_wp2_with fail
    refine CW.mono ?_
    rintro e w9 ⟨rfl, hb9⟩
    have HF := hide hb9
    clear hb9 CW
    go_wp2
    go_ret
    exact ⟨rfl, HF.out⟩
  subst hE0
  have HE2 := hide hE2
  clear hE2
  by_cases hS1 : SA = 1
  case neg =>
    have hSb : ((SA : Int) != 1) = true := by simp; omega
    go_wp2_with fail
    refine CW.mono ?_
    rintro e w9 ⟨rfl, hb9⟩
    have HF := hide hb9
    clear hb9 CW
    go_wp2
    go_ret
    exact ⟨rfl, HF.out⟩
  subst hS1
  clear CW
  have hl := HLN.out
  have hSK : seekD n 48 x y = (.mk y.shape (numCs 0 ((List.range CB).map fun i => (plcC n x.cells (cAt y.cells i) : Int))), 0) := by
    unfold seekD seekR fndR
    rw [if_neg (by rw [HE.out]; simp), if_neg (by rw [HE2.out]; simp), if_pos rfl, if_neg (by rw [hl.1]; simp), hl.2.2.2]
  have hSM : seekD n 49 y x = (.mk y.shape (numCs 0 ((List.range CB).map fun i => memC n x.cells (cAt y.cells i))), 0) := by
    unfold seekD seekR amgR
    rw [if_neg (by rw [HE2.out]; simp), if_neg (by rw [HE.out]; simp), if_neg (by decide), if_pos rfl, hl.2.2.2]
  have C4 := sdy_any (op := 48) (HX.out _ HN5.out) (HY.out _ HN5.out)
  rw [hSK] at C4
  simp only at C4
  have HDM : Hid (∀ W, Below w.heap.size w W → Calls Try.prog 10 #[.int .i64 49, .agg #[.slice b1' SB g1, .slice b2' CB g2], .agg #[.slice a1 1 c1, .slice a2 CA c2]] W fun e w' => GivesD (n + 1) (.mk y.shape (numCs 0 ((List.range CB).map fun i => memC n x.cells (cAt y.cells i)))) 0 W e w') := fun W h => by
    have := sdy_any (op := 49) (HY.out _ h) (HX.out _ h)
    rw [hSM] at this
    exact this
  have h16 := (chk_len HE.out).2
  have h16' := (chk_len HE2.out).2
  rw [hl.2.1] at h16
  rw [hl.2.2.2] at h16'
  obtain ⟨P, hP⟩ : ∃ P : Nat → Nat, (fun i => plcC n x.cells (cAt y.cells i)) = P := ⟨_, rfl⟩
  have hPi : ∀ i, plcC n x.cells (cAt y.cells i) = P i := fun i => by rw [← hP]
  have HPM : Hid (∀ i, memC n x.cells (cAt y.cells i) = if P i < CA then 1 else 0) := fun i => by unfold memC; rw [hPi, hl.2.1]
  have HPS : Hid (∀ i, P i ≤ CA ∧ (∀ t, t < P i → cmpC (cmpA n) (cAt x.cells t) (cAt y.cells i) ≠ 0) ∧ (P i < CA → cmpC (cmpA n) (cAt x.cells (P i)) (cAt y.cells i) = 0)) := fun i => by
    rw [← hPi i, ← hl.2.1]
    unfold plcC
    exact ⟨fstZ_le _ _, (fstZ_spec _ _).1, (fstZ_spec _ _).2⟩
  simp only [hPi] at C4
  have hll : ((List.range CB).map fun i => ((P i : Nat) : Int)).length = CB := by simp
  have hll2 : ((List.range CB).map fun i => memC n x.cells (cAt y.cells i)).length = CB := by simp
  have HCL : Hid (∀ W, Below w.heap.size w W → ∀ s i, s < CA → i < CB → ∃ bx fx by' fy, a2 = some ⟨bx, fx, none⟩ ∧ b2' = some ⟨by', fy, none⟩ ∧ (∀ V, Below w.heap.size w V → V.cell? ⟨bx, fx + s * 3, none⟩ = some (.int .i64 (cAt x.cells s).1) ∧ V.cell? ⟨bx, fx + s * 3 + 1, none⟩ = some (.int .i64 (cAt x.cells s).2.1) ∧ V.cell? ⟨bx, fx + s * 3 + 2, none⟩ = some (.slice (abX s) (cAt x.cells s).2.2.length (cbX s)) ∧ V.cell? ⟨by', fy + i * 3, none⟩ = some (.int .i64 (cAt y.cells i).1) ∧ V.cell? ⟨by', fy + i * 3 + 1, none⟩ = some (.int .i64 (cAt y.cells i).2.1) ∧ V.cell? ⟨by', fy + i * 3 + 2, none⟩ = some (.slice (abY i) (cAt y.cells i).2.2.length (cbY i))) ∧ Calls Try.prog 21 #[.agg #[.int .i64 (cAt x.cells s).1, .int .i64 (cAt x.cells s).2.1, .slice (abX s) (cAt x.cells s).2.2.length (cbX s)], .agg #[.int .i64 (cAt y.cells i).1, .int .i64 (cAt y.cells i).2.1, .slice (abY i) (cAt y.cells i).2.2.length (cbY i)]] W fun e w' => e = .returned (.int .i64 (cmpC (cmpA n) (cAt x.cells s) (cAt y.cells i))) ∧ Below W.heap.size W w') := fun W hW s i hs hi => by
    obtain ⟨bx, fx, ha, -, hbx, hcx⟩ := HFX.out (by omega)
    obtain ⟨by', fy, hb, -, hby, hcy⟩ := HFY.out (by omega)
    obtain ⟨x0, x1, x2, hXc⟩ := hcx s hs
    obtain ⟨y0, y1, y2, hYc⟩ := hcy i hi
    refine ⟨bx, fx, by', fy, ha, hb, fun V hV => ⟨(hV.cell (p := ⟨bx, fx + s * 3, none⟩) hbx).trans x0, (hV.cell (p := ⟨bx, fx + s * 3 + 1, none⟩) hbx).trans x1, (hV.cell (p := ⟨bx, fx + s * 3 + 2, none⟩) hbx).trans x2, (hV.cell (p := ⟨by', fy + i * 3, none⟩) hby).trans y0, (hV.cell (p := ⟨by', fy + i * 3 + 1, none⟩) hby).trans y1, (hV.cell (p := ⟨by', fy + i * 3 + 2, none⟩) hby).trans y2⟩, ?_⟩
    exact rcell_any n (rcmp_any n) (cAt x.cells s) (cAt y.cells i) 0 0 W _ _ _ _ _ _ (hXc.mono (Nat.le_refl _) hW fun x v h => h.next hW) (hYc.mono (Nat.le_refl _) hW fun x v h => h.next hW)
  clear hSK hSM hP hPi hl HFX HFY HN5 HX HY
  go_wp2_with fail
  refine C4.mono ?_
  clear C4 t0 t1 t2 t3
  rintro e w6 ⟨⟨v6, rfl, -, hv6⟩, hb6⟩
  obtain ⟨u1, k1, u2, k2, rfl, -, -⟩ := hv6.form
  have hc6 : (Ar.mk y.shape (numCs 0 ((List.range CB).map fun i => ((P i : Nat) : Int)))).cells.length = CB := by show (numCs 0 _).length = CB; rw [numCs_len, hll]
  simp only [hc6] at hv6 ⊢
  generalize (Ar.mk y.shape (numCs 0 ((List.range CB).map fun i => ((P i : Nat) : Int)))).shape.length = S6 at *
  obtain ⟨B5, hB5⟩ : ∃ B5, w6.heap.size = B5 := ⟨_, rfl⟩
  obtain ⟨W7, e7⟩ : ∃ W7, w6.alloc (.cells #[.slice u1 S6 k1, .slice u2 CB k2] 25) = W7 := ⟨_, rfl⟩
  have b67 : Below w6.heap.size w6 W7 := by rw [← e7]; exact one_alloc _ _
  have z7 : B5 < W7.heap.size := by rw [← e7, ← hB5]; simp
  have r1 : W7.cell? ⟨B5, 1, none⟩ = some (.slice u2 CB k2) := by rw [← e7, ← hB5]; exact cell_new0 w6 _ 25 1 _ rfl
  have hb17 : Below W1.heap.size W1 W7 := (HB5.out.trans (hb6.mono HB5.out.size)).trans (b67.mono (Nat.le_trans HB5.out.size hb6.size))
  have HV7 : Hid (∀ W, Below W7.heap.size W7 W → W.cell? ⟨B5, 1, none⟩ = some (.slice u2 CB k2) ∧ ∀ i, i < CB → ∃ b off, u2 = some ⟨b, off, none⟩ ∧ W.cell? ⟨b, off + i * 3 + 1, none⟩ = some (.int .i64 ((P i : Nat) : Int))) := fun W h => ⟨(h.cell (p := ⟨B5, 1, none⟩) z7).trans r1, fun i hi => by
    obtain ⟨b, off, hu, hb, hcl⟩ := num_at hv6 i (by rw [hll]; exact hi)
    refine ⟨b, off, hu, ((b67.trans (h.mono b67.size)).cell (p := ⟨b, off + i * 3 + 1, none⟩) hb).trans (hcl.trans ?_)⟩
    simp [hi]⟩
  obtain ⟨n7, t0, t1, t2, t3⟩ := HQ.out W7 hb17
  have C5 := HDM.out W7 n7
  have HB7 := hide hb17
  have HE7 := hide (And.intro e7 hB5)
  clear hv6 hb6 hc6 e7 hB5 b67 z7 r1 hb17 n7 HDM HB5
  go_upto_region 4 with fail
  rw [HE7.out.1, HE7.out.2]
  clear HE7
  go_wp2_with fail
  refine C5.mono ?_
  clear C5 t0 t1 t2 t3
  rintro e w8 ⟨⟨v8, rfl, -, hv8⟩, hb8⟩
  obtain ⟨p1, j1, p2, j2, rfl, -, -⟩ := hv8.form
  have hc8 : (Ar.mk y.shape (numCs 0 ((List.range CB).map fun i => memC n x.cells (cAt y.cells i)))).cells.length = CB := by show (numCs 0 _).length = CB; rw [numCs_len, hll2]
  simp only [hc8] at hv8 ⊢
  generalize (Ar.mk y.shape (numCs 0 ((List.range CB).map fun i => memC n x.cells (cAt y.cells i)))).shape.length = S8 at *
  obtain ⟨B7, hB7⟩ : ∃ B7, w8.heap.size = B7 := ⟨_, rfl⟩
  obtain ⟨W9, e9⟩ : ∃ W9, w8.alloc (.cells #[.slice p1 S8 j1, .slice p2 CB j2] 25) = W9 := ⟨_, rfl⟩
  have b89 : Below w8.heap.size w8 W9 := by rw [← e9]; exact one_alloc _ _
  have z9 : B7 < W9.heap.size := by rw [← e9, ← hB7]; simp
  have r1 : W9.cell? ⟨B7, 1, none⟩ = some (.slice p2 CB j2) := by rw [← e9, ← hB7]; exact cell_new0 w8 _ 25 1 _ rfl
  have hb79 : Below W7.heap.size W7 W9 := hb8.trans (b89.mono hb8.size)
  have hb19 : Below W1.heap.size W1 W9 := HB7.out.trans (hb79.mono HB7.out.size)
  have HV9 : Hid (∀ W, Below W9.heap.size W9 W → (Below w.heap.size w W ∧ Below W1.heap.size W1 W) ∧ (W.cell? ⟨w.heap.size, 1, none⟩ = some (.slice a2 CA c2) ∧ W.cell? ⟨w.heap.size + 1, 1, none⟩ = some (.slice b2' CB g2)) ∧ W.cell? ⟨B5, 1, none⟩ = some (.slice u2 CB k2) ∧ W.cell? ⟨B7, 1, none⟩ = some (.slice p2 CB j2) ∧ (∀ i, i < CB → ∃ b off, u2 = some ⟨b, off, none⟩ ∧ W.cell? ⟨b, off + i * 3 + 1, none⟩ = some (.int .i64 ((P i : Nat) : Int))) ∧ ∀ i, i < CB → ∃ b off, p2 = some ⟨b, off, none⟩ ∧ W.cell? ⟨b, off + i * 3 + 1, none⟩ = some (.int .i64 (if P i < CA then 1 else 0))) := fun W h => by
    have h1 := hb19.trans (h.mono hb19.size)
    have hq := HQ.out W h1
    have h7 := HV7.out W (hb79.trans (h.mono hb79.size))
    refine ⟨⟨hq.1, h1⟩, ⟨hq.2.2.1, hq.2.2.2.2⟩, h7.1, (h.cell (p := ⟨B7, 1, none⟩) z9).trans r1, h7.2, fun i hi => ?_⟩
    obtain ⟨b, off, hu, hb, hcl⟩ := num_at hv8 i (by rw [hll2]; exact hi)
    refine ⟨b, off, hu, ((b89.trans (h.mono b89.size)).cell (p := ⟨b, off + i * 3 + 1, none⟩) hb).trans (hcl.trans ?_)⟩
    rw [← HPM.out]
    simp [hi]
  obtain ⟨-, ⟨t1, t3⟩, r5, r7, -, -⟩ := HV9.out W9 (Below.refl _ _)
  have HE9 := hide (And.intro e9 hB7)
  clear hv8 hb8 hc8 e9 hB7 b89 z9 r1 hb79 hb19 HV7 HB7 hll hll2 HPM
  go_upto_region 5 with fail
  rw [HE9.out.1, HE9.out.2]
  clear HE9
  go_wp2
  clear t1 t3 r5 r7
  go_loopg [9] CB (fun gg iv wr => ∃ i : Nat, gg + i = CB ∧ iv = .int .i64 (i : Int) ∧ Below W9.heap.size W9 wr)
  case atStart => exact ⟨0, rfl, rfl, Below.refl _ _⟩
  case round =>
    obtain ⟨i, hg, rfl, hbr⟩ := hrel
    obtain ⟨wo, hwo⟩ : ∃ wo, wo = wr := ⟨_, rfl⟩
    subst hwo
    have HBR := hide hbr
    obtain ⟨⟨bw, bw1⟩, ⟨t1, t3⟩, r5, r7, hX, hY⟩ := HV9.out wo hbr
    have HBW := hide (And.intro bw bw1)
    by_cases hlt : i < CB
    · have hltz : (i : Int) < (CB : Int) := by omega
      obtain ⟨bx, fx, rfl, cx⟩ := hX i hlt
      obtain ⟨bz, fz, rfl, cz⟩ := hY i hlt
      obtain ⟨k, hk⟩ : ∃ k, P i = k := ⟨_, rfl⟩
      have hps := HPS.out i
      rw [hk] at cx cz hps
      obtain ⟨hkA, hkn, hk0⟩ := hps
      have HKN := hide hkn
      have HK0 := hide hk0
      have hkz : ¬ (k : Int) < 0 := by omega
      have hkz2 : ¬ (CA : Int) < (k : Int) := by omega
      have HL11 : Hid (∀ m : Nat, Below W9.heap.size W9 (wo.drewN m)) := fun m => drewN_below hbr m
      clear hX hY hbr bw bw1 hkn hk0 hk HPS
      by_cases hkl : k < CA
      · rw [if_pos hkl] at cz
        have hklz : (k : Int) < (CA : Int) := by omega
        go_upto_region 11 with fail
        go_cut [109] from 86 to 109 (fun s wx => s = .bool false ∧ Below W9.heap.size W9 wx)
        case first =>
          go_quiet (fail)
          all_goals
            go_wp2
            go_meet
          all_goals
            case rel => exact ⟨rfl, HL11.out _⟩
        case rest =>
          obtain ⟨rfl, hbc⟩ := hcut
          have HBC := hide hbc
          clear hbc t1 t3 r5 r7 cx cz
          go_wp2
          go_loopg [11] k (fun gg jv wr => ∃ t : Nat, gg + t = k ∧ jv = .int .i64 (t : Int) ∧ Below W9.heap.size W9 wr)
          case atStart => exact ⟨0, rfl, rfl, HBC.out⟩
          case round =>
            clear HL11 HBR HBW HBC
            obtain ⟨t, hgt, rfl, hbt⟩ := hrel
            have HBT := hide hbt
            obtain ⟨⟨bw, bw1⟩, ⟨t1, t3⟩, r5, r7, -, -⟩ := HV9.out wr hbt
            by_cases hlt2 : t < k
            · have hltz2 : (t : Int) < (k : Int) := by omega
              have hltA : (t : Int) < (CA : Int) := by omega
              have hne := HKN.out t hlt2
              have hsA : t < CA := by omega
              obtain ⟨bx', fx', by', fy', rfl, rfl, hcs, -⟩ := HCL.out wr bw t i hsA hlt
              have HCC : Hid (∀ W, Below wr.heap.size wr W → Calls Try.prog 21 #[.agg #[.int .i64 (cAt x.cells t).1, .int .i64 (cAt x.cells t).2.1, .slice (abX t) (cAt x.cells t).2.2.length (cbX t)], .agg #[.int .i64 (cAt y.cells i).1, .int .i64 (cAt y.cells i).2.1, .slice (abY i) (cAt y.cells i).2.2.length (cbY i)]] W fun e w' => e = .returned (.int .i64 (cmpC (cmpA n) (cAt x.cells t) (cAt y.cells i))) ∧ Below wr.heap.size wr w') := fun W h => by
                obtain ⟨_, _, _, _, -, -, -, hC⟩ := HCL.out W (bw.trans (h.mono bw.size)) t i hsA hlt
                exact hC.mono fun e w' ⟨he, hw⟩ => ⟨he, h.trans (hw.mono h.size)⟩
              have KS : Hid (∀ W, Below wr.heap.size wr W → Below wr.heap.size wr W ∧ W.cell? ⟨w.heap.size, 1, none⟩ = some (.slice (some ⟨bx', fx', none⟩) CA c2) ∧ W.cell? ⟨w.heap.size + 1, 1, none⟩ = some (.slice (some ⟨by', fy', none⟩) CB g2) ∧ W.cell? ⟨bx', fx' + t * 3, none⟩ = some (.int .i64 (cAt x.cells t).1) ∧ W.cell? ⟨bx', fx' + t * 3 + 1, none⟩ = some (.int .i64 (cAt x.cells t).2.1) ∧ W.cell? ⟨bx', fx' + t * 3 + 2, none⟩ = some (.slice (abX t) (cAt x.cells t).2.2.length (cbX t)) ∧ W.cell? ⟨by', fy' + i * 3, none⟩ = some (.int .i64 (cAt y.cells i).1) ∧ W.cell? ⟨by', fy' + i * 3 + 1, none⟩ = some (.int .i64 (cAt y.cells i).2.1) ∧ W.cell? ⟨by', fy' + i * 3 + 2, none⟩ = some (.slice (abY i) (cAt y.cells i).2.2.length (cbY i))) := fun W h => by
                obtain ⟨-, ⟨k1', k3'⟩, -⟩ := HV9.out W (HBT.out.trans (h.mono HBT.out.size))
                exact ⟨h, k1', k3', hcs W (bw.trans (h.mono bw.size))⟩
              have hd0 : Below wr.heap.size wr wr.drew := (Below.refl _ _).drew
              obtain ⟨rr, hrr⟩ : ∃ r, cmpC (cmpA n) (cAt x.cells t) (cAt y.cells i) = r := ⟨_, rfl⟩
              rw [hrr] at HCC hne
              generalize (cAt x.cells t).1 = ca at *
              generalize (cAt x.cells t).2.1 = cb' at *
              generalize (cAt x.cells t).2.2.length = cc at *
              generalize (cAt y.cells i).1 = da at *
              generalize (cAt y.cells i).2.1 = db at *
              generalize (cAt y.cells i).2.2.length = dc at *
              generalize abX t = ax at *
              generalize cbX t = kx at *
              generalize abY i = ay at *
              generalize cbY i = ky at *
              have hrb : (rr == 0) = false := by simp; exact hne
              clear hcs bw bw1 hrr hbt HCL HK0 HKN
              go_upto_region 16 with fail
              clear t1 t3 r5 r7
              go_region_held3 (fun W => Below wr.heap.size wr W ∧ W.cell? ⟨w.heap.size, 1, none⟩ = some (.slice (some ⟨bx', fx', none⟩) CA c2) ∧ W.cell? ⟨w.heap.size + 1, 1, none⟩ = some (.slice (some ⟨by', fy', none⟩) CB g2) ∧ W.cell? ⟨bx', fx' + t * 3, none⟩ = some (.int .i64 ca) ∧ W.cell? ⟨bx', fx' + t * 3 + 1, none⟩ = some (.int .i64 cb') ∧ W.cell? ⟨bx', fx' + t * 3 + 2, none⟩ = some (.slice ax cc kx) ∧ W.cell? ⟨by', fy' + i * 3, none⟩ = some (.int .i64 da) ∧ W.cell? ⟨by', fy' + i * 3 + 1, none⟩ = some (.int .i64 db) ∧ W.cell? ⟨by', fy' + i * 3 + 2, none⟩ = some (.slice ay dc ky))
                (first | with_reducible exact KS.out _ (by with_reducible assumption))
                (first | (go_at_call 21; refine (HCC.out _ (by with_reducible assumption)).mono ?_; rintro e w6 ⟨rfl, hb6⟩))
              all_goals
                have HN6 := hide (HBT.out.trans (hb6.mono HBT.out.size))
                clear hb6
                go_wp2
                go_roundg (k - (t + 1))
                case rel => exact ⟨t + 1, by omega, by go_num, HN6.out⟩
                case measure => omega
            · have hte : t = k := by omega
              subst hte
              have hne := HK0.out hkl
              have hsA : t < CA := by omega
              obtain ⟨bx', fx', by', fy', rfl, rfl, hcs, -⟩ := HCL.out wr bw t i hsA hlt
              have HCC : Hid (∀ W, Below wr.heap.size wr W → Calls Try.prog 21 #[.agg #[.int .i64 (cAt x.cells t).1, .int .i64 (cAt x.cells t).2.1, .slice (abX t) (cAt x.cells t).2.2.length (cbX t)], .agg #[.int .i64 (cAt y.cells i).1, .int .i64 (cAt y.cells i).2.1, .slice (abY i) (cAt y.cells i).2.2.length (cbY i)]] W fun e w' => e = .returned (.int .i64 (cmpC (cmpA n) (cAt x.cells t) (cAt y.cells i))) ∧ Below wr.heap.size wr w') := fun W h => by
                obtain ⟨_, _, _, _, -, -, -, hC⟩ := HCL.out W (bw.trans (h.mono bw.size)) t i hsA hlt
                exact hC.mono fun e w' ⟨he, hw⟩ => ⟨he, h.trans (hw.mono h.size)⟩
              have KS : Hid (∀ W, Below wr.heap.size wr W → Below wr.heap.size wr W ∧ W.cell? ⟨w.heap.size, 1, none⟩ = some (.slice (some ⟨bx', fx', none⟩) CA c2) ∧ W.cell? ⟨w.heap.size + 1, 1, none⟩ = some (.slice (some ⟨by', fy', none⟩) CB g2) ∧ W.cell? ⟨bx', fx' + t * 3, none⟩ = some (.int .i64 (cAt x.cells t).1) ∧ W.cell? ⟨bx', fx' + t * 3 + 1, none⟩ = some (.int .i64 (cAt x.cells t).2.1) ∧ W.cell? ⟨bx', fx' + t * 3 + 2, none⟩ = some (.slice (abX t) (cAt x.cells t).2.2.length (cbX t)) ∧ W.cell? ⟨by', fy' + i * 3, none⟩ = some (.int .i64 (cAt y.cells i).1) ∧ W.cell? ⟨by', fy' + i * 3 + 1, none⟩ = some (.int .i64 (cAt y.cells i).2.1) ∧ W.cell? ⟨by', fy' + i * 3 + 2, none⟩ = some (.slice (abY i) (cAt y.cells i).2.2.length (cbY i))) := fun W h => by
                obtain ⟨-, ⟨k1', k3'⟩, -⟩ := HV9.out W (HBT.out.trans (h.mono HBT.out.size))
                exact ⟨h, k1', k3', hcs W (bw.trans (h.mono bw.size))⟩
              have hd0 : Below wr.heap.size wr wr.drew := (Below.refl _ _).drew
              obtain ⟨rr, hrr⟩ : ∃ r, cmpC (cmpA n) (cAt x.cells t) (cAt y.cells i) = r := ⟨_, rfl⟩
              rw [hrr] at HCC hne
              generalize (cAt x.cells t).1 = ca at *
              generalize (cAt x.cells t).2.1 = cb' at *
              generalize (cAt x.cells t).2.2.length = cc at *
              generalize (cAt y.cells i).1 = da at *
              generalize (cAt y.cells i).2.1 = db at *
              generalize (cAt y.cells i).2.2.length = dc at *
              generalize abX t = ax at *
              generalize cbX t = kx at *
              generalize abY i = ay at *
              generalize cbY i = ky at *
              subst hne
              clear hcs bw bw1 hrr hbt HCL HKN HK0
              go_upto_region 18 with fail
              clear t1 t3 r5 r7
              go_region_held3 (fun W => Below wr.heap.size wr W ∧ W.cell? ⟨w.heap.size, 1, none⟩ = some (.slice (some ⟨bx', fx', none⟩) CA c2) ∧ W.cell? ⟨w.heap.size + 1, 1, none⟩ = some (.slice (some ⟨by', fy', none⟩) CB g2) ∧ W.cell? ⟨bx', fx' + t * 3, none⟩ = some (.int .i64 ca) ∧ W.cell? ⟨bx', fx' + t * 3 + 1, none⟩ = some (.int .i64 cb') ∧ W.cell? ⟨bx', fx' + t * 3 + 2, none⟩ = some (.slice ax cc kx) ∧ W.cell? ⟨by', fy' + i * 3, none⟩ = some (.int .i64 da) ∧ W.cell? ⟨by', fy' + i * 3 + 1, none⟩ = some (.int .i64 db) ∧ W.cell? ⟨by', fy' + i * 3 + 2, none⟩ = some (.slice ay dc ky))
                (first | with_reducible exact KS.out _ (by with_reducible assumption))
                (first | (go_at_call 21; refine (HCC.out _ (by with_reducible assumption)).mono ?_; rintro e w6 ⟨rfl, hb6⟩))
              all_goals
                have HN6 := hide (HBT.out.trans (hb6.mono HBT.out.size))
                clear hb6
                go_wp2
                go_roundg (CB - (i + 1))
                case rel => exact ⟨i + 1, by omega, by go_num, HN6.out⟩
                case measure => omega
      · rw [if_neg hkl] at cz
        have hklz : ¬ (k : Int) < (CA : Int) := by omega
        go_upto_region 11 with fail
        go_cut [109] from 86 to 109 (fun s wx => s = .bool false ∧ Below W9.heap.size W9 wx)
        case first =>
          go_quiet (fail)
          all_goals
            go_wp2
            go_meet
          all_goals
            case rel => exact ⟨rfl, HL11.out _⟩
        case rest =>
          obtain ⟨rfl, hbc⟩ := hcut
          have HBC := hide hbc
          clear hbc t1 t3 r5 r7 cx cz
          go_wp2
          go_loopg [11] k (fun gg jv wr => ∃ t : Nat, gg + t = k ∧ jv = .int .i64 (t : Int) ∧ Below W9.heap.size W9 wr)
          case atStart => exact ⟨0, rfl, rfl, HBC.out⟩
          case round =>
            clear HL11 HBR HBW HBC
            obtain ⟨t, hgt, rfl, hbt⟩ := hrel
            have HBT := hide hbt
            obtain ⟨⟨bw, bw1⟩, ⟨t1, t3⟩, r5, r7, -, -⟩ := HV9.out wr hbt
            by_cases hlt2 : t < k
            · have hltz2 : (t : Int) < (k : Int) := by omega
              have hltA : (t : Int) < (CA : Int) := by omega
              have hne := HKN.out t hlt2
              have hsA : t < CA := by omega
              obtain ⟨bx', fx', by', fy', rfl, rfl, hcs, -⟩ := HCL.out wr bw t i hsA hlt
              have HCC : Hid (∀ W, Below wr.heap.size wr W → Calls Try.prog 21 #[.agg #[.int .i64 (cAt x.cells t).1, .int .i64 (cAt x.cells t).2.1, .slice (abX t) (cAt x.cells t).2.2.length (cbX t)], .agg #[.int .i64 (cAt y.cells i).1, .int .i64 (cAt y.cells i).2.1, .slice (abY i) (cAt y.cells i).2.2.length (cbY i)]] W fun e w' => e = .returned (.int .i64 (cmpC (cmpA n) (cAt x.cells t) (cAt y.cells i))) ∧ Below wr.heap.size wr w') := fun W h => by
                obtain ⟨_, _, _, _, -, -, -, hC⟩ := HCL.out W (bw.trans (h.mono bw.size)) t i hsA hlt
                exact hC.mono fun e w' ⟨he, hw⟩ => ⟨he, h.trans (hw.mono h.size)⟩
              have KS : Hid (∀ W, Below wr.heap.size wr W → Below wr.heap.size wr W ∧ W.cell? ⟨w.heap.size, 1, none⟩ = some (.slice (some ⟨bx', fx', none⟩) CA c2) ∧ W.cell? ⟨w.heap.size + 1, 1, none⟩ = some (.slice (some ⟨by', fy', none⟩) CB g2) ∧ W.cell? ⟨bx', fx' + t * 3, none⟩ = some (.int .i64 (cAt x.cells t).1) ∧ W.cell? ⟨bx', fx' + t * 3 + 1, none⟩ = some (.int .i64 (cAt x.cells t).2.1) ∧ W.cell? ⟨bx', fx' + t * 3 + 2, none⟩ = some (.slice (abX t) (cAt x.cells t).2.2.length (cbX t)) ∧ W.cell? ⟨by', fy' + i * 3, none⟩ = some (.int .i64 (cAt y.cells i).1) ∧ W.cell? ⟨by', fy' + i * 3 + 1, none⟩ = some (.int .i64 (cAt y.cells i).2.1) ∧ W.cell? ⟨by', fy' + i * 3 + 2, none⟩ = some (.slice (abY i) (cAt y.cells i).2.2.length (cbY i))) := fun W h => by
                obtain ⟨-, ⟨k1', k3'⟩, -⟩ := HV9.out W (HBT.out.trans (h.mono HBT.out.size))
                exact ⟨h, k1', k3', hcs W (bw.trans (h.mono bw.size))⟩
              have hd0 : Below wr.heap.size wr wr.drew := (Below.refl _ _).drew
              obtain ⟨rr, hrr⟩ : ∃ r, cmpC (cmpA n) (cAt x.cells t) (cAt y.cells i) = r := ⟨_, rfl⟩
              rw [hrr] at HCC hne
              generalize (cAt x.cells t).1 = ca at *
              generalize (cAt x.cells t).2.1 = cb' at *
              generalize (cAt x.cells t).2.2.length = cc at *
              generalize (cAt y.cells i).1 = da at *
              generalize (cAt y.cells i).2.1 = db at *
              generalize (cAt y.cells i).2.2.length = dc at *
              generalize abX t = ax at *
              generalize cbX t = kx at *
              generalize abY i = ay at *
              generalize cbY i = ky at *
              have hrb : (rr == 0) = false := by simp; exact hne
              clear hcs bw bw1 hrr hbt HCL HK0 HKN
              go_upto_region 16 with fail
              clear t1 t3 r5 r7
              go_region_held3 (fun W => Below wr.heap.size wr W ∧ W.cell? ⟨w.heap.size, 1, none⟩ = some (.slice (some ⟨bx', fx', none⟩) CA c2) ∧ W.cell? ⟨w.heap.size + 1, 1, none⟩ = some (.slice (some ⟨by', fy', none⟩) CB g2) ∧ W.cell? ⟨bx', fx' + t * 3, none⟩ = some (.int .i64 ca) ∧ W.cell? ⟨bx', fx' + t * 3 + 1, none⟩ = some (.int .i64 cb') ∧ W.cell? ⟨bx', fx' + t * 3 + 2, none⟩ = some (.slice ax cc kx) ∧ W.cell? ⟨by', fy' + i * 3, none⟩ = some (.int .i64 da) ∧ W.cell? ⟨by', fy' + i * 3 + 1, none⟩ = some (.int .i64 db) ∧ W.cell? ⟨by', fy' + i * 3 + 2, none⟩ = some (.slice ay dc ky))
                (first | with_reducible exact KS.out _ (by with_reducible assumption))
                (first | (go_at_call 21; refine (HCC.out _ (by with_reducible assumption)).mono ?_; rintro e w6 ⟨rfl, hb6⟩))
              all_goals
                have HN6 := hide (HBT.out.trans (hb6.mono HBT.out.size))
                clear hb6
                go_wp2
                go_roundg (k - (t + 1))
                case rel => exact ⟨t + 1, by omega, by go_num, HN6.out⟩
                case measure => omega
            · have hte : t = k := by omega
              subst hte
              clear bw bw1 hbt t3 r5 r7
              go_wp2
              go_quiet (fail)
              all_goals
                go_wp2
                go_roundg (CB - (i + 1))
                case rel => exact ⟨i + 1, by omega, by go_num, drewN_below HBT.out _⟩
                case measure => omega
    · have hie : i = CB := by omega
      subst hie
      have CW := HW.out wo HBW.out.2
      clear hX hY hbr bw bw1 r5 r7 t1
      go_wp2_with fail
      refine CW.mono ?_
      rintro e w9 ⟨rfl, hb9⟩
      have HF := hide hb9
      clear hb9 CW
      go_wp2
      go_ret
      exact ⟨rfl, HF.out⟩
set_option maxRecDepth 100000 in
theorem lifted (os : Os) (started : os.Started) (H : Type) (enc : TypeId × Value → H) :
    ReturnsInHanded {} Try.checked os 7 .any (Rows.seekFindsSpec.pre6 enc Try.prog Try.f7 Rows.seekFindsRow.domain false) (Rows.seekFindsSpec.post enc Try.prog Try.f7 false true false false) := by
  refine returnsInHanded_of_change_sized (C := Try.checked) own started (by kernel_rfl) Try.func7
    (ChangeSpec.witness6 (enc := enc) (C := Try.checked) false ⟨#[], #[.agg #[.slice none 0 0, .slice none 0 0], .agg #[.slice none 0 0, .slice none 0 0]], []⟩ 8 (by kernel_rfl) (by kernel_rfl) (by kernel_rfl) (by kernel_rfl)) ?_
  intro W base args ds gs before hval0 hW _ hsz0 _
  have hsz : (DataW.weightsEach Try.prog (Try.f7.params.toList ++ Rows.seekFindsSpec.plain.varTypes Try.prog) (ds ++ gs)).all (· ≤ reachBytes) = true := hsz0
  clear hsz0
  have hval : ∀ (j : Nat) t v, Try.f7.params[j]? = some t → args[j]? = some v → Value.okWide Try.prog W .any base t v := hval0
  have hW' := hW
  obtain ⟨p, q, hA0, hV, rfl, hfz, hnd⟩ := hW
  have hA : DataW.TrodAll enc Try.prog W 0 (fun _ => true) true Try.f7.params.toList args.toList ds p := hA0
  rw [Try.params7] at hA hval hsz
  obtain ⟨v0, vs0, d0, ds0, p0, q0, hargs, rfl, rfl, h0, r0⟩ := trodAll_cons hA
  obtain ⟨v1, vs1, d1, ds1, p1, q1, rfl, rfl, rfl, h1, r1⟩ := trodAll_cons r0
  obtain ⟨rfl, rfl, rfl⟩ := trodAll_nil r1
  obtain rfl : args = #[v0, v1] := by cases args; simp_all
  obtain ⟨rfl, rfl⟩ := trodVars_none hV
  have k0 := h0
  have lt0 : ∀ x ∈ p0, x.block < W.heap.size := by obtain ⟨m, hm⟩ := k0; exact DataW.trod_lt m _ _ _ hm
  obtain ⟨n0, y0, c00, c01, hc0, w0⟩ := arr_of hsz (j := 0) rfl rfl h0
  obtain rfl := agg_two hc0
  have k1 := h1
  have lt1 : ∀ x ∈ p1, x.block < W.heap.size := by obtain ⟨m, hm⟩ := k1; exact DataW.trod_lt m _ _ _ hm
  obtain ⟨n1, y1, c10, c11, hc1, w1⟩ := arr_of hsz (j := 1) rfl rfl h1
  obtain rfl := agg_two hc1
  clear hA0 hval0
  refine (walk n0 y0 c00 c01 n1 y1 c10 c11 W w0.1 (arr_caps h0) w1.1 (arr_caps h1)).mono fun e W' ⟨he, bel⟩ => ?_
  subst he
  exact ⟨_, rfl, _, _, _, [], _, [], hW', trodAll_mk1 (shut_bool Try.underlying4 _), (trodAll_cons_mk (Below.trod laidOut (by kernel_rfl) (of_decide_eq_true (by kernel_rfl)) k0 bel lt0) (trodAll_cons_mk (Below.trod laidOut (by kernel_rfl) (of_decide_eq_true (by kernel_rfl)) k1 bel lt1) trodAll_mk0)), rfl, bel.frame _, fun h => by cases h⟩
theorem over : Rows.seekFindsRow.holds Try.pinned (OpenSpec.ofChange Rows.seekFindsSpec) :=
  OpenClaim.holds_of_wide 7 Try.f7 rfl rfl rfl rfl rfl rfl rfl ⟨rfl, rfl, rfl, rfl, rfl⟩ rfl rfl rfl rfl rfl (by kernel_rfl) Try.func7 (by kernel_rfl)
    (of_decide_eq_true (by kernel_rfl)) (by unfold Func.isWrapper; first | (rw [if_pos (by decide +kernel)]; kernel_rfl) | (rw [if_neg (by decide +kernel)]; exact ⟨rfl, rfl⟩))
    (fun os started H enc _ => lifted os started H enc)
theorem proved : Rows.SeekFindsSaid := over
end Go.Proofs.Ytimkcpbgnoekcaa.seekFinds
namespace Go.Proofs.Ytimkcpbgnoekcaa
theorem seekFinds_holds : Rows.SeekFindsSaid := seekFinds.proved
#print axioms seekFinds_holds
end Go.Proofs.Ytimkcpbgnoekcaa
