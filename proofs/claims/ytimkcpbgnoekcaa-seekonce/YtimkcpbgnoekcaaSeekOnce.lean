/-
  For all arrays the statement SeekOnce holds: of items each once no two are the same, each item is among them, and once more nothing goes; no condition (the given row speaks of what a machine of 64 bits can hold).
-/
import Derived.Test.YtimkcpbgnoekcaaM9
import Derived.Test.YtimkcpbgnoekcaaChecked
import GoSem.Claim
import GoSem.ClaimJoined
import GoSem.ClaimMapViews
import Derived.JoinedTies
import Derived.KernelRfl
import Derived.WalkKit
import Derived.ProofKit
import Derived.Below
import Derived.Deep.OwnRows
import Derived.Deep.QuietTactic
import Derived.BigQuiet
import Derived.Deep.RegionWith
import Derived.Laws.MakeOwn
import Derived.Deep.RegionHeld3
import Derived.Laws.IdiomCopy
import Derived.Deep.Cut
import Derived.Deep.LoopGhost
import Derived.OpenShut
import Derived.ChangeOld
import Derived.SizedLaws
import Derived.Deep.Slices
import Derived.Deep.Strs
import Derived.Laws.AppendOwn
import Derived.BigFrame
import Derived.Deep.CutRange
import Derived.Deep.RegionLaw
import Derived.Laws.OwnMore
import Derived.Lib.SliceRun
import Derived.Laws.CopyOwn
import Derived.Lib.Mul64
import Derived.Lib.Overlaps
import Derived.Laws.EntriesVeiled
namespace Go.Proofs.Ytimkcpbgnoekcaa.seekOnce
open Go.ChangeShapes Go.WideShapes Go.ChangeAt Go.RowKit
set_option linter.unusedVariables false
set_option maxRecDepth 100000
set_option maxHeartbeats 8000000 in
theorem walk (n : Nat) (x : Ar) (d0 d1 : Value) (w : World) (hx : ArIn n 0 w x (.agg #[d0, d1])) (hcap : Caps (.agg #[d0, d1])) :
    Calls Try.prog 6 #[.agg #[d0, d1]] w fun e w' => e = .returned (.bool true) ∧ Below w.heap.size w w' := by
  cases n with
  | zero => exact hx.elim
  | succ n =>
  obtain ⟨a1, c1, a2, c2, hv, -⟩ := hx.form
  simp only [Value.agg.injEq, Array.mk.injEq, List.cons.injEq, and_true] at hv
  obtain ⟨rfl, rfl⟩ := hv
  have HX0 := hide hx
  have HX : Hid (∀ W, Below w.heap.size w W → ArIn (n + 1) 0 W x (.agg #[.slice a1 x.shape.length c1, .slice a2 x.cells.length c2])) := fun W h => hx.next h
  have HCAP := hide hcap
  obtain ⟨SA, hSA⟩ : ∃ SA, x.shape.length = SA := ⟨_, rfl⟩
  obtain ⟨CA, hCA⟩ : ∃ CA, x.cells.length = CA := ⟨_, rfl⟩
  simp only [hSA, hCA] at hx HX HX0 HCAP ⊢
  have HLN := hide (And.intro hSA hCA)
  clear hSA hCA
  obtain ⟨W1, e1⟩ : ∃ W1, w.alloc (.cells #[.slice a1 SA c1, .slice a2 CA c2] 25) = W1 := ⟨_, rfl⟩
  have b1 : Below w.heap.size w W1 := by rw [← e1]; exact one_alloc _ _
  have z1 : W1.heap.size = w.heap.size + 1 := by rw [← e1]; simp
  have q0 : W1.cell? ⟨w.heap.size, 0, none⟩ = some (.slice a1 SA c1) := by rw [← e1]; exact cell_new0 w _ 25 0 _ rfl
  have q1 : W1.cell? ⟨w.heap.size, 1, none⟩ = some (.slice a2 CA c2) := by rw [← e1]; exact cell_new0 w _ 25 1 _ rfl
  have fq : ∀ i, W1.frozen? ⟨w.heap.size, i, none⟩ = false := fun i => by rw [← e1]; exact frozen_new _ _ _ _
  have HQ : Hid (∀ W, Below W1.heap.size W1 W → Below w.heap.size w W ∧ W.cell? ⟨w.heap.size, 0, none⟩ = some (.slice a1 SA c1) ∧ W.cell? ⟨w.heap.size, 1, none⟩ = some (.slice a2 CA c2)) := fun W h => ⟨b1.trans (h.mono b1.size), (h.cell (p := ⟨w.heap.size, 0, none⟩) (by show w.heap.size < _; omega)).trans q0, (h.cell (p := ⟨w.heap.size, 1, none⟩) (by show w.heap.size < _; omega)).trans q1⟩
  have HZ1 := hide (And.intro z1 fq)
  have HW : Hid (∀ W, Below w.heap.size w W → Calls Try.prog 9 #[] W fun e w' => e = .returned (.bool true) ∧ Below w.heap.size w w') := fun W h => (sworks_any W).mono fun e w' ⟨he, hw⟩ => ⟨he, h.trans (hw.mono h.size)⟩
  have C0 := slight_any (HX.out _ b1)
  clear hx hcap b1 z1 fq
  go_enter Try.func6, Try.ntmps6
  go_wp2_with fail
  clear e1
  refine C0.mono ?_
  clear C0 q0 q1
  rintro e w2 ⟨⟨r, rfl⟩, hb2⟩
  have HB2 := hide hb2
  obtain ⟨n2, t0, t1⟩ := HQ.out w2 hb2
  have CW := HW.out w2 n2
  have C1 := narrow_any (HX.out _ n2)
  clear hb2 n2
  cases r with
  | false =>
    clear C1
    go_wp2_with fail
    refine CW.mono ?_
    rintro e w9 ⟨rfl, hb9⟩
    have HF := hide hb9
    clear hb9 CW
    go_wp2
    go_ret
    exact ⟨rfl, HF.out⟩
  | true =>
  clear CW
  go_wp2_with fail
  refine C1.mono ?_
  clear C1 t0 t1
  rintro e w3 ⟨⟨r, rfl⟩, hb3⟩
  have hb3' : Below W1.heap.size W1 w3 := HB2.out.trans (hb3.mono HB2.out.size)
  obtain ⟨n3, t0, t1⟩ := HQ.out w3 hb3'
  have CW := HW.out w3 n3
  have HB3 := hide hb3'
  have C2 := rcheck_any (n + 1) x _ _ w3 (HX.out _ n3)
  clear hb3 hb3' n3 HB2
  cases r with
  | false =>
    clear C2
    go_wp2_with fail
    refine CW.mono ?_
    rintro e w9 ⟨rfl, hb9⟩
    have HF := hide hb9
    clear hb9 CW
    go_wp2
    go_ret
    exact ⟨rfl, HF.out⟩
  | true =>
  clear CW
  obtain ⟨E, hE⟩ : ∃ E, chkA 8 x = E := ⟨_, rfl⟩
  rw [hE] at C2
  go_wp2_with fail
  refine C2.mono ?_
  clear C2 t0 t1
  rintro e w4 ⟨rfl, hb4⟩
  have hb4' : Below W1.heap.size W1 w4 := HB3.out.trans (hb4.mono HB3.out.size)
  obtain ⟨n4, t0, t1⟩ := HQ.out w4 hb4'
  have CW := HW.out w4 n4
  have HB4 := hide (And.intro hb4' n4)
  clear hb4 hb4' n4 HB3
  by_cases hE0 : E = 0
  case neg =>
    have hEb : (E != 0) = true := by simp; exact hE0
    clear hE
    go_wp2_with fail
    refine CW.mono ?_
    rintro e w9 ⟨rfl, hb9⟩
    have HF := hide hb9
    clear hb9 CW
    go_wp2
    go_ret
    exact ⟨rfl, HF.out⟩
  subst hE0
  clear CW
  have HE := hide hE
  clear hE
  obtain ⟨hcy, hyc, hS⟩ := lst_facts HE.out
  have ly8 := (chk_len hcy).1
  have hy16 := (chk_len hcy).2
  have C3 : Calls Try.prog 20 #[.agg #[.slice a1 SA c1, .slice a2 CA c2]] w4 fun e w' => GivesK (n + 1) w (lstA x) w4 e w' := rlisted_any HX0.out HB4.out.2 HCAP.out
  obtain ⟨y, hy⟩ : ∃ y, lstA x = y := ⟨_, rfl⟩
  rw [hy] at C3 hcy hyc hS ly8 hy16
  obtain ⟨wdA, wdB, wdC, wdD, wdE⟩ := wid hcy hS
  have HKY := hide (And.intro hcy (And.intro hS (And.intro ly8 (And.intro hy16 (And.intro wdA (And.intro wdB wdC))))))
  have HOO : Hid (onceR n (onceR n y) = onceR n y) := once_once hcy hS
  have HOC : Hid (chkA 8 (onceR n y) = 0) := onceR_chk (n := n) hcy
  have hOD : onceR n y = itmsA y (mW y) (onceW n y) 0 0 := by unfold onceR; rw [lstA_id hS]
  have HSM : Hid (∀ i k : Nat, i < nW y → k < (onceW n y).length → cmpA (n + 1) (itemAt y i (mW y)) (itemAt (onceR n y) k (mW y)) = byI n y.cells (mW y) (i : Int) (gI (onceW n y) k)) := fun i k hi hk => by
    have hw := onceW_at n y hk
    rw [hOD, item_items hcy hS (fun t ht => onceW_at n y ht) hk, same_byI hcy hS hi (by omega), Int.toNat_of_nonneg hw.1]
  have HCT : Hid (∀ i, i < nW y → (List.range (onceW n y).length).countP (fun k => decide (byI n y.cells (mW y) (i : Int) (gI (onceW n y) k) = 0)) = 1) := fun i hi => once_count hi
  have HIL : Hid (∀ i, i < nW y → i * mW y + mW y ≤ y.cells.length) := fun i hi => (item_len hcy hS hi).1
  obtain ⟨hUm, hUn, hUc, hUs⟩ := items_wid y (onceW n y)
  have hUl : (itmsA y (mW y) (onceW n y) 0 0).shape.length = y.shape.length := by show (List.length (_ :: y.shape.tail)) = _; rw [List.length_cons, List.length_tail]; omega
  have hUt : (itmsA y (mW y) (onceW n y) 0 0).shape.tail = y.shape.tail := rfl
  have hUg : gI (itmsA y (mW y) (onceW n y) 0 0).shape 0 = ((onceW n y).length : Int) := rfl
  rw [← hOD] at hUm hUn hUc hUs hUl hUt hUg
  have hWL : (onceW n y).length ≤ nW y := fstL_len _ _
  have HUU : Hid ((onceR n y).shape.tail = y.shape.tail ∧ gI (onceR n y).shape 0 = ((onceW n y).length : Int) ∧ (onceR n y).cells.length = (onceW n y).length * mW y ∧ 0 < (onceR n y).shape.length) := ⟨hUt, hUg, hUc, hUs⟩
  have hU16 := (chk_len HOC.out).2
  obtain ⟨U, hU⟩ : ∃ U, onceR n y = U := ⟨_, rfl⟩
  obtain ⟨c, hc⟩ : ∃ c, byI n y.cells (mW y) = c := ⟨_, rfl⟩
  obtain ⟨M, hM⟩ : ∃ M, mW y = M := ⟨_, rfl⟩
  obtain ⟨N, hN⟩ : ∃ N, nW y = N := ⟨_, rfl⟩
  obtain ⟨wh, hwh⟩ : ∃ wh, onceW n y = wh := ⟨_, rfl⟩
  obtain ⟨L, hL⟩ : ∃ L, wh.length = L := ⟨_, rfl⟩
  simp only [hU, hc] at HSM HUU HOO HOC hUl hU16 HCT
  simp only [hM, hN, hwh, hL] at HSM HUU HCT HIL HKY hWL wdD
  obtain ⟨SY, hSY⟩ : ∃ SY, y.shape.length = SY := ⟨_, rfl⟩
  obtain ⟨CY, hCY⟩ : ∃ CY, y.cells.length = CY := ⟨_, rfl⟩
  have HSC := hide (And.intro hSY (And.intro hCY (And.intro hUl hU)))
  have hSYz : (0 : Int) < (SY : Int) := by omega
  have hz1 := HZ1.out
  have hs4 := HB4.out.1.size
  have fz : ∀ i, w4.frozen? ⟨w.heap.size, i, none⟩ = false := fun i => (HB4.out.1.frozen (p := ⟨w.heap.size, i, none⟩) (by show w.heap.size < _; omega)).trans (hz1.2 i)
  have HFZ := hide fz
  clear hcy hyc hS ly8 hy16 wdA wdB wdC wdE hOD hUm hUn hUc hUs hUt hUg hM hN hwh hL hc hz1 fz HX0 HX HLN hy
  go_wp2_with fail
  refine C3.mono ?_
  clear C3
  rintro e w5 ⟨⟨v5, rfl, kv5, hv5⟩, hb5⟩
  have n5 : Below w.heap.size w w5 := HB4.out.2.trans (hb5.mono HB4.out.2.size)
  obtain ⟨s1, k1, s2, k2, rfl, -, -⟩ := (hv5 w5 n5 (Keeps.refl _ _)).form
  simp only [hSY, hCY] at hv5 kv5 ⊢
  clear t0 t1
  have hzz := HZ1.out.1
  have q0 := (hb5.cell (p := ⟨w.heap.size, 0, none⟩) (by show w.heap.size < _; omega)).trans (HQ.out w4 HB4.out.1).2.1
  have q1 := (hb5.cell (p := ⟨w.heap.size, 1, none⟩) (by show w.heap.size < _; omega)).trans (HQ.out w4 HB4.out.1).2.2
  have fq0 := (hb5.frozen (p := ⟨w.heap.size, 0, none⟩) (by show w.heap.size < _; omega)).trans (HFZ.out 0)
  have fq1 := (hb5.frozen (p := ⟨w.heap.size, 1, none⟩) (by show w.heap.size < _; omega)).trans (HFZ.out 1)
  obtain ⟨W6, e6⟩ : ∃ W6, (w5.setCell ⟨w.heap.size, 0, none⟩ (.slice s1 SY k1)).setCell ⟨w.heap.size, 1, none⟩ (.slice s2 CY k2) = W6 := ⟨_, rfl⟩
  have st := set_two q0 q1 (.slice s1 SY k1) (.slice s2 CY k2)
  have b6 : Below w.heap.size w W6 := by rw [← e6]; exact (n5.setCell (p := ⟨w.heap.size, 0, none⟩) (Nat.le_refl _) _).setCell (p := ⟨w.heap.size, 1, none⟩) (Nat.le_refl _) _
  have u0 : W6.cell? ⟨w.heap.size, 0, none⟩ = some (.slice s1 SY k1) := by rw [← e6, World.cell?_setCell_other _ _ _ _ (by simp)]; exact st.1
  have u1 : W6.cell? ⟨w.heap.size, 1, none⟩ = some (.slice s2 CY k2) := by rw [← e6]; exact st.2
  have z6 : w.heap.size < W6.heap.size := by rw [← e6]; simp; have := hb5.size; omega
  have k56 : Keeps w4.heap.size w5 W6 := by rw [← e6]; exact ((Keeps.refl _ _).setCell (p := ⟨w.heap.size, 0, none⟩) (by show w.heap.size < _; omega) _).setCell (p := ⟨w.heap.size, 1, none⟩) (by show w.heap.size < _; omega) _
  have KA : Hid (∀ W, Below W6.heap.size W6 W → ArIn (n + 1) 0 W y (.agg #[.slice s1 SY k1, .slice s2 CY k2]) ∧ Below w.heap.size w W ∧ W.cell? ⟨w.heap.size, 0, none⟩ = some (.slice s1 SY k1) ∧ W.cell? ⟨w.heap.size, 1, none⟩ = some (.slice s2 CY k2)) := fun W h => by
    have hb := b6.trans (h.mono b6.size)
    exact ⟨hv5 W hb (k56.trans (keeps_below h)), hb, (h.cell (p := ⟨w.heap.size, 0, none⟩) z6).trans u0, (h.cell (p := ⟨w.heap.size, 1, none⟩) z6).trans u1⟩
  have C4 := smo_14 (op := 0) (KA.out W6 (Below.refl _ _)).1 HKY.out.1 kv5
  rw [hU] at C4
  have HCY := hide kv5
  have HE6 := hide e6
  clear hv5 kv5 hb5 n5 e6 st b6 z6 k56 HFZ HB4 HQ HZ1 hzz hs4
  go_upto_region 4 with fail
  rw [HE6.out]
  clear HE6 q0 q1 fq0 fq1
  go_wp2_with fail
  refine C4.mono ?_
  clear C4 u0 u1
  rintro e w7 ⟨⟨v7, rfl, kv7, hv7⟩, hb7⟩
  obtain ⟨p1, j1, p2, j2, rfl, -, -⟩ := hv7.form
  obtain ⟨CU, hCU⟩ : ∃ CU, U.cells.length = CU := ⟨_, rfl⟩
  have hSU : U.shape.length = SY := by rw [hUl, hSY]
  simp only [hSU, hCU] at hv7 kv7 ⊢
  obtain ⟨B3, hB3⟩ : ∃ B3, w7.heap.size = B3 := ⟨_, rfl⟩
  obtain ⟨W8, e8⟩ : ∃ W8, w7.alloc (.cells #[.slice p1 SY j1, .slice p2 CU j2] 25) = W8 := ⟨_, rfl⟩
  have b78 : Below w7.heap.size w7 W8 := by rw [← e8]; exact one_alloc _ _
  have z8 : B3 < W8.heap.size := by rw [← e8, ← hB3]; simp
  have r0 : W8.cell? ⟨B3, 0, none⟩ = some (.slice p1 SY j1) := by rw [← e8, ← hB3]; exact cell_new0 w7 _ 25 0 _ rfl
  have r1 : W8.cell? ⟨B3, 1, none⟩ = some (.slice p2 CU j2) := by rw [← e8, ← hB3]; exact cell_new0 w7 _ 25 1 _ rfl
  have hb68 : Below W6.heap.size W6 W8 := hb7.trans (b78.mono hb7.size)
  have KB : Hid (∀ W, Below W8.heap.size W8 W → (ArIn (n + 1) 0 W y (.agg #[.slice s1 SY k1, .slice s2 CY k2]) ∧ Below w.heap.size w W ∧ W.cell? ⟨w.heap.size, 0, none⟩ = some (.slice s1 SY k1) ∧ W.cell? ⟨w.heap.size, 1, none⟩ = some (.slice s2 CY k2)) ∧ ArIn (n + 1) 0 W U (.agg #[.slice p1 SY j1, .slice p2 CU j2]) ∧ W.cell? ⟨B3, 0, none⟩ = some (.slice p1 SY j1) ∧ W.cell? ⟨B3, 1, none⟩ = some (.slice p2 CU j2)) := fun W h => ⟨KA.out W (hb68.trans (h.mono hb68.size)), (hv7.mono (Nat.zero_le _) (Below.refl _ _)).next (b78.trans (h.mono b78.size)), (h.cell (p := ⟨B3, 0, none⟩) z8).trans r0, (h.cell (p := ⟨B3, 1, none⟩) z8).trans r1⟩
  have C5 := smo_14 (op := 0) (KB.out W8 (Below.refl _ _)).2.1 HOC.out kv7
  rw [HOO.out] at C5
  have HKU := hide kv7
  have HE8 := hide (And.intro e8 hB3)
  clear hv7 kv7 hb7 e8 hB3 b78 z8 hb68 KA
  go_upto_region 5 with fail
  rw [HE8.out.1, HE8.out.2]
  clear HE8
  go_wp2_with fail
  refine C5.mono ?_
  clear C5 r0 r1
  rintro e w9 ⟨⟨v9, rfl, -, hv9⟩, hb9⟩
  obtain ⟨x1, g1, x2, g2, rfl, -, -⟩ := hv9.form
  simp only [hSU, hCU] at hv9 ⊢
  obtain ⟨B5, hB5⟩ : ∃ B5, w9.heap.size = B5 := ⟨_, rfl⟩
  obtain ⟨W10, e10⟩ : ∃ W10, w9.alloc (.cells #[.slice x1 SY g1, .slice x2 CU g2] 25) = W10 := ⟨_, rfl⟩
  have b910 : Below w9.heap.size w9 W10 := by rw [← e10]; exact one_alloc _ _
  have o0 : W10.cell? ⟨B5, 0, none⟩ = some (.slice x1 SY g1) := by rw [← e10, ← hB5]; exact cell_new0 w9 _ 25 0 _ rfl
  have o1 : W10.cell? ⟨B5, 1, none⟩ = some (.slice x2 CU g2) := by rw [← e10, ← hB5]; exact cell_new0 w9 _ 25 1 _ rfl
  have hb810 : Below W8.heap.size W8 W10 := hb9.trans (b910.mono hb9.size)
  obtain ⟨⟨-, -, t0, -⟩, hA, r0, r1⟩ := KB.out W10 hb810
  have C6 := rsame_any hA ((hv9.mono (Nat.zero_le _) (Below.refl _ _)).next b910)
  rw [show decide (cmpA (n + 1) U U = 0) = true by rw [cmpA_self]; rfl] at C6
  have HB10 := hide hb810
  have HE10 := hide (And.intro e10 hB5)
  clear hv9 hb9 e10 hB5 b910 hb810 hA
  go_upto_region 6 with fail
  rw [HE10.out.1, HE10.out.2]
  clear HE10
  go_wp2_with fail
  refine C6.mono ?_
  clear C6 o0 o1 r0 r1 t0
  rintro e w11 ⟨rfl, hb11⟩
  have hb811 : Below W8.heap.size W8 w11 := HB10.out.trans (hb11.mono HB10.out.size)
  obtain ⟨⟨hyA, -, t0, t1⟩, hA, r0, r1⟩ := KB.out w11 hb811
  obtain ⟨_, _, _, _, hvy, Ry, -⟩ := hyA.form
  obtain ⟨_, _, _, _, hvu, Ru, -⟩ := hA.form
  simp only [Value.agg.injEq, Array.mk.injEq, List.cons.injEq, Value.slice.injEq, and_true] at hvy hvu
  rw [← hvy.1.1] at Ry
  rw [← hvu.1.1] at Ru
  obtain ⟨b, off, rfl, hbl, hcl⟩ := row_at Ry (j := 0) HKY.out.2.1
  obtain ⟨b', off', rfl, hbl', hcl'⟩ := row_at Ru (j := 0) HUU.out.2.2.2
  have hcl2 : w11.cell? ⟨b, off, none⟩ = some (.int .i64 (N : Int)) := by rw [← HKY.out.2.2.2.2.1]; exact hcl
  have hcl2' : w11.cell? ⟨b', off', none⟩ = some (.int .i64 (L : Int)) := by rw [← HUU.out.2.1]; exact hcl'
  have KC : Hid (∀ W, Below w11.heap.size w11 W → (Below w.heap.size w W ∧ W.cell? ⟨w.heap.size, 0, none⟩ = some (.slice (some ⟨b, off, none⟩) SY k1) ∧ W.cell? ⟨w.heap.size, 1, none⟩ = some (.slice s2 CY k2) ∧ W.cell? ⟨B3, 0, none⟩ = some (.slice (some ⟨b', off', none⟩) SY j1) ∧ W.cell? ⟨B3, 1, none⟩ = some (.slice p2 CU j2)) ∧ W.cell? ⟨b, off, none⟩ = some (.int .i64 (N : Int)) ∧ W.cell? ⟨b', off', none⟩ = some (.int .i64 (L : Int)) ∧ ArIn (n + 1) 0 W y (.agg #[.slice (some ⟨b, off, none⟩) SY k1, .slice s2 CY k2]) ∧ ArIn (n + 1) 0 W U (.agg #[.slice (some ⟨b', off', none⟩) SY j1, .slice p2 CU j2])) := fun W h => by
    obtain ⟨⟨a1, a2, a3, a4⟩, a5, a6, a7⟩ := KB.out W (hb811.trans (h.mono hb811.size))
    exact ⟨⟨a2, a3, a4, a6, a7⟩, (h.cell (p := ⟨b, off, none⟩) hbl).trans hcl2, (h.cell (p := ⟨b', off', none⟩) hbl').trans hcl2', a1, a5⟩
  clear hyA hA hvy hvu Ry Ru hbl hbl' hcl hcl' hcl2 hcl2' hb11 hb811 KB HB10 r1 t1
  go_wp2
  clear t0 r0
  go_loopg [7] N (fun gg iv wr => ∃ i : Nat, gg + i = N ∧ iv = .int .i64 (i : Int) ∧ Below w11.heap.size w11 wr)
  case atStart => exact ⟨0, rfl, rfl, Below.refl _ _⟩
  case round =>
    obtain ⟨i, hg, rfl, hbr⟩ := hrel
    obtain ⟨wo, hwo⟩ : ∃ wo, wo = wr := ⟨_, rfl⟩
    subst hwo
    have HBR := hide hbr
    obtain ⟨⟨bw, t0, t1, r0, r1⟩, nN, nL, -, -⟩ := KC.out wo hbr
    by_cases hlt : i < N
    · have hltz : (i : Int) < (N : Int) := by omega
      clear bw t1 r0 r1 nL hbr
      go_wp2
      clear t0 nN
      go_loopg [8, 9] L (fun gg nv kv wr => ∃ t : Nat, gg + t = L ∧ kv = .int .i64 (t : Int) ∧ nv = .int .i64 (((List.range t).countP (fun k => decide (c (i : Int) (gI wh k) = 0)) : Nat) : Int) ∧ Below w11.heap.size w11 wr)
      case atStart => exact ⟨0, rfl, rfl, rfl, HBR.out⟩
      case round =>
        clear HBR
        obtain ⟨t, hgt, rfl, rfl, hbt⟩ := hrel
        have HBT := hide hbt
        obtain ⟨⟨bw, t0, t1, r0, r1⟩, nN, nL, hyA, hUA⟩ := KC.out wr hbt
        have HST := hide (countP_step (fun k => decide (c (i : Int) (gI wh k) = 0)) t)
        have hcle : (List.range t).countP (fun k => decide (c (i : Int) (gI wh k) = 0)) ≤ t := by have := List.countP_le_length (p := fun k => decide (c (i : Int) (gI wh k) = 0)) (l := List.range t); rw [List.length_range] at this; exact this
        by_cases hlt2 : t < L
        · have hltz2 : (t : Int) < (L : Int) := by omega
          have hk := HKY.out
          have hu := HUU.out
          have HC1 : Hid (∀ W, Below wr.heap.size wr W → Calls Try.prog 19 #[.agg #[.slice (some ⟨b, off, none⟩) SY k1, .slice s2 CY k2], .int .i64 (i : Int)] W fun e w' => (∃ v, e = .returned v ∧ ∀ V, Below w'.heap.size w' V → ArIn (n + 1) 0 V (itemAt y i M) v) ∧ Below W.heap.size W w' ∧ Below wr.heap.size wr w') := fun W h => by
            refine (ritem_any (i := i) (m := M) hyA h hk.2.1 hk.2.2.1 hk.2.2.2.2.2.1 (HIL.out i hlt) hk.2.2.2.1 (by omega) HCY.out).mono ?_
            rintro e w' ⟨⟨v, rfl, hv⟩, hw'⟩
            exact ⟨⟨v, rfl, fun V hV => hv V ((h.trans (hw'.mono h.size)).trans (hV.mono (Nat.le_trans h.size hw'.size))) (keeps_below hV)⟩, hw', h.trans (hw'.mono h.size)⟩
          have HC2 : Hid (∀ W, Below wr.heap.size wr W → Calls Try.prog 19 #[.agg #[.slice (some ⟨b', off', none⟩) SY j1, .slice p2 CU j2], .int .i64 (t : Int)] W fun e w' => (∃ v, e = .returned v ∧ ∀ V, Below w'.heap.size w' V → ArIn (n + 1) 0 V (itemAt U t M) v) ∧ Below W.heap.size W w' ∧ Below wr.heap.size wr w') := fun W h => by
            refine (ritem_any (i := t) (m := M) hUA h hu.2.2.2 (by rw [HSC.out.2.2.1]; exact hk.2.2.1) (by rw [hu.1]; exact hk.2.2.2.2.2.1) (by
              rw [hu.2.2.1]
              have := Nat.mul_le_mul_right M (show t + 1 ≤ L from hlt2)
              rw [Nat.succ_mul] at this
              exact this) hU16 (by omega) HKU.out).mono ?_
            rintro e w' ⟨⟨v, rfl, hv⟩, hw'⟩
            exact ⟨⟨v, rfl, fun V hV => hv V ((h.trans (hw'.mono h.size)).trans (hV.mono (Nat.le_trans h.size hw'.size))) (keeps_below hV)⟩, hw', h.trans (hw'.mono h.size)⟩
          obtain ⟨sb, hsb⟩ : ∃ sb, decide (c (i : Int) (gI wh t) = 0) = sb := ⟨_, rfl⟩
          have HSA : Hid (∀ w6 w7 v6 v7, (∀ V, Below w6.heap.size w6 V → ArIn (n + 1) 0 V (itemAt y i M) v6) → (∀ V, Below w7.heap.size w7 V → ArIn (n + 1) 0 V (itemAt U t M) v7) → Below w6.heap.size w6 w7 → Below wr.heap.size wr w7 → Calls Try.prog 12 #[v6, v7] w7 fun e w' => e = .returned (.bool sb) ∧ Below wr.heap.size wr w') := fun w6 w7 v6 v7 h6 h7 h67 ho => by
            refine (rsame_any (h6 w7 h67) (h7 w7 (Below.refl _ _))).mono ?_
            rintro e w' ⟨rfl, hw'⟩
            exact ⟨by rw [HSM.out i t hlt hlt2, hsb], ho.trans (hw'.mono ho.size)⟩
          have KS : Hid (∀ W, Below wr.heap.size wr W → Below wr.heap.size wr W ∧ W.cell? ⟨w.heap.size, 0, none⟩ = some (.slice (some ⟨b, off, none⟩) SY k1) ∧ W.cell? ⟨w.heap.size, 1, none⟩ = some (.slice s2 CY k2) ∧ W.cell? ⟨B3, 0, none⟩ = some (.slice (some ⟨b', off', none⟩) SY j1) ∧ W.cell? ⟨B3, 1, none⟩ = some (.slice p2 CU j2)) := fun W h => ⟨h, (KC.out W (HBT.out.trans (h.mono HBT.out.size))).1.2⟩
          simp only [hsb] at HST
          have hd0 : Below wr.heap.size wr wr.drew := (Below.refl _ _).drew
          generalize hKK : (List.range t).countP (fun k => decide (c (i : Int) (gI wh k) = 0)) = KK at *
          clear hbt bw hyA hUA hk hu hsb t1 r1 nN hKK t0
          go_upto_region 15 with fail
          clear r0 nL
          go_region_held3 (fun W => Below wr.heap.size wr W ∧ W.cell? ⟨w.heap.size, 0, none⟩ = some (.slice (some ⟨b, off, none⟩) SY k1) ∧ W.cell? ⟨w.heap.size, 1, none⟩ = some (.slice s2 CY k2) ∧ W.cell? ⟨B3, 0, none⟩ = some (.slice (some ⟨b', off', none⟩) SY j1) ∧ W.cell? ⟨B3, 1, none⟩ = some (.slice p2 CU j2))
            (first | with_reducible exact KS.out _ (by with_reducible assumption))
            (first | (go_at_call 19; (with_reducible refine (HC1.out _ (by with_reducible assumption)).mono ?_); rintro e w6 ⟨⟨v6, rfl, hv6⟩, hs6, hb6⟩) | (go_at_call 19; (with_reducible refine (HC2.out _ (by with_reducible assumption)).mono ?_); rintro e w7 ⟨⟨v7, rfl, hv7⟩, hs7, hb7⟩) | (go_at_call 12; refine (HSA.out _ _ _ _ hv6 hv7 hs7 hb7).mono ?_; rintro e w8 ⟨rfl, hb8⟩))
          all_goals
            have HB8 := hide (HBT.out.trans (hb8.mono HBT.out.size))
            clear hv6 hv7 hs6 hs7 hb6 hb7 hb8
            cases sb
            · go_wp2
              go_roundg (L - (t + 1))
              case rel => exact ⟨t + 1, by omega, by go_num, by rw [HST.out]; simp, HB8.out⟩
              case measure => omega
            · go_wp2
              go_roundg (L - (t + 1))
              case rel => exact ⟨t + 1, by omega, by go_num, by rw [HST.out]; simp, HB8.out⟩
              case measure => omega
        · have hte : t = L := by omega
          subst hte
          have hct := HCT.out i hlt
          simp only [hct]
          clear hbt bw hyA hUA t1 r1 nN t0 hct hcle HST
          go_wp2
          go_roundg (N - (i + 1))
          case rel => exact ⟨i + 1, by omega, by go_num, HBT.out⟩
          case measure => omega
    · have hie : i = N := by omega
      subst hie
      have CW := HW.out wo bw
      clear bw t1 r0 r1 nL hbr
      go_wp2_with fail
      refine CW.mono ?_
      rintro e w9 ⟨rfl, hb9⟩
      have HF := hide hb9
      clear hb9 CW
      go_wp2
      go_ret
      exact ⟨rfl, HF.out⟩
set_option maxRecDepth 100000 in
theorem lifted (os : Os) (started : os.Started) (H : Type) (enc : TypeId × Value → H) :
    ReturnsInHanded {} Try.checked os 6 .any (Rows.seekOnceSpec.pre6 enc Try.prog Try.f6 Rows.seekOnceRow.domain false) (Rows.seekOnceSpec.post enc Try.prog Try.f6 false true false false) := by
  refine returnsInHanded_of_change_sized (C := Try.checked) own started (by kernel_rfl) Try.func6
    (ChangeSpec.witness6 (enc := enc) (C := Try.checked) false ⟨#[], #[.agg #[.slice none 0 0, .slice none 0 0]], []⟩ 8 (by kernel_rfl) (by kernel_rfl) (by kernel_rfl) (by kernel_rfl)) ?_
  intro W base args ds gs before hval0 hW _ hsz0 _
  have hsz : (DataW.weightsEach Try.prog (Try.f6.params.toList ++ Rows.seekOnceSpec.plain.varTypes Try.prog) (ds ++ gs)).all (· ≤ reachBytes) = true := hsz0
  clear hsz0
  have hval : ∀ (j : Nat) t v, Try.f6.params[j]? = some t → args[j]? = some v → Value.okWide Try.prog W .any base t v := hval0
  have hW' := hW
  obtain ⟨p, q, hA0, hV, rfl, hfz, hnd⟩ := hW
  have hA : DataW.TrodAll enc Try.prog W 0 (fun _ => true) true Try.f6.params.toList args.toList ds p := hA0
  rw [Try.params6] at hA hval hsz
  obtain ⟨v0, vs0, d0, ds0, p0, q0, hargs, rfl, rfl, h0, r0⟩ := trodAll_cons hA
  obtain ⟨rfl, rfl, rfl⟩ := trodAll_nil r0
  obtain rfl : args = #[v0] := by cases args; simp_all
  obtain ⟨rfl, rfl⟩ := trodVars_none hV
  have k0 := h0
  have lt0 : ∀ x ∈ p0, x.block < W.heap.size := by obtain ⟨m, hm⟩ := k0; exact DataW.trod_lt m _ _ _ hm
  obtain ⟨n0, y0, c00, c01, hc0, w0⟩ := arr_of hsz (j := 0) rfl rfl h0
  obtain rfl := agg_two hc0
  clear hA0 hval0
  refine (walk n0 y0 c00 c01 W w0.1 (arr_caps h0)).mono fun e W' ⟨he, bel⟩ => ?_
  subst he
  exact ⟨_, rfl, _, _, _, [], _, [], hW', trodAll_mk1 (shut_bool Try.underlying4 _), (trodAll_cons_mk (Below.trod laidOut (by kernel_rfl) (of_decide_eq_true (by kernel_rfl)) k0 bel lt0) trodAll_mk0), rfl, bel.frame _, fun h => by cases h⟩
theorem over : Rows.seekOnceRow.holds Try.pinned (OpenSpec.ofChange Rows.seekOnceSpec) :=
  OpenClaim.holds_of_wide 6 Try.f6 rfl rfl rfl rfl rfl rfl rfl ⟨rfl, rfl, rfl, rfl, rfl⟩ rfl rfl rfl rfl rfl (by kernel_rfl) Try.func6 (by kernel_rfl)
    (of_decide_eq_true (by kernel_rfl)) (by unfold Func.isWrapper; first | (rw [if_pos (by decide +kernel)]; kernel_rfl) | (rw [if_neg (by decide +kernel)]; exact ⟨rfl, rfl⟩))
    (fun os started H enc _ => lifted os started H enc)
theorem proved : Rows.SeekOnceSaid := over
end Go.Proofs.Ytimkcpbgnoekcaa.seekOnce
namespace Go.Proofs.Ytimkcpbgnoekcaa
theorem seekOnce_holds : Rows.SeekOnceSaid := seekOnce.proved
#print axioms seekOnce_holds
end Go.Proofs.Ytimkcpbgnoekcaa
