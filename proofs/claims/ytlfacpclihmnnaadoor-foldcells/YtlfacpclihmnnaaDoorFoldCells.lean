/-
  For all int, all two arrays and all two int the statement FoldCells holds: each cell of what comes of each with each is the function of the two cells that its places name; no condition (the given row speaks of what a machine of 64 bits can hold, and of the table of layer 4 as its text lays it).
-/
import Derived.Test.YtlfacpclihmnnaaDoorM8
import Derived.WalkKit
import Derived.Test.YtlfacpclihmnnaaDoorChecked
import GoSem.Claim
import GoSem.ClaimJoined
import GoSem.ClaimMapViews
import Derived.JoinedTies
import Derived.KernelRfl
import Derived.ProofKit
import Derived.Below
import Derived.Deep.OwnRows
import Derived.Deep.QuietTactic
import Derived.BigQuiet
import Derived.Deep.RegionWith
import Derived.Laws.MakeOwn
import Derived.Deep.RegionHeld3
import Derived.OpenShut
import Derived.Lib.Mul64
import Derived.Laws.Bits64b
import Derived.ChangeOld
import Derived.SizedLaws
import Derived.Deep.Slices
import Derived.Deep.Strs
import Derived.Deep.LoopGhost
import Derived.Laws.IdiomCopy
import Derived.Deep.Cut
import Derived.Deep.RegionLaw
import Derived.Laws.AppendOwnNone
import Derived.BigFrame
import Derived.Laws.OwnMore
import Derived.OwnWalk
import Derived.Lib.SliceRun
import Derived.Deep.CutRange
import Derived.Laws.EntriesVeiled
import GoSem.ClaimSeven
import Derived.LaidByTextLater
import Derived.SevenTiedAt
import Derived.LaidSub
import Derived.LaidOnce
import Derived.Deep.DeepHandedRow
import Derived.Lib.LaidTab
namespace Go.Proofs.YtlfacpclihmnnaaDoor
open Num (resV resE In64 sgnI absI)
set_option linter.unusedVariables false
set_option linter.unusedSimpArgs false
theorem firstUp_each {f : Nat → Int} {m : Nat} (h : firstUp f m = 0) : ∀ i, i < m → f i = 0 := fun i hi => by
  by_cases h0 : firstUp f i = 0
  · by_cases h1 : f i = 0
    · exact h1
    · rw [firstUp_hit h0 h1 m hi] at h; exact h
  · rw [firstUp_stays h0 m (by omega)] at h; exact absurd h h0
theorem cells_math (op : Int) (x y : Ar) (hx : chkA 8 x = 0) (hy : chkA 8 y = 0) :
    ((outR op false x y).2 ≠ 0 → (outR op false x y).1 = zeroA) ∧
    ((outR op false x y).2 = 0 → (outR op false x y).1.cells.length = x.cells.length * y.cells.length ∧ x.cells.length * y.cells.length ≤ 16384 ∧ ∀ i k, i < x.cells.length → k < y.cells.length → c2E op (cAt x.cells i) (cAt y.cells k) = 0 ∧ i * y.cells.length + k < x.cells.length * y.cells.length ∧ cAt (outR op false x y).1.cells (i * y.cells.length + k) = (0, c2V op (cAt x.cells i) (cAt y.cells k), [])) := by
  obtain ⟨hsE1, hsV1⟩ := chk_size hx
  obtain ⟨hsE2, hsV2⟩ := chk_size hy
  by_cases h1 : fchk op (xyE x y) 2 ≠ 0
  · have e : outR op false x y = (zeroA, fchk op (xyE x y) 2) := by unfold outR; rw [if_pos h1]
    rw [e]
    exact ⟨fun _ => rfl, fun h => absurd h h1⟩
  by_cases h2 : sizeE (x.shape ++ y.shape) ≠ 0
  · have e : outR op false x y = (zeroA, sizeE (x.shape ++ y.shape)) := by unfold outR; rw [if_neg h1, if_pos h2]
    rw [e]
    exact ⟨fun _ => rfl, fun h => absurd h h2⟩
  have h2' := Classical.not_not.1 h2
  have hV : sizeV (x.shape ++ y.shape) = ((x.cells.length * y.cells.length : Nat) : Int) := by
    rw [sizeV_prod h2', prodL_app, ← sizeV_prod hsE1, ← sizeV_prod hsE2, hsV1, hsV2]
    push_cast
    rfl
  have hN16 : x.cells.length * y.cells.length ≤ 16384 := by have := (sizeV_le h2').2; rw [hV] at this; omega
  have e : outR op false x y = filR (x.shape ++ y.shape) (x.cells.length * y.cells.length) (outG op false x y) := by
    unfold outR
    rw [if_neg h1, if_neg h2, hV, Int.toNat_natCast]
  rw [e]
  unfold filR
  by_cases h3 : firstUp (fun i => (outG op false x y i).2) (x.cells.length * y.cells.length) = 0
  · rw [if_pos h3]
    refine ⟨fun h => absurd rfl h, fun _ => ⟨mkCs_len _ _, hN16, fun i k hi hk => ?_⟩⟩
    have hlt : i * y.cells.length + k < x.cells.length * y.cells.length := by
      calc i * y.cells.length + k < i * y.cells.length + y.cells.length := by omega
        _ = (i + 1) * y.cells.length := by rw [Nat.add_mul, Nat.one_mul]
        _ ≤ x.cells.length * y.cells.length := Nat.mul_le_mul_right _ (by omega)
    have hd : (i * y.cells.length + k) / y.cells.length = i := by rw [Nat.mul_comm, Nat.mul_add_div (by omega), Nat.div_eq_of_lt hk]; omega
    have hm : (i * y.cells.length + k) % y.cells.length = k := by rw [Nat.mul_comm, Nat.mul_add_mod, Nat.mod_eq_of_lt hk]
    have hE := firstUp_each h3 _ hlt
    have hG : outG op false x y (i * y.cells.length + k) = ((0, c2V op (cAt x.cells i) (cAt y.cells k), []), c2E op (cAt x.cells i) (cAt y.cells k)) := by
      unfold outG
      rw [hd, hm]
      rfl
    rw [hG] at hE
    refine ⟨hE, hlt, ?_⟩
    show cAt (mkCs _ _) _ = _
    rw [mkCs_at _ _ _ hlt, hG]
  · rw [if_neg h3]
    exact ⟨fun _ => rfl, fun h => absurd h h3⟩
end Go.Proofs.YtlfacpclihmnnaaDoor
namespace Go.Proofs.YtlfacpclihmnnaaDoor.foldCells
open Go.ChangeShapes Go.WideShapes Go.ChangeAt Go.RowKit
open Num (resV resE In64 sgnI absI)
set_option linter.unusedVariables false
set_option linter.unusedSimpArgs false
set_option maxRecDepth 100000 in
set_option maxHeartbeats 32000000 in
theorem walk1 (op : Int) (n : Nat) (x y : Ar) (c0 c1 p0 p1 : Value) (ii kk : Int) (w : World) (T : Tab w) (hx : ArIn (n + 1) 0 w x (.agg #[c0, c1])) (sx : Snd x) (hy : ArIn (n + 1) 0 w y (.agg #[p0, p1])) (sy : Snd y) :
    Calls Tryd.prog 8 #[.int .i64 op, .agg #[c0, c1], .agg #[p0, p1], .int .i64 ii, .int .i64 kk] w fun e w' => e = .returned (.bool true) ∧ Below w.heap.size w w' := by
  obtain ⟨a1, k1, a2, k2, hv, -, hcx⟩ := hx.formC
  simp only [Value.agg.injEq, Array.mk.injEq, List.cons.injEq, and_true] at hv
  obtain ⟨rfl, rfl⟩ := hv
  obtain ⟨b1, l1, b2, l2, hv, -, hcy⟩ := hy.formC
  simp only [Value.agg.injEq, Array.mk.injEq, List.cons.injEq, and_true] at hv
  obtain ⟨rfl, rfl⟩ := hv
  have hin : ∀ k, k < x.cells.length → In64 (cAt x.cells k).2.1 := fun k hk => (sx.cell (cAt_mem hk)).2.1
  have hin2 : ∀ k, k < y.cells.length → In64 (cAt y.cells k).2.1 := fun k hk => (sy.cell (cAt_mem hk)).2.1
  obtain ⟨W0, eW⟩ : ∃ W0, (w.alloc (.cells #[.slice a1 x.shape.length k1, .slice a2 x.cells.length k2] 25)).alloc (.cells #[.slice b1 y.shape.length l1, .slice b2 y.cells.length l2] 25) = W0 := ⟨_, rfl⟩
  have B0 : Below w.heap.size w W0 := by rw [← eW]; exact two_allocs _ _ _
  have s0 : W0.heap.size = w.heap.size + 2 := by rw [← eW]; exact size_two _ _ _
  have KS : Hid (∀ W, Below W0.heap.size W0 W → (W.cell? ⟨w.heap.size, 0, none⟩ = some (.slice a1 x.shape.length k1) ∧ W.cell? ⟨w.heap.size, 1, none⟩ = some (.slice a2 x.cells.length k2)) ∧ W.cell? ⟨w.heap.size + 1, 0, none⟩ = some (.slice b1 y.shape.length l1) ∧ W.cell? ⟨w.heap.size + 1, 1, none⟩ = some (.slice b2 y.cells.length l2)) := fun W h =>
    ⟨⟨(h.cell (p := ⟨w.heap.size, 0, none⟩) (by show w.heap.size < _; omega)).trans (by rw [← eW]; exact cell_new1 w _ 25 (0, 0) _ 0 _ rfl), (h.cell (p := ⟨w.heap.size, 1, none⟩) (by show w.heap.size < _; omega)).trans (by rw [← eW]; exact cell_new1 w _ 25 (0, 0) _ 1 _ rfl)⟩, (h.cell (p := ⟨w.heap.size + 1, 0, none⟩) (by show w.heap.size + 1 < _; omega)).trans (by rw [← eW]; exact cell_new2 w _ 25 (0, 0) _ 0 _ rfl), (h.cell (p := ⟨w.heap.size + 1, 1, none⟩) (by show w.heap.size + 1 < _; omega)).trans (by rw [← eW]; exact cell_new2 w _ 25 (0, 0) _ 1 _ rfl)⟩
  have HX : Hid (∀ W, Below W0.heap.size W0 W → ArIn (n + 1) 0 W x (.agg #[.slice a1 x.shape.length k1, .slice a2 x.cells.length k2])) := fun W h => hx.next (B0.trans (h.mono B0.size))
  have HY : Hid (∀ W, Below W0.heap.size W0 W → ArIn (n + 1) 0 W y (.agg #[.slice b1 y.shape.length l1, .slice b2 y.cells.length l2])) := fun W h => hy.next (B0.trans (h.mono B0.size))
  have HT : Hid (∀ W, Below W0.heap.size W0 W → Tab W) := fun W h => T.next (B0.trans (h.mono B0.size))
  have HB : Hid (∀ W, Below W0.heap.size W0 W → Below w.heap.size w W) := fun W h => B0.trans (h.mono B0.size)
  have HIN := hide (And.intro hin hin2)
  have HC1 : Hid (∀ W, Below W0.heap.size W0 W → Calls Tryd.prog 17 #[.agg #[.int .i64 op, .bool false], .agg #[.slice a1 x.shape.length k1, .slice a2 x.cells.length k2], .agg #[.slice b1 y.shape.length l1, .slice b2 y.cells.length l2]] W fun e w' => (∃ g1 m1 g2 m2 g3 m3, e = .returned (.tuple #[.agg #[.slice g1 m1 g2, .slice m2 g3 m3], .int .i64 (outR op false x y).2]) ∧ ∀ W', Below w'.heap.size w' W' → ArIn (n + 1) 0 W' (outR op false x y).1 (.agg #[.slice g1 m1 g2, .slice m2 g3 m3])) ∧ Below W.heap.size W w') := fun W h => by
    refine (outer17 (HX.out W h) (HY.out W h) HIN.out.1 HIN.out.2 (HT.out W h)).mono ?_
    rintro e w' ⟨⟨v, rfl, hv⟩, hb⟩
    obtain ⟨g1, g2, m2, m3, rfl⟩ := hv.form
    exact ⟨⟨_, _, _, _, _, _, rfl, fun W' hW => hv.mono (Nat.zero_le _) hW⟩, hb⟩
  have HM := hide (fun h1 h2 => cells_math op x y h1 h2)
  obtain ⟨RA, hRA⟩ : ∃ RA, (outR op false x y).1 = RA := ⟨_, rfl⟩
  obtain ⟨E, hE⟩ : ∃ E, (outR op false x y).2 = E := ⟨_, rfl⟩
  rw [hRA, hE] at HC1 HM
  have HLI : Hid (∀ W, Below W0.heap.size W0 W → Calls Tryd.prog 9 #[.agg #[.slice a1 x.shape.length k1, .slice a2 x.cells.length k2]] W fun e w' => GivesB W e w') := fun W h => light9 (HX.out W h)
  have HNA : Hid (∀ W, Below W0.heap.size W0 W → Calls Tryd.prog 9 #[.agg #[.slice b1 y.shape.length l1, .slice b2 y.cells.length l2]] W fun e w' => GivesB W e w') := fun W h => light9 (HY.out W h)
  have HK1 : Hid (∀ W, Below W0.heap.size W0 W → Calls Tryd.prog 21 #[.agg #[.slice a1 x.shape.length k1, .slice a2 x.cells.length k2]] W fun e w' => e = .returned (.int .i64 (chkA 8 x)) ∧ Below W.heap.size W w') := fun W h => rcheck_any (n + 1) x 0 _ W (HX.out W h)
  have HK2 : Hid (∀ W, Below W0.heap.size W0 W → Calls Tryd.prog 21 #[.agg #[.slice b1 y.shape.length l1, .slice b2 y.cells.length l2]] W fun e w' => e = .returned (.int .i64 (chkA 8 y)) ∧ Below W.heap.size W w') := fun W h => rcheck_any (n + 1) y 0 _ W (HY.out W h)
  obtain ⟨EX, hEX⟩ : ∃ EX, chkA 8 x = EX := ⟨_, rfl⟩
  obtain ⟨EY, hEY⟩ : ∃ EY, chkA 8 y = EY := ⟨_, rfl⟩
  rw [hEX] at HK1 HM
  rw [hEY] at HK2 HM
  obtain ⟨abx, cbx, hfx⟩ := cells_fn hcx
  obtain ⟨aby, cby, hfy⟩ := cells_fn hcy
  have HFX := hide hfx
  have HFY := hide hfy
  obtain ⟨SA, hSA⟩ : ∃ SA, x.shape.length = SA := ⟨_, rfl⟩
  obtain ⟨CA, hCA⟩ : ∃ CA, x.cells.length = CA := ⟨_, rfl⟩
  obtain ⟨SB, hSB⟩ : ∃ SB, y.shape.length = SB := ⟨_, rfl⟩
  obtain ⟨CB, hCB⟩ : ∃ CB, y.cells.length = CB := ⟨_, rfl⟩
  rw [hSA, hCA] at HC1 HLI HK1
  rw [hSB, hCB] at HC1 HNA HK2
  rw [hSA, hCA] at eW KS
  rw [hSB, hCB] at eW KS
  rw [hCA] at HFX HIN HM
  rw [hCB] at HFY HIN HM
  rw [hSA, hCA, hSB, hCB]
  have hCA8 : CA ≤ 5864062014805 := by
    obtain ⟨_, _, _, _, _, _, h8, -⟩ := hx
    rw [← hCA]; exact h8
  have hCB8 : CB ≤ 5864062014805 := by
    obtain ⟨_, _, _, _, _, _, h8, -⟩ := hy
    rw [← hCB]; exact h8
  clear hx hy T sx sy hin hin2 HX HY hRA hE hEX hEY hSA hCA hSB hCB hcx hcy hfx hfy
  have HB0 := hide B0
  have HS0 := hide s0
  clear B0 s0
  have J := Below.refl W0.heap.size W0
  obtain ⟨⟨q0, q1⟩, q2, q3⟩ := KS.out W0 J
  have HE := hide eW
  clear eW
  go_enter Tryd.func8, Tryd.ntmps8
  go_upto_region 1 with fail
  rw [HE.out]
  clear HE
  go_wp2_with fail
  clear q0 q1 q2 q3
  refine (HLI.out _ J).mono ?_
  rintro e t0 ⟨⟨rb0, rfl⟩, hb⟩
  replace J := J.trans (hb.mono J.size)
  clear hb
  cases rb0 with
  | false =>
    have B := HB.out _ J
    have CW := works11 t0 (HT.out _ J)
    go_wp2_with fail
    refine CW.mono ?_
    rintro e w9 ⟨rfl, hb9⟩
    go_wp2
    go_ret
    exact ⟨rfl, B.trans (hb9.mono B.size)⟩
  | true =>
  obtain ⟨⟨q0, q1⟩, q2, q3⟩ := KS.out _ J
  go_wp2_with fail
  clear q0 q1 q2 q3
  refine (HNA.out _ J).mono ?_
  rintro e t1 ⟨⟨rb1, rfl⟩, hb⟩
  replace J := J.trans (hb.mono J.size)
  clear hb
  cases rb1 with
  | false =>
    have B := HB.out _ J
    have CW := works11 t1 (HT.out _ J)
    go_wp2_with fail
    refine CW.mono ?_
    rintro e w9 ⟨rfl, hb9⟩
    go_wp2
    go_ret
    exact ⟨rfl, B.trans (hb9.mono B.size)⟩
  | true =>
  obtain ⟨⟨q0, q1⟩, q2, q3⟩ := KS.out _ J
  go_wp2_with fail
  clear q0 q1 q2 q3
  refine (HK1.out _ J).mono ?_
  rintro e t2 ⟨rfl, hb⟩
  replace J := J.trans (hb.mono J.size)
  clear hb
  by_cases hx0 : ¬ EX = 0
  · have gX : (EX == 0) = false := beq_eq_false_iff_ne.2 hx0
    have B := HB.out _ J
    have CW := works11 t2 (HT.out _ J)
    go_wp2_with fail
    refine CW.mono ?_
    rintro e w9 ⟨rfl, hb9⟩
    go_wp2
    go_ret
    exact ⟨rfl, B.trans (hb9.mono B.size)⟩
  have hx0 : EX = 0 := Classical.not_not.1 hx0
  subst hx0
  obtain ⟨⟨q0, q1⟩, q2, q3⟩ := KS.out _ J
  go_wp2_with fail
  clear q0 q1 q2 q3
  refine (HK2.out _ J).mono ?_
  rintro e t3 ⟨rfl, hb⟩
  replace J := J.trans (hb.mono J.size)
  clear hb
  by_cases hy0 : ¬ EY = 0
  · have gY : (EY == 0) = false := beq_eq_false_iff_ne.2 hy0
    have B := HB.out _ J
    have CW := works11 t3 (HT.out _ J)
    go_wp2_with fail
    refine CW.mono ?_
    rintro e w9 ⟨rfl, hb9⟩
    go_wp2
    go_ret
    exact ⟨rfl, B.trans (hb9.mono B.size)⟩
  have hy0 : EY = 0 := Classical.not_not.1 hy0
  subst hy0
  obtain ⟨⟨q0, q1⟩, q2, q3⟩ := KS.out _ J
  by_cases hA0 : CA = 0
  · have gA : ((CA : Int) == 0) = true := by rw [hA0]; rfl
    have B := HB.out _ J
    have CW := works11 t3 (HT.out _ J)
    go_wp2_with fail
    refine CW.mono ?_
    rintro e w9 ⟨rfl, hb9⟩
    go_wp2
    go_ret
    exact ⟨rfl, B.trans (hb9.mono B.size)⟩
  have gA : ((CA : Int) == 0) = false := beq_eq_false_iff_ne.2 (by omega)
  by_cases hB0 : CB = 0
  · have gB : ((CB : Int) == 0) = true := by rw [hB0]; rfl
    have B := HB.out _ J
    have CW := works11 t3 (HT.out _ J)
    go_wp2_with fail
    refine CW.mono ?_
    rintro e w9 ⟨rfl, hb9⟩
    go_wp2
    go_ret
    exact ⟨rfl, B.trans (hb9.mono B.size)⟩
  have gB : ((CB : Int) == 0) = false := beq_eq_false_iff_ne.2 (by omega)
  obtain ⟨hbad, hgood⟩ := HM.out (by first | trivial | rfl) (by first | trivial | rfl)
  have HMM := hide (And.intro hbad hgood)
  clear hbad hgood HM HLI HNA HK1 HK2
  go_wp2_with fail
  clear q0 q1 q2 q3
  refine (HC1.out _ J).mono ?_
  rintro e w4 ⟨⟨g1, m1, g2, m2, g3, m3, rfl, hv4⟩, hb4⟩
  have n5 := one_alloc w4 (.cells #[.slice g1 m1 g2, .slice m2 g3 m3] 25)
  have x1 : (w4.alloc (.cells #[.slice g1 m1 g2, .slice m2 g3 m3] 25)).cell? ⟨w4.heap.size, 1, none⟩ = some (.slice m2 g3 m3) := cell_new0 w4 #[.slice g1 m1 g2, .slice m2 g3 m3] 25 1 _ rfl
  obtain ⟨w5, e5⟩ : ∃ w5, w4.alloc (.cells #[.slice g1 m1 g2, .slice m2 g3 m3] 25) = w5 := ⟨_, rfl⟩
  rw [e5] at n5 x1
  have hl5 : w4.heap.size < w5.heap.size := by rw [← e5]; simp
  have hX5 := hv4 _ n5
  have J4 := J.trans (hb4.mono J.size)
  replace J := J4.trans (n5.mono J4.size)
  have HE5 := hide e5
  obtain ⟨xb, hxb⟩ : ∃ xb, w4.heap.size = xb := ⟨_, rfl⟩
  rw [hxb] at x1 hl5
  have HXB := hide hxb
  clear hb4 n5 e5 hv4 J4 hxb HC1
  by_cases hE0 : ¬ E = 0
  · have gE : (E == 0) = false := beq_eq_false_iff_ne.2 hE0
    have hXz := HMM.out.1 hE0
    subst hXz
    obtain ⟨_, _, _, _, he, -, -⟩ := hX5.formC
    simp only [Value.agg.injEq, Array.mk.injEq, List.cons.injEq, Value.slice.injEq, and_true] at he
    have hz0 : g3 = 0 := he.2.2.1
    subst hz0
    have B := HB.out _ J
    have CW := works11 w5 (HT.out _ J)
    clear HMM hX5 he
    go_upto_region 4 with fail
    rw [HE5.out, HXB.out]
    clear HE5 HXB
    go_wp2_with fail
    refine CW.mono ?_
    rintro e w9 ⟨rfl, hb9⟩
    go_wp2
    go_ret
    exact ⟨rfl, B.trans (hb9.mono B.size)⟩
  have hE1 : E = 0 := Classical.not_not.1 hE0
  clear hE0
  subst hE1
  obtain ⟨z1, z2, z3⟩ := HMM.out.2 rfl
  obtain ⟨u, hu⟩ : ∃ u : Nat, IntKind.u64.wrap ii = (u : Int) := ⟨(IntKind.u64.wrap ii).toNat, by rw [IntKind.wrap_u64]; omega⟩
  obtain ⟨u', hu'⟩ : ∃ u : Nat, IntKind.u64.wrap kk = (u : Int) := ⟨(IntKind.u64.wrap kk).toNat, by rw [IntKind.wrap_u64]; omega⟩
  have hwA : IntKind.u64.wrap (CA : Int) = (CA : Int) := by rw [IntKind.wrap_u64]; omega
  have hwB : IntKind.u64.wrap (CB : Int) = (CB : Int) := by rw [IntKind.wrap_u64]; omega
  have hA0' : 0 < CA := by omega
  have hB0' : 0 < CB := by omega
  obtain ⟨q, hq⟩ : ∃ q, u % CA = q := ⟨_, rfl⟩
  obtain ⟨r, hr⟩ : ∃ r, u' % CB = r := ⟨_, rfl⟩
  have htA : (u : Int).tmod (CA : Int) = (q : Int) := by rw [Int.tmod_eq_emod_of_nonneg (by omega), ← hq]; omega
  have htB : (u' : Int).tmod (CB : Int) = (r : Int) := by rw [Int.tmod_eq_emod_of_nonneg (by omega), ← hr]; omega
  have hqA : q < CA := by rw [← hq]; exact Nat.mod_lt _ hA0'
  have hrB : r < CB := by rw [← hr]; exact Nat.mod_lt _ hB0'
  have hnA : ¬ (CA : Int) = 0 := by omega
  have hnB : ¬ (CB : Int) = 0 := by omega
  have hwq : IntKind.i64.wrap (q : Int) = (q : Int) := by rw [IntKind.wrap_i64]; omega
  have hwr : IntKind.i64.wrap (r : Int) = (r : Int) := by rw [IntKind.wrap_i64]; omega
  have hwq' : IntKind.u64.wrap (q : Int) = (q : Int) := by rw [IntKind.wrap_u64]; omega
  have hwr' : IntKind.u64.wrap (r : Int) = (r : Int) := by rw [IntKind.wrap_u64]; omega
  obtain ⟨d1, d2, d3⟩ := z3 q r hqA hrB
  clear z3 HMM hq hr
  have HZ := hide (And.intro z1 (And.intro z2 (And.intro d2 d3)))
  clear z1 z2 d2 d3
  have hbW := HB.out _ J
  obtain ⟨⟨Q0, Q1⟩, Q2, Q3⟩ := KS.out _ J
  go_upto_region 6 with fail
  rw [HE5.out, HXB.out]
  clear HE5 HXB
  have HX5 := hide hX5
  clear hX5
  go_cut [3, 4] from 63 to 78 (fun s3 s4 wy => s3 = .int .i64 (q : Int) ∧ s4 = .int .i64 (r : Int) ∧ Below w5.heap.size w5 wy ∧ w5.heap.size = wy.heap.size)
  case first =>
    go_quiet (fail)
    all_goals
      go_wp2
      go_meet
    all_goals
      case rel => exact ⟨rfl, rfl, by first | exact (Below.refl _ _).drew | exact drewN_below (Below.refl _ _) _ | exact Below.refl _ _, by first | rfl | simp⟩
  case rest =>
  obtain ⟨rfl, rfl, hB7, hs7⟩ := hcut
  generalize wc = wy at *
  have J7 := J.trans (hB7.mono J.size)
  obtain ⟨pb, po, ha2, -, hpb, hfq⟩ := HFX.out hA0'
  obtain ⟨rb, ro, hb2, -, hrb, hfr⟩ := HFY.out hB0'
  subst ha2
  subst hb2
  obtain ⟨e0, e1, e2, -⟩ := hfq q hqA
  obtain ⟨f0, f1, f2, -⟩ := hfr r hrB
  have hi1 := HIN.out.1 q hqA
  have hi2 := HIN.out.2 r hrB
  have HJ7 := hide J7
  have HB7 := hide hB7
  have KS2 : Hid (∀ V, Below wy.heap.size wy V → Below w.heap.size w V ∧ V.cell? ⟨w.heap.size, 1, none⟩ = some (.slice (some ⟨pb, po, none⟩) CA k2) ∧ V.cell? ⟨w.heap.size + 1, 1, none⟩ = some (.slice (some ⟨rb, ro, none⟩) CB l2)) := fun V h =>
    ⟨HB.out V (J7.trans (h.mono J7.size)), (KS.out V (J7.trans (h.mono J7.size))).1.2, (KS.out V (J7.trans (h.mono J7.size))).2.2⟩
  have CC0 := fun V => rcell2_any op (cAt x.cells q).1 (cAt x.cells q).2.1 (cAt y.cells r).1 (cAt y.cells r).2.1 (abx q) (aby r) (cAt x.cells q).2.2.length (cbx q) (cAt y.cells r).2.2.length (cby r) (cAt x.cells q) (cAt y.cells r) ⟨rfl, rfl⟩ ⟨rfl, rfl⟩ hi1 hi2 V
  rw [d1] at CC0
  clear d1
  generalize c2V op (cAt x.cells q) (cAt y.cells r) = V at *
  generalize (cAt x.cells q).1 = y1 at *
  generalize (cAt x.cells q).2.1 = n1 at *
  generalize (cAt x.cells q).2.2.length = um at *
  generalize (cAt y.cells r).1 = y2 at *
  generalize (cAt y.cells r).2.1 = n2 at *
  generalize (cAt y.cells r).2.2.length = vm at *
  generalize abx q = ua at *
  generalize cbx q = uc at *
  generalize aby r = va at *
  generalize cby r = vc at *
  have CC : Hid (∀ W, Below wy.heap.size wy W → Calls Tryd.prog 23 #[.int .i64 op, .agg #[.int .i64 y1, .int .i64 n1, .slice ua um uc], .agg #[.int .i64 y2, .int .i64 n2, .slice va vm vc]] W fun e w' => e = .returned (.tuple #[.agg #[.int .i64 0, .int .i64 V, .slice none 0 0], .int .i64 0]) ∧ Below wy.heap.size wy w' ∧ Below W.heap.size W w') := fun W hW => by
    refine (CC0 W).mono ?_
    rintro e w' ⟨rfl, hb'⟩
    exact ⟨rfl, hW.trans (hb'.mono hW.size), hb'⟩
  have KS7 : Hid (∀ W, Below wy.heap.size wy W → Below wy.heap.size wy W ∧ W.cell? ⟨w.heap.size, 1, none⟩ = some (.slice (some ⟨pb, po, none⟩) CA k2) ∧ W.cell? ⟨w.heap.size + 1, 1, none⟩ = some (.slice (some ⟨rb, ro, none⟩) CB l2) ∧ W.cell? ⟨pb, po + q * 3, none⟩ = some (.int .i64 y1) ∧ W.cell? ⟨pb, po + q * 3 + 1, none⟩ = some (.int .i64 n1) ∧ W.cell? ⟨pb, po + q * 3 + 2, none⟩ = some (.slice ua um uc) ∧ W.cell? ⟨rb, ro + r * 3, none⟩ = some (.int .i64 y2) ∧ W.cell? ⟨rb, ro + r * 3 + 1, none⟩ = some (.int .i64 n2) ∧ W.cell? ⟨rb, ro + r * 3 + 2, none⟩ = some (.slice va vm vc)) := fun W h =>
    ⟨h, (KS2.out W h).2.1, (KS2.out W h).2.2, ((KS2.out W h).1.cell (p := ⟨pb, po + q * 3, none⟩) hpb).trans e0, ((KS2.out W h).1.cell (p := ⟨pb, po + q * 3 + 1, none⟩) hpb).trans e1, ((KS2.out W h).1.cell (p := ⟨pb, po + q * 3 + 2, none⟩) hpb).trans e2, ((KS2.out W h).1.cell (p := ⟨rb, ro + r * 3, none⟩) hrb).trans f0, ((KS2.out W h).1.cell (p := ⟨rb, ro + r * 3 + 1, none⟩) hrb).trans f1, ((KS2.out W h).1.cell (p := ⟨rb, ro + r * 3 + 2, none⟩) hrb).trans f2⟩
  have HD0 : Hid (Below wy.heap.size wy wy.drew) := (Below.refl _ _).drew
  have HD1 : Hid (Below wy.heap.size wy (wy.alloc (.cells #[.int .i64 0, .int .i64 0, .slice none 0 0] 43)).drew) := (one_alloc _ _).drew
  have HAL : Hid (∀ V o, Below wy.heap.size wy V → Below wy.heap.size wy (V.alloc o)) := fun V o h => h.alloc h.size o
  have HSET : Hid (∀ V b u0 u1 u2, Below wy.heap.size wy V → wy.heap.size ≤ b → Below wy.heap.size wy (((V.setCell ⟨b, 0, none⟩ u0).setCell ⟨b, 1, none⟩ u1).setCell ⟨b, 2, none⟩ u2)) := fun V b u0 u1 u2 h hb => below_set3 h hb
  have HLE : Hid (wy.heap.size ≤ wy.heap.size) := Nat.le_refl _
  have zq : (q : Int) < (CA : Int) := by omega
  have zr : (r : Int) < (CB : Int) := by omega
  have zq0 : (0 : Int) ≤ (q : Int) := by omega
  have zr0 : (0 : Int) ≤ (r : Int) := by omega
  have HEL := hide (And.intro hl5 (And.intro hs7 x1))
  clear Q0 Q1 Q2 Q3 hB7 J7 J hfq hfr e0 e1 e2 f0 f1 f2 hi1 hi2 CC0 HFX HFY HIN hpb hrb x1 hu hu' htA htB hwA hwB hwq hwr hwq' hwr' hnA hnB hbW hs7 KS gA gB
  try go_upto_region 7 with fail
  go_cut [13, 14] from 79 to 93 (fun s9 s10 wx => ∃ vb, s9 = .pointer (some ⟨vb, 0, none⟩) ∧ s10 = .int .i64 0 ∧ Var3 wy wx vb V)
  case first =>
    go_region_held3 (fun W => Below wy.heap.size wy W ∧ W.cell? ⟨w.heap.size, 1, none⟩ = some (.slice (some ⟨pb, po, none⟩) CA k2) ∧ W.cell? ⟨w.heap.size + 1, 1, none⟩ = some (.slice (some ⟨rb, ro, none⟩) CB l2) ∧ W.cell? ⟨pb, po + q * 3, none⟩ = some (.int .i64 y1) ∧ W.cell? ⟨pb, po + q * 3 + 1, none⟩ = some (.int .i64 n1) ∧ W.cell? ⟨pb, po + q * 3 + 2, none⟩ = some (.slice ua um uc) ∧ W.cell? ⟨rb, ro + r * 3, none⟩ = some (.int .i64 y2) ∧ W.cell? ⟨rb, ro + r * 3 + 1, none⟩ = some (.int .i64 n2) ∧ W.cell? ⟨rb, ro + r * 3 + 2, none⟩ = some (.slice va vm vc))
      (first | with_reducible exact KS7.out _ HD0.out | with_reducible exact KS7.out _ HD1.out | with_reducible exact KS7.out _ (by with_reducible assumption) | with_reducible exact KS7.out _ (HAL.out _ _ (by with_reducible assumption)) | with_reducible exact KS7.out _ (HSET.out _ _ _ _ _ (by with_reducible assumption) HLE.out) | with_reducible exact KS7.out _ (HSET.out _ _ _ _ _ (by with_reducible assumption) (Below.size (by with_reducible assumption))))
      (first | (go_at_call 23; first | ((with_reducible refine (CC.out _ HD0.out).mono ?_); rintro e wb ⟨rfl, gb, hbb⟩; obtain ⟨-, n0', n1', n2', n3, n4, n5⟩ := Zc.new wb (.int .i64 0) (.int .i64 0) (.slice none 0 0)) | ((with_reducible refine (CC.out _ HD1.out).mono ?_); rintro e wb ⟨rfl, gb, hbb⟩; have ZB := (Zc.new wy (.int .i64 0) (.int .i64 0) (.slice none 0 0)).drew.next hbb; obtain ⟨-, n0', n1', n2', n3, n4, n5⟩ := (Zc.new wy (.int .i64 0) (.int .i64 0) (.slice none 0 0)).drew.next hbb)))
    all_goals
      go_wp2
      go_meet
    all_goals
      case rel =>
        first
          | exact ⟨_, rfl, rfl, var3_new _ gb⟩
          | exact ⟨_, rfl, rfl, var3_old _ ZB (Nat.le_refl _) gb⟩
  case rest =>
  obtain ⟨vb, rfl, rfl, VV⟩ := hcut
  generalize wc = wx at *
  obtain ⟨z1, z2, z4, z5⟩ := HZ.out
  obtain ⟨CN, hCN⟩ : ∃ CN, CA * CB = CN := ⟨_, rfl⟩
  obtain ⟨P1, hP1⟩ : ∃ P1, q * CB = P1 := ⟨_, rfl⟩
  obtain ⟨p, hp⟩ : ∃ p, P1 + r = p := ⟨_, rfl⟩
  rw [hCN] at z1 z2 z4
  rw [hP1, hp] at z4 z5
  have hP1p : P1 ≤ p := by omega
  have hmN : (CA : Int) * (CB : Int) = (CN : Int) := by rw [← hCN]; exact (Int.natCast_mul _ _).symm
  have hm1 : (q : Int) * (CB : Int) = (P1 : Int) := by rw [← hP1]; exact (Int.natCast_mul _ _).symm
  have hw0 : IntKind.i64.wrap ((CA : Int) * (CB : Int)) = (CN : Int) := by rw [hmN, IntKind.wrap_i64]; omega
  have hw1 : IntKind.i64.wrap ((q : Int) * (CB : Int)) = (P1 : Int) := by rw [hm1, IntKind.wrap_i64]; omega
  have hw2 : IntKind.i64.wrap ((P1 : Int) + (r : Int)) = (p : Int) := by rw [IntKind.wrap_i64]; omega
  obtain ⟨_, _, _, _, he, -, hcr⟩ := HX5.out.formC
  simp only [Value.agg.injEq, Array.mk.injEq, List.cons.injEq, Value.slice.injEq, and_true] at he
  obtain ⟨-, ⟨hm2, hg3, hm3⟩⟩ := he
  rw [← hm2] at hcr
  rw [z1] at hg3
  obtain ⟨abz, cbz, hfz⟩ := cells_fn hcr
  obtain ⟨bx, ox, hmx, -, hbx, hfz2⟩ := hfz (by omega)
  subst hmx
  have hg4 := hg3.symm
  clear hg3
  subst hg4
  obtain ⟨e0, e1, e2, -⟩ := hfz2 p (by omega)
  rw [z5] at e0 e1 e2
  replace e2 : w5.cell? ⟨bx, ox + p * 3 + 2, none⟩ = some (.slice (abz p) 0 (cbz p)) := e2
  generalize abz p = xa at *
  generalize cbz p = xd at *
  have bX := VV.bel
  have B5 := HB7.out.trans (bX.mono HB7.out.size)
  have BX := HJ7.out.trans (bX.mono HJ7.out.size)
  have hlx : vb < wx.heap.size := VV.z.lt
  have KS8 : Hid (∀ W, Below wx.heap.size wx W → Below wx.heap.size wx W ∧ W.cell? ⟨w.heap.size, 1, none⟩ = some (.slice (some ⟨pb, po, none⟩) CA k2) ∧ W.cell? ⟨w.heap.size + 1, 1, none⟩ = some (.slice (some ⟨rb, ro, none⟩) CB l2) ∧ W.cell? ⟨xb, 1, none⟩ = some (.slice (some ⟨bx, ox, none⟩) CN m3) ∧ W.cell? ⟨vb, 0, none⟩ = some (.int .i64 0) ∧ W.cell? ⟨vb, 1, none⟩ = some (.int .i64 V) ∧ W.cell? ⟨vb, 2, none⟩ = some (.slice none 0 0) ∧ W.cell? ⟨bx, ox + p * 3, none⟩ = some (.int .i64 0) ∧ W.cell? ⟨bx, ox + p * 3 + 1, none⟩ = some (.int .i64 V) ∧ W.cell? ⟨bx, ox + p * 3 + 2, none⟩ = some (.slice xa 0 xd)) := fun W h =>
    have b5 := B5.trans (h.mono B5.size)
    have b7 := bX.trans (h.mono bX.size)
    ⟨h, (KS2.out W b7).2.1, (KS2.out W b7).2.2, (b5.cell (p := ⟨xb, 1, none⟩) HEL.out.1).trans HEL.out.2.2, (h.cell (p := ⟨vb, 0, none⟩) hlx).trans VV.z.c0, (h.cell (p := ⟨vb, 1, none⟩) hlx).trans VV.z.c1, (h.cell (p := ⟨vb, 2, none⟩) hlx).trans VV.z.c2, (b5.cell (p := ⟨bx, ox + p * 3, none⟩) hbx).trans e0, (b5.cell (p := ⟨bx, ox + p * 3 + 1, none⟩) hbx).trans e1, (b5.cell (p := ⟨bx, ox + p * 3 + 2, none⟩) hbx).trans e2⟩
  have CCX : Hid (∀ W, Below wx.heap.size wx W → Calls Tryd.prog 20 #[.agg #[.int .i64 0, .int .i64 V, .slice none 0 0], .agg #[.int .i64 0, .int .i64 V, .slice xa 0 xd]] W fun e w' => e = .returned (.int .i64 0) ∧ Below wx.heap.size wx w') := fun W h => by
    have C := rcell_any 0 (rcmp_any 0) (0, V, []) (0, V, []) 0 0 W (.int .i64 0) (.int .i64 V) (.slice none 0 0) (.int .i64 0) (.int .i64 V) (.slice xa 0 xd) ⟨rfl, rfl, none, 0, rfl, by simp, Or.inl rfl⟩ ⟨rfl, rfl, xa, xd, rfl, by simp, Or.inl rfl⟩
    rw [cmpC_self (cmpA_self 0)] at C
    refine C.mono ?_
    rintro e w' ⟨rfl, hb'⟩
    exact ⟨rfl, h.trans (hb'.mono h.size)⟩
  have CW : Hid (∀ W, Below wx.heap.size wx W → Calls Tryd.prog 11 #[] W fun e w' => e = .returned (.bool true) ∧ Below wx.heap.size wx w') := fun W h => by
    refine (works11 W (HT.out W (BX.trans (h.mono BX.size)))).mono ?_
    rintro e w' ⟨rfl, hb'⟩
    exact ⟨rfl, h.trans (hb'.mono h.size)⟩
  have HBW := hide (HB.out wx BX)
  have HDX : Hid (Below wx.heap.size wx wx.drew) := (Below.refl _ _).drew
  have zp : (p : Int) < (CN : Int) := by omega
  have zp0 : (0 : Int) ≤ (p : Int) := by omega
  clear z1 z2 z4 z5 hCN hP1 hp hP1p hmN hm1 hcr hfz hfz2 e0 e1 e2 bX B5 BX hlx VV HX5 HZ hm2 hm3 hbx KS2 CC KS7 HD0 HD1 HAL HSET HLE HEL HB7 HJ7 HT HB zq zr zq0 zr0
  try go_upto_region 8 with fail
  go_region_held3 (fun W => Below wx.heap.size wx W ∧ W.cell? ⟨w.heap.size, 1, none⟩ = some (.slice (some ⟨pb, po, none⟩) CA k2) ∧ W.cell? ⟨w.heap.size + 1, 1, none⟩ = some (.slice (some ⟨rb, ro, none⟩) CB l2) ∧ W.cell? ⟨xb, 1, none⟩ = some (.slice (some ⟨bx, ox, none⟩) CN m3) ∧ W.cell? ⟨vb, 0, none⟩ = some (.int .i64 0) ∧ W.cell? ⟨vb, 1, none⟩ = some (.int .i64 V) ∧ W.cell? ⟨vb, 2, none⟩ = some (.slice none 0 0) ∧ W.cell? ⟨bx, ox + p * 3, none⟩ = some (.int .i64 0) ∧ W.cell? ⟨bx, ox + p * 3 + 1, none⟩ = some (.int .i64 V) ∧ W.cell? ⟨bx, ox + p * 3 + 2, none⟩ = some (.slice xa 0 xd))
    (first | with_reducible exact KS8.out _ HDX.out | with_reducible exact KS8.out _ (by with_reducible assumption))
    (first | (go_at_call 20; (with_reducible refine (CCX.out _ HDX.out).mono ?_); rintro e wA ⟨rfl, gA⟩) | (go_at_call 11; (with_reducible refine (CW.out _ (by with_reducible assumption)).mono ?_); rintro e wB ⟨rfl, gB⟩))
  all_goals
    have HF := hide (HBW.out.trans (gB.mono HBW.out.size))
    clear gA gB KS8 HDX CCX CW
    go_wp2
    go_ret
    exact ⟨rfl, HF.out⟩
theorem walk (op : Int) (n0 : Nat) (x : Ar) (c0 c1 : Value) (n1 : Nat) (y : Ar) (p0 p1 : Value) (ii kk : Int) (w : World) (T : Tab w) (ho : I64 op) (hx : ArIn n0 0 w x (.agg #[c0, c1])) (sx : Snd x) (hy : ArIn n1 0 w y (.agg #[p0, p1])) (sy : Snd y) (hi : I64 ii) (hk : I64 kk) :
    Calls Tryd.prog 8 #[.int .i64 op, .agg #[c0, c1], .agg #[p0, p1], .int .i64 ii, .int .i64 kk] w fun e w' => e = .returned (.bool true) ∧ Below w.heap.size w w' :=
  walk1 op (n0 + n1) x y c0 c1 p0 p1 ii kk w T (hx.deep (by omega)) sx (hy.deep (by omega)) sy
theorem laid_met (os : Os) : laidMet Tryd.prog Rows.foldCellsRow.laid ((laidWorld os).forCall (fun _ _ => 0) ⟨#[], #[.int .i64 0, .agg #[.slice none 0 0, .slice none 0 0], .agg #[.slice none 0 0, .slice none 0 0], .int .i64 0, .int .i64 0], []⟩).memory :=
  laidMet_of_run' 8 (by kernel_rfl) (by kernel_rfl)
theorem reads (os : Os) {H : Type} (enc : TypeId × Value → H) : ∃ places, DataW.whole enc Tryd.prog ((laidWorld os).forCall (fun _ _ => 0) ⟨#[], #[.int .i64 0, .agg #[.slice none 0 0, .slice none 0 0], .agg #[.slice none 0 0, .slice none 0 0], .int .i64 0, .int .i64 0], []⟩).memory Tryd.f8.params.toList Rows.foldCellsSpec.vars false #[Value.int .i64 0, Value.agg #[.slice none 0 0, .slice none 0 0], Value.agg #[.slice none 0 0, .slice none 0 0], Value.int .i64 0, Value.int .i64 0].toList 8 = some ([.lit (.int .i64 0), .agg [.nil, .nil], .agg [.nil, .nil], .lit (.int .i64 0), .lit (.int .i64 0)], [], places) :=
  ⟨[], by kernel_rfl⟩
set_option maxRecDepth 100000 in
theorem lifted (os : Os) (started : os.Started) (H : Type) (enc : TypeId × Value → H) (F : Stop.Interp) :
    ReturnsInHanded {} Tryd.checked os 8 .any ((OpenSpec.ofChange Rows.foldCellsSpec).preRow enc Tryd.prog Tryd.f8 Rows.foldCellsRow.domain false Rows.foldCellsRow.laid) (((OpenSpec.ofChange Rows.foldCellsSpec).at F).post enc Tryd.prog Tryd.f8 false true false false) := by
  obtain ⟨places, hx⟩ := reads os enc
  refine returnsInHanded_of_row (C := Tryd.checked) (s := OpenSpec.ofChange Rows.foldCellsSpec) own started (by kernel_rfl) Tryd.func8
    (witness_row_at (enc := enc) (C := Tryd.checked) false (laidWorld os) #[.int .i64 0, .agg #[.slice none 0 0, .slice none 0 0], .agg #[.slice none 0 0, .slice none 0 0], .int .i64 0, .int .i64 0] rfl (by kernel_rfl) (by kernel_rfl) (by kernel_rfl)
      (OpenSpec.preRow_of_cond 8 hx (by kernel_rfl) (fun k hk => by cases hk) (by kernel_rfl) (laid_met os))) ?_
  intro W base args ds gs before hval0 hW _ hcond hsz0 hL _ _
  have hsz : (DataW.weightsEach Tryd.prog (Tryd.f8.params.toList ++ Rows.foldCellsSpec.plain.varTypes Tryd.prog) (ds ++ gs)).all (· ≤ reachBytes) = true := hsz0
  clear hsz0
  have hval : ∀ (j : Nat) t v, Tryd.f8.params[j]? = some t → args[j]? = some v → Value.okWide Tryd.prog W .any base t v := hval0
  have hW' := hW
  obtain ⟨p, q, hA0, hV, rfl, hfz, hnd⟩ := hW
  have hA : DataW.TrodAll enc Tryd.prog W 0 (fun _ => true) true Tryd.f8.params.toList args.toList ds p := hA0
  rw [Tryd.params8] at hA hval hsz
  obtain ⟨v0, vs0, d0, ds0, p0, q0, hargs, rfl, rfl, h0, r0⟩ := trodAll_cons hA
  obtain ⟨v1, vs1, d1, ds1, p1, q1, rfl, rfl, rfl, h1, r1⟩ := trodAll_cons r0
  obtain ⟨v2, vs2, d2, ds2, p2, q2, rfl, rfl, rfl, h2, r2⟩ := trodAll_cons r1
  obtain ⟨v3, vs3, d3, ds3, p3, q3, rfl, rfl, rfl, h3, r3⟩ := trodAll_cons r2
  obtain ⟨v4, vs4, d4, ds4, p4, q4, rfl, rfl, rfl, h4, r4⟩ := trodAll_cons r3
  obtain ⟨rfl, rfl, rfl⟩ := trodAll_nil r4
  obtain rfl : args = #[v0, v1, v2, v3, v4] := by cases args; simp_all
  obtain ⟨rfl, rfl⟩ := trodVars_none hV
  obtain ⟨x0, rfl, rfl, rfl, w0⟩ := open_int Tryd.underlying3 (hval 0 3 v0 rfl rfl) h0
  have k1 := h1
  have lt1 : ∀ x ∈ p1, x.block < W.heap.size := by obtain ⟨m, hm⟩ := k1; exact DataW.trod_lt m _ _ _ hm
  obtain ⟨n1, y1, c10, c11, hc1, w1, s1⟩ := arr_of hsz (j := 1) rfl rfl h1
  obtain rfl := agg_two hc1
  have k2 := h2
  have lt2 : ∀ x ∈ p2, x.block < W.heap.size := by obtain ⟨m, hm⟩ := k2; exact DataW.trod_lt m _ _ _ hm
  obtain ⟨n2, y2, c20, c21, hc2, w2, s2⟩ := arr_of hsz (j := 2) rfl rfl h2
  obtain rfl := agg_two hc2
  obtain ⟨x3, rfl, rfl, rfl, w3⟩ := open_int Tryd.underlying3 (hval 3 3 v3 rfl rfl) h3
  obtain ⟨x4, rfl, rfl, rfl, w4⟩ := open_int Tryd.underlying3 (hval 4 3 v4 rfl rfl) h4
  clear hA0 hval0
  refine (walk x0 n1 y1 c10 c11 n2 y2 c20 c21 x3 x4 W (tab_of hL) (bounds_i64 w0) w1 s1 w2 s2 (bounds_i64 w3) (bounds_i64 w4)).mono fun e W' ⟨he, bel⟩ => ?_
  subst he
  exact ⟨_, rfl, _, _, _, [], _, [], hW', trodAll_mk1 (shut_bool Tryd.underlying4 _), (trodAll_cons_mk (shut_int Tryd.underlying3 w0) (trodAll_cons_mk (Below.trod laidOut (by kernel_rfl) (of_decide_eq_true (by kernel_rfl)) k1 bel lt1) (trodAll_cons_mk (Below.trod laidOut (by kernel_rfl) (of_decide_eq_true (by kernel_rfl)) k2 bel lt2) (trodAll_cons_mk (shut_int Tryd.underlying3 w3) (trodAll_cons_mk (shut_int Tryd.underlying3 w4) trodAll_mk0))))), rfl, bel.frame _, fun h => by cases h⟩
theorem said : Rows.FoldCellsSaid :=
  OpenClaim.holds_of_cond 8 Tryd.f8 rfl rfl rfl rfl rfl rfl rfl ⟨rfl, rfl, rfl, rfl, rfl⟩ rfl rfl rfl rfl rfl (by kernel_rfl) Tryd.func8 (by kernel_rfl)
    (of_decide_eq_true (by kernel_rfl)) (by unfold Func.isWrapper; first | (rw [if_pos (by decide +kernel)]; kernel_rfl) | (rw [if_neg (by decide +kernel)]; exact ⟨rfl, rfl⟩))
    (fun os started H enc _ F => by rw [OpenClaim.pre_eq_preRow]; exact lifted os started H enc F)
theorem plain (f : FuncId) (fn : Func) (hf : Tryd.pinned.checked.prog.funcNamed "triglyph/triglyphlaw08.FoldCells" = some f) (hfn : Tryd.pinned.checked.prog.funcs[f]? = some fn) :
    false = Tryd.pinned.checked.prog.looks [] ∧ ∀ (j : Nat) t, fn.params[j]? = some t → Tryd.pinned.checked.prog.wantsStandIn t = false := by
  obtain rfl : f = 8 := Option.some.inj ((show Tryd.prog.funcNamed "triglyph/triglyphlaw08.FoldCells" = some 8 by kernel_rfl).symm.trans hf) |>.symm
  obtain rfl : fn = Tryd.f8 := (Option.some.inj (Tryd.func8.symm.trans hfn)).symm
  refine ⟨by kernel_rfl, fun j t ht => ?_⟩
  rw [Tryd.params8] at ht
  have hm : t = 3 ∨ t = 25 ∨ t = 25 ∨ t = 3 ∨ t = 3 := by simpa using Array.mem_of_getElem? ht
  rcases hm with rfl | rfl | rfl | rfl | rfl
  · exact (show Tryd.prog.wantsStandIn 3 = false by kernel_rfl)
  · exact (show Tryd.prog.wantsStandIn 25 = false by kernel_rfl)
  · exact (show Tryd.prog.wantsStandIn 25 = false by kernel_rfl)
  · exact (show Tryd.prog.wantsStandIn 3 = false by kernel_rfl)
  · exact (show Tryd.prog.wantsStandIn 3 = false by kernel_rfl)
theorem proved : Rows.FoldCellsCardSaid :=
  Claim7.holds_tied_plain_at .later [] _ _ _ _ said (fun _ h => by cases h) (by kernel_rfl) (fun _ h => by cases h) foldCells_row_tie rfl ⟨rfl, rfl⟩ (by kernel_rfl) rfl plain (by kernel_rfl)
end Go.Proofs.YtlfacpclihmnnaaDoor.foldCells
namespace Go.Proofs.YtlfacpclihmnnaaDoor
theorem foldCells_holds : Rows.FoldCellsCardSaid := foldCells.proved
#print axioms foldCells_holds
end Go.Proofs.YtlfacpclihmnnaaDoor
