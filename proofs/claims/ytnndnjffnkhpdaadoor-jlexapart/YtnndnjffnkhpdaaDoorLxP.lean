/-
  The statements' own example: it holds.
-/
import Derived.Test.YtnndnjffnkhpdaaDoorLxO
import Derived.Test.YtnndnjffnkhpdaaDoorOwnY
import Derived.Test.YtnndnjffnkhpdaaDoorOwnAC
namespace Go.Proofs.YtnndnjffnkhpdaaDoor
open Go.ChangeShapes Go.WideShapes Go.ChangeAt Go.RowKit
open Rn (Byte)
set_option maxRecDepth 100000
set_option linter.unusedVariables false
set_option linter.unusedSimpArgs false
theorem lexW1 : lexM (numsS ⟨#[97, 61, 58, 32, 105, 46, 32, 49, 32, 95, 50, 32, 78, 66, 46, 32, 120]⟩) = ([⟨3, [97], nilA, 0⟩, ⟨7, [61, 58], nilA, 1⟩, ⟨4, [105, 46], nilA, 4⟩, ⟨1, [], numsA [1, -2], 7⟩], 0, 0) := by kernel_rfl
theorem lexW2 : lexM (numsS ⟨#[49, 32, 97, 98, 46]⟩) = ([], 2, 2) := by kernel_rfl
theorem row12 (w : World) : Row 0 (w.alloc (.cells #[.int .i64 1, .int .i64 (-2)] 2)) (some ⟨w.heap.size, 0, none⟩) [1, -2] := by
  refine ⟨by decide, Or.inr ⟨w.heap.size, 0, rfl, Nat.zero_le _, by simp, fun i hi => ?_⟩⟩
  have hi' : i < 2 := hi
  rcases (by omega : i = 0 ∨ i = 1) with rfl | rfl
  · exact cell_new0 w _ 2 0 _ rfl
  · exact cell_new0 w _ 2 1 _ rfl
set_option maxHeartbeats 8000000 in
theorem works7 {w : World} (G : Glb w) : Calls Tryd.prog 7 #[] w fun e w' => e = .returned (.bool true) ∧ Below w.heap.size w w' := by
  have C1 := lex8 G ⟨#[97, 61, 58, 32, 105, 46, 32, 49, 32, 95, 50, 32, 78, 66, 46, 32, 120]⟩ (by decide)
  rw [lexW1] at C1
  have HG : Hid (∀ W, Below w.heap.size w W → Glb W) := fun W h => G.nx h
  have HC1 := hide C1
  clear C1 G
  go_enter Tryd.func7, Tryd.ntmps7
  go_wp2_with fail
  refine HC1.out.mono ?_
  rintro e w1 ⟨⟨a, c, rfl, htk⟩, hb1⟩
  clear HC1
  rcases htk.2 with h | ⟨g, off, rfl, hg, hcs⟩
  · cases h
  obtain ⟨y1, k1, y2, k2, -, -, -, -, -, -⟩ := hcs 0 _ rfl
  obtain ⟨y1, k1, y2, k2, q1, -, -, -, -, -⟩ := hcs 1 _ rfl
  obtain ⟨y1, k1, y2, k2, -, q2, -, -, -, -⟩ := hcs 2 _ rfl
  obtain ⟨z1, m1, z2, m2, -, -, q3, q4, -, hA⟩ := hcs 3 _ rfl
  clear hcs htk
  have q1' : w1.cell? ⟨g, off + 5, none⟩ = some (.int .i64 7) := q1
  have q2' : w1.cell? ⟨g, off + 11, none⟩ = some (.string (strOfNums [105, 46])) := q2
  have q3' : w1.cell? ⟨g, off + 17, none⟩ = some (.slice z1 1 m1) := q3
  have q4' : w1.cell? ⟨g, off + 18, none⟩ = some (.slice z2 2 m2) := q4
  have hA' : ArIn 1 0 w1 (numsA [1, -2]) (.agg #[.slice z1 1 m1, .slice z2 2 m2]) := hA
  obtain ⟨W2, hW2⟩ : ∃ W2, w1.alloc (.cells #[.int .i64 0, .int .i64 0, .int .i64 0] 26) = W2 := ⟨_, rfl⟩
  have hb2 : Below w1.heap.size w1 W2 := by rw [← hW2]; exact one_alloc _ _
  have r0 : W2.cell? ⟨w1.heap.size, 0, none⟩ = some (.int .i64 0) := by rw [← hW2]; exact cell_new0 w1 _ 26 0 _ rfl
  have hlt2 : w1.heap.size < W2.heap.size := by rw [← hW2]; simp
  have HB2 := hide (hb1.trans (hb2.mono hb1.size))
  have C2 := lex8 (HG.out W2 HB2.out) ⟨#[49, 32, 97, 98, 46]⟩ (by decide)
  rw [lexW2] at C2
  have HC2 := hide C2
  have HW2 := hide hW2
  have HL2 := hide hlt2
  have HQ := hide (And.intro ((hb2.cell (p := ⟨g, off + 5, none⟩) hg).trans q1') (And.intro ((hb2.cell (p := ⟨g, off + 11, none⟩) hg).trans q2') (And.intro ((hb2.cell (p := ⟨g, off + 17, none⟩) hg).trans q3') (And.intro ((hb2.cell (p := ⟨g, off + 18, none⟩) hg).trans q4') (And.intro r0 (And.intro (hA'.next hb2) (Nat.lt_of_lt_of_le hg hb2.size)))))))
  clear C2 hW2 q1 q2 q3 q4 hA q1' q2' q3' q4' hA' hb2 hb1 r0 hlt2
  go_wp2_with fail
  rw [show w1.alloc (.cells #[.int .i64 (([⟨3, [97], nilA, 0⟩, ⟨7, [61, 58], nilA, 1⟩, ⟨4, [105, 46], nilA, 4⟩, ⟨1, [], numsA [1, -2], 7⟩] : List Tk), (0 : Int), (0 : Nat)).2.1, .int .i64 0, .int .i64 0] 26) = W2 from HW2.out]
  refine HC2.out.mono ?_
  rintro e w3 ⟨⟨a3, c3, rfl, -⟩, hb3⟩
  clear HC2
  obtain ⟨p1, p2, p3, p4, p5, hA, hg2⟩ := HQ.out
  obtain ⟨W4, hW4⟩ : ∃ W4, w3.alloc (.cells #[.int .i64 2, .int .i64 2, .int .i64 0] 26) = W4 := ⟨_, rfl⟩
  have hb4 : Below w3.heap.size w3 W4 := by rw [← hW4]; exact one_alloc _ _
  have hb24 : Below W2.heap.size W2 W4 := hb3.trans (hb4.mono hb3.size)
  have s0 : W4.cell? ⟨w3.heap.size, 0, none⟩ = some (.int .i64 2) := by rw [← hW4]; exact cell_new0 w3 _ 26 0 _ rfl
  have s1 : W4.cell? ⟨w3.heap.size, 1, none⟩ = some (.int .i64 2) := by rw [← hW4]; exact cell_new0 w3 _ 26 1 _ rfl
  have hlt4 : w3.heap.size < W4.heap.size := by rw [← hW4]; simp
  have HB4 := hide (HB2.out.trans (hb24.mono HB2.out.size))
  have KS : Hid (∀ W, Below W4.heap.size W4 W → Below W4.heap.size W4 W ∧ W.cell? ⟨g, off + 5, none⟩ = some (.int .i64 7) ∧ W.cell? ⟨g, off + 11, none⟩ = some (.string (strOfNums [105, 46])) ∧ W.cell? ⟨g, off + 17, none⟩ = some (.slice z1 1 m1) ∧ W.cell? ⟨g, off + 18, none⟩ = some (.slice z2 2 m2) ∧ W.cell? ⟨w1.heap.size, 0, none⟩ = some (.int .i64 0) ∧ W.cell? ⟨w3.heap.size, 0, none⟩ = some (.int .i64 2) ∧ W.cell? ⟨w3.heap.size, 1, none⟩ = some (.int .i64 2)) := fun W h => by
    have hh := hb24.trans (h.mono hb24.size)
    exact ⟨h, (hh.cell (p := ⟨g, off + 5, none⟩) hg2).trans p1, (hh.cell (p := ⟨g, off + 11, none⟩) hg2).trans p2, (hh.cell (p := ⟨g, off + 17, none⟩) hg2).trans p3, (hh.cell (p := ⟨g, off + 18, none⟩) hg2).trans p4, (hh.cell (p := ⟨w1.heap.size, 0, none⟩) HL2.out).trans p5, (h.cell (p := ⟨w3.heap.size, 0, none⟩) hlt4).trans s0, (h.cell (p := ⟨w3.heap.size, 1, none⟩) hlt4).trans s1⟩
  have HAR : Hid (∀ W, Below W4.heap.size W4 W → ArIn 1 0 W (numsA [1, -2]) (.agg #[.slice z1 1 m1, .slice z2 2 m2])) := fun W h => hA.next (hb24.trans (h.mono hb24.size))
  have HNU : Hid (∀ W, W.heap.size = W4.heap.size → Below W4.heap.size W4 W → Calls Tryd.prog 14 #[.slice (some ⟨W4.heap.size, 0, none⟩) 2 2] (W.alloc (.cells #[.int .i64 1, .int .i64 (-2)] 2)) fun e w' => (∃ v, e = .returned v ∧ ArIn 1 0 w' (numsA [1, -2]) v) ∧ Below W4.heap.size W4 w') := fun W hs h => by
    have R := row12 W
    rw [hs] at R
    refine (rnums_any 0 [1, -2] _ 2 _ R (by decide)).mono ?_
    rintro e w' ⟨⟨v, he, hv⟩, hb⟩
    have h1 : Below W4.heap.size W4 (W.alloc (.cells #[.int .i64 1, .int .i64 (-2)] 2)) := h.alloc (by omega) _
    exact ⟨⟨v, he, hv.low (Nat.zero_le _)⟩, h1.trans (hb.mono h1.size)⟩
  have HSA : Hid (∀ W v, Below W4.heap.size W4 W → ArIn 1 0 W (numsA [1, -2]) v → Calls Tryd.prog 10 #[.agg #[.slice z1 1 m1, .slice z2 2 m2], v] W fun e w' => e = .returned (.bool true) ∧ Below W4.heap.size W4 w') := fun W v h hv => by
    have := rsame_any (HAR.out W h) hv
    rw [show decide (cmpA 1 (numsA [1, -2]) (numsA [1, -2]) = 0) = true by decide] at this
    exact this.mono fun e w' ⟨he, hw⟩ => ⟨he, h.trans (hw.mono h.size)⟩
  have HD0 : Hid (Below W4.heap.size W4 W4.drew) := (Below.refl _ _).drew
  have HAL : Hid (Below W4.heap.size W4 (W4.alloc (.cells #[.int .i64 1, .int .i64 (-2)] 2)).drew) := (one_alloc _ _).drew
  have HNU' : Hid (Calls Tryd.prog 14 #[.slice (some ⟨W4.heap.size, 0, none⟩) 2 2] (W4.alloc (.cells #[.int .i64 1, .int .i64 (-2)] 2)).drew fun e w' => (∃ v, e = .returned v ∧ ArIn 1 0 w' (numsA [1, -2]) v) ∧ Below W4.heap.size W4 w') := HNU.out W4.drew rfl HD0.out
  have HW4 := hide hW4
  have hst : (strOfNums [105, 46]) = ⟨#[105, 46]⟩ := by decide +kernel
  rw [hst] at KS
  clear hA p1 p2 p3 p4 p5 hb3 hb4 hb24 s0 s1 hW4 HQ hst HAR
  go_upto_region 3 with fail
  rw [HW4.out]
  obtain ⟨-, g1, g2, g3, g4, g5, g6, g7⟩ := KS.out W4 (Below.refl _ _)
  go_region_held3 (fun W => Below W4.heap.size W4 W ∧ W.cell? ⟨g, off + 5, none⟩ = some (.int .i64 7) ∧ W.cell? ⟨g, off + 11, none⟩ = some (.string ⟨#[105, 46]⟩) ∧ W.cell? ⟨g, off + 17, none⟩ = some (.slice z1 1 m1) ∧ W.cell? ⟨g, off + 18, none⟩ = some (.slice z2 2 m2) ∧ W.cell? ⟨w1.heap.size, 0, none⟩ = some (.int .i64 0) ∧ W.cell? ⟨w3.heap.size, 0, none⟩ = some (.int .i64 2) ∧ W.cell? ⟨w3.heap.size, 1, none⟩ = some (.int .i64 2)) (first | with_reducible exact KS.out _ HD0.out | with_reducible exact KS.out _ HAL.out | with_reducible exact KS.out _ (by with_reducible assumption)) (first | (go_at_call 14; refine HNU'.out.mono ?_; rintro e w5 ⟨⟨v5, rfl, hv5⟩, hb5⟩) | (go_at_call 10; refine (HSA.out _ _ (by with_reducible assumption) (by with_reducible assumption)).mono ?_; rintro e w6 ⟨rfl, hb6⟩))
  all_goals
    go_wp2
    go_ret
    exact ⟨rfl, HB4.out.trans ((show Below W4.heap.size W4 _ by assumption).mono HB4.out.size)⟩
end Go.Proofs.YtnndnjffnkhpdaaDoor
