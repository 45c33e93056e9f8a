/-
  The statements' own example: it holds.
-/
import Derived.Test.YtljanfmmhglpiaaDoorLxO
import Derived.Test.YtljanfmmhglpiaaDoorOwnY
import Derived.Test.YtljanfmmhglpiaaDoorOwnAC
namespace Go.Proofs.YtljanfmmhglpiaaDoor
open Go.ChangeShapes Go.WideShapes Go.ChangeAt Go.RowKit
open Rn (Byte)
set_option maxRecDepth 100000
set_option linter.unusedVariables false
set_option linter.unusedSimpArgs false
theorem lexW1 : lexM (numsS ⟨#[97, 58, 32, 43, 47, 32, 49, 32, 45, 50, 32, 47, 32, 120]⟩) = ([⟨3, [97], nilA, 0⟩, ⟨7, [58], nilA, 1⟩, ⟨4, [43], nilA, 3⟩, ⟨4, [47], nilA, 4⟩, ⟨1, [], numsA [1, -2], 6⟩], 0, 0) := by kernel_rfl
theorem lexW2 : lexM (numsS ⟨#[97, 45, 49]⟩) = ([⟨3, [97], nilA, 0⟩, ⟨4, [45], nilA, 1⟩, ⟨1, [], atomA 1, 2⟩], 0, 0) := by kernel_rfl
theorem lexW3 : lexM (numsS ⟨#[49, 32, 34, 97]⟩) = ([], 2, 2) := by kernel_rfl
theorem row12 (w : World) : Row 0 (w.alloc (.cells #[.int .i64 1, .int .i64 (-2)] 2)) (some ⟨w.heap.size, 0, none⟩) [1, -2] := by
  refine ⟨by decide, Or.inr ⟨w.heap.size, 0, rfl, Nat.zero_le _, by simp, fun i hi => ?_⟩⟩
  have hi' : i < 2 := hi
  rcases (by omega : i = 0 ∨ i = 1) with rfl | rfl
  · exact cell_new0 w _ 2 0 _ rfl
  · exact cell_new0 w _ 2 1 _ rfl
set_option maxHeartbeats 8000000 in
theorem works7 {w : World} (G : Glb w) : Calls Tryd.prog 7 #[] w fun e w' => e = .returned (.bool true) ∧ Below w.heap.size w w' := by
  have C1 := lex8 G ⟨#[97, 58, 32, 43, 47, 32, 49, 32, 45, 50, 32, 47, 32, 120]⟩ (by decide)
  rw [lexW1] at C1
  have HG : Hid (∀ W, Below w.heap.size w W → Glb W) := fun W h => G.nx h
  have HC1 := hide C1
  clear C1 G
  go_enter Tryd.func7, Tryd.ntmps7
  go_wp2_with fail
  refine HC1.out.mono ?_
  rintro e w1 ⟨⟨a, c, rfl, htk⟩, hb1⟩
  clear HC1
  rcases htk.2 with h | ⟨g, off, rfl, hg, hcs⟩
  · cases h
  obtain ⟨y1, k1, y2, k2, q1, -, -, -, -, -⟩ := hcs 1 _ rfl
  obtain ⟨z1, m1, z2, m2, -, -, q3, q4, -, hA⟩ := hcs 4 _ rfl
  clear hcs htk
  have q1' : w1.cell? ⟨g, off + 5, none⟩ = some (.int .i64 7) := q1
  have q3' : w1.cell? ⟨g, off + 22, none⟩ = some (.slice z1 1 m1) := q3
  have q4' : w1.cell? ⟨g, off + 23, none⟩ = some (.slice z2 2 m2) := q4
  have hA' : ArIn 1 0 w1 (numsA [1, -2]) (.agg #[.slice z1 1 m1, .slice z2 2 m2]) := hA
  obtain ⟨W2, hW2⟩ : ∃ W2, w1.alloc (.cells #[.int .i64 0, .int .i64 0, .int .i64 0] 26) = W2 := ⟨_, rfl⟩
  have hb2 : Below w1.heap.size w1 W2 := by rw [← hW2]; exact one_alloc _ _
  have r0 : W2.cell? ⟨w1.heap.size, 0, none⟩ = some (.int .i64 0) := by rw [← hW2]; exact cell_new0 w1 _ 26 0 _ rfl
  have hlt2 : w1.heap.size < W2.heap.size := by rw [← hW2]; simp
  have HB2 := hide (hb1.trans (hb2.mono hb1.size))
  have C2 := lex8 (HG.out W2 HB2.out) ⟨#[97, 45, 49]⟩ (by decide)
  rw [lexW2] at C2
  have HC2 := hide C2
  have HW2 := hide hW2
  have HL2 := hide hlt2
  have HQ := hide (And.intro ((hb2.cell (p := ⟨g, off + 5, none⟩) hg).trans q1') (And.intro ((hb2.cell (p := ⟨g, off + 22, none⟩) hg).trans q3') (And.intro ((hb2.cell (p := ⟨g, off + 23, none⟩) hg).trans q4') (And.intro r0 (And.intro (hA'.next hb2) (Nat.lt_of_lt_of_le hg hb2.size))))))
  clear C2 hW2 q1 q3 q4 hA q1' q3' q4' hA' hb2 hb1 r0 hlt2
  go_wp2_with fail
  rw [show w1.alloc (.cells #[.int .i64 (([⟨3, [97], nilA, 0⟩, ⟨7, [58], nilA, 1⟩, ⟨4, [43], nilA, 3⟩, ⟨4, [47], nilA, 4⟩, ⟨1, [], numsA [1, -2], 6⟩] : List Tk), (0 : Int), (0 : Nat)).2.1, .int .i64 0, .int .i64 0] 26) = W2 from HW2.out]
  refine HC2.out.mono ?_
  rintro e w3 ⟨⟨a3, c3, rfl, -⟩, hb3⟩
  clear HC2
  obtain ⟨p1, p3, p4, p5, hA, hg2⟩ := HQ.out
  obtain ⟨W4, hW4⟩ : ∃ W4, w3.alloc (.cells #[.int .i64 0, .int .i64 0, .int .i64 0] 26) = W4 := ⟨_, rfl⟩
  have hb4 : Below w3.heap.size w3 W4 := by rw [← hW4]; exact one_alloc _ _
  have hb24 : Below W2.heap.size W2 W4 := hb3.trans (hb4.mono hb3.size)
  have s0 : W4.cell? ⟨w3.heap.size, 0, none⟩ = some (.int .i64 0) := by rw [← hW4]; exact cell_new0 w3 _ 26 0 _ rfl
  have hlt4 : w3.heap.size < W4.heap.size := by rw [← hW4]; simp
  have HB4 := hide (HB2.out.trans (hb24.mono HB2.out.size))
  have C3 := lex8 (HG.out W4 HB4.out) ⟨#[49, 32, 34, 97]⟩ (by decide)
  rw [lexW3] at C3
  have HC3 := hide C3
  have HW4 := hide hW4
  have HL4 := hide hlt4
  have HQ2 := hide (And.intro ((hb24.cell (p := ⟨g, off + 5, none⟩) hg2).trans p1) (And.intro ((hb24.cell (p := ⟨g, off + 22, none⟩) hg2).trans p3) (And.intro ((hb24.cell (p := ⟨g, off + 23, none⟩) hg2).trans p4) (And.intro ((hb24.cell (p := ⟨w1.heap.size, 0, none⟩) HL2.out).trans p5) (And.intro (hA.next hb24) (And.intro (Nat.lt_of_lt_of_le hg2 hb24.size) (And.intro (Nat.lt_of_lt_of_le HL2.out hb24.size) s0)))))))
  clear C3 hW4 hA p1 p3 p4 p5 hb3 hb4 hb24 s0 hlt4 HQ
  go_wp2_with fail
  rw [show w3.alloc (.cells #[.int .i64 (([⟨3, [97], nilA, 0⟩, ⟨4, [45], nilA, 1⟩, ⟨1, [], atomA 1, 2⟩] : List Tk), (0 : Int), (0 : Nat)).2.1, .int .i64 0, .int .i64 0] 26) = W4 from HW4.out]
  refine HC3.out.mono ?_
  rintro e w5 ⟨⟨a5, c5, rfl, -⟩, hb5⟩
  clear HC3
  obtain ⟨p1, p3, p4, p5, hA, hg4, hg14, p6⟩ := HQ2.out
  obtain ⟨W6, hW6⟩ : ∃ W6, w5.alloc (.cells #[.int .i64 2, .int .i64 2, .int .i64 0] 26) = W6 := ⟨_, rfl⟩
  have hb6 : Below w5.heap.size w5 W6 := by rw [← hW6]; exact one_alloc _ _
  have hb46 : Below W4.heap.size W4 W6 := hb5.trans (hb6.mono hb5.size)
  have s0 : W6.cell? ⟨w5.heap.size, 0, none⟩ = some (.int .i64 2) := by rw [← hW6]; exact cell_new0 w5 _ 26 0 _ rfl
  have s1 : W6.cell? ⟨w5.heap.size, 1, none⟩ = some (.int .i64 2) := by rw [← hW6]; exact cell_new0 w5 _ 26 1 _ rfl
  have hlt6 : w5.heap.size < W6.heap.size := by rw [← hW6]; simp
  have HB6 := hide (HB4.out.trans (hb46.mono HB4.out.size))
  have KS : Hid (∀ W, Below W6.heap.size W6 W → Below W6.heap.size W6 W ∧ W.cell? ⟨g, off + 5, none⟩ = some (.int .i64 7) ∧ W.cell? ⟨g, off + 22, none⟩ = some (.slice z1 1 m1) ∧ W.cell? ⟨g, off + 23, none⟩ = some (.slice z2 2 m2) ∧ W.cell? ⟨w1.heap.size, 0, none⟩ = some (.int .i64 0) ∧ W.cell? ⟨w3.heap.size, 0, none⟩ = some (.int .i64 0) ∧ W.cell? ⟨w5.heap.size, 0, none⟩ = some (.int .i64 2) ∧ W.cell? ⟨w5.heap.size, 1, none⟩ = some (.int .i64 2)) := fun W h => by
    have hh := hb46.trans (h.mono hb46.size)
    exact ⟨h, (hh.cell (p := ⟨g, off + 5, none⟩) hg4).trans p1, (hh.cell (p := ⟨g, off + 22, none⟩) hg4).trans p3, (hh.cell (p := ⟨g, off + 23, none⟩) hg4).trans p4, (hh.cell (p := ⟨w1.heap.size, 0, none⟩) hg14).trans p5, (hh.cell (p := ⟨w3.heap.size, 0, none⟩) HL4.out).trans p6, (h.cell (p := ⟨w5.heap.size, 0, none⟩) hlt6).trans s0, (h.cell (p := ⟨w5.heap.size, 1, none⟩) hlt6).trans s1⟩
  have HAR : Hid (∀ W, Below W6.heap.size W6 W → ArIn 1 0 W (numsA [1, -2]) (.agg #[.slice z1 1 m1, .slice z2 2 m2])) := fun W h => hA.next (hb46.trans (h.mono hb46.size))
  have HNU : Hid (∀ W, W.heap.size = W6.heap.size → Below W6.heap.size W6 W → Calls Tryd.prog 14 #[.slice (some ⟨W6.heap.size, 0, none⟩) 2 2] (W.alloc (.cells #[.int .i64 1, .int .i64 (-2)] 2)) fun e w' => (∃ v, e = .returned v ∧ ArIn 1 0 w' (numsA [1, -2]) v) ∧ Below W6.heap.size W6 w') := fun W hs h => by
    have R := row12 W
    rw [hs] at R
    refine (rnums_any 0 [1, -2] _ 2 _ R (by decide)).mono ?_
    rintro e w' ⟨⟨v, he, hv⟩, hb⟩
    have h1 : Below W6.heap.size W6 (W.alloc (.cells #[.int .i64 1, .int .i64 (-2)] 2)) := h.alloc (by omega) _
    exact ⟨⟨v, he, hv.low (Nat.zero_le _)⟩, h1.trans (hb.mono h1.size)⟩
  have HSA : Hid (∀ W v, Below W6.heap.size W6 W → ArIn 1 0 W (numsA [1, -2]) v → Calls Tryd.prog 12 #[.agg #[.slice z1 1 m1, .slice z2 2 m2], v] W fun e w' => e = .returned (.bool true) ∧ Below W6.heap.size W6 w') := fun W v h hv => by
    have := rsame_any (HAR.out W h) hv
    rw [show decide (cmpA 1 (numsA [1, -2]) (numsA [1, -2]) = 0) = true by decide] at this
    exact this.mono fun e w' ⟨he, hw⟩ => ⟨he, h.trans (hw.mono h.size)⟩
  have HD0 : Hid (Below W6.heap.size W6 W6.drew) := (Below.refl _ _).drew
  have HAL : Hid (Below W6.heap.size W6 (W6.alloc (.cells #[.int .i64 1, .int .i64 (-2)] 2)).drew) := (one_alloc _ _).drew
  have HNU' : Hid (Calls Tryd.prog 14 #[.slice (some ⟨W6.heap.size, 0, none⟩) 2 2] (W6.alloc (.cells #[.int .i64 1, .int .i64 (-2)] 2)).drew fun e w' => (∃ v, e = .returned v ∧ ArIn 1 0 w' (numsA [1, -2]) v) ∧ Below W6.heap.size W6 w') := HNU.out W6.drew rfl HD0.out
  have HW6 := hide hW6
  clear hA p1 p3 p4 p5 p6 hb5 hb6 hb46 s0 s1 hW6 HQ2 HAR
  go_upto_region 4 with fail
  rw [HW6.out]
  obtain ⟨-, g1, g3, g4, g5, g6, g7, g8⟩ := KS.out W6 (Below.refl _ _)
  go_region_held3 (fun W => Below W6.heap.size W6 W ∧ W.cell? ⟨g, off + 5, none⟩ = some (.int .i64 7) ∧ W.cell? ⟨g, off + 22, none⟩ = some (.slice z1 1 m1) ∧ W.cell? ⟨g, off + 23, none⟩ = some (.slice z2 2 m2) ∧ W.cell? ⟨w1.heap.size, 0, none⟩ = some (.int .i64 0) ∧ W.cell? ⟨w3.heap.size, 0, none⟩ = some (.int .i64 0) ∧ W.cell? ⟨w5.heap.size, 0, none⟩ = some (.int .i64 2) ∧ W.cell? ⟨w5.heap.size, 1, none⟩ = some (.int .i64 2)) (first | with_reducible exact KS.out _ HD0.out | with_reducible exact KS.out _ HAL.out | with_reducible exact KS.out _ (by with_reducible assumption)) (first | (go_at_call 14; refine HNU'.out.mono ?_; rintro e w7 ⟨⟨v7, rfl, hv7⟩, hb7⟩) | (go_at_call 12; refine (HSA.out _ _ (by with_reducible assumption) (by with_reducible assumption)).mono ?_; rintro e w8 ⟨rfl, hb8⟩))
  all_goals
    go_wp2
    go_ret
    exact ⟨rfl, HB6.out.trans ((show Below W6.heap.size W6 _ by assumption).mono HB6.out.size)⟩
end Go.Proofs.YtljanfmmhglpiaaDoor
