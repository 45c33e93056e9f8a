/-
  The statements' own example (works).
-/
import Derived.Test.YtkgpoibnilgaeaaCoR
import Derived.Test.YtkgpoibnilgaeaaOwnZ
namespace Go.Proofs.Ytkgpoibnilgaeaa
open Go.ChangeShapes Go.WideShapes Go.ChangeAt Go.RowKit
set_option linter.unusedVariables false
set_option linter.unusedSimpArgs false
theorem same_self {n m lo : Nat} {w : World} {x : Nd} {v : Value} (h : NdIn m n lo w x v) : sameN n m x x = true := by
  induction m generalizing x v with
  | zero => exact h.elim
  | succ m ih =>
    obtain ⟨m', hm, a1, c1, a2, c2, ak, ck, rfl, hA, hl, hs, hK⟩ := h.form
    obtain rfl : m = m' := by omega
    simp only [sameN]
    rw [cmpA_self, anyUp_none.2 fun i hi => by
      obtain ⟨b, off, d1, e1, d2, e2, dk, ek, -, -, -, hw⟩ := kid_at hK hi
      rw [ih (hw w (Below.refl _ _)).2]
      rfl]
    simp
theorem name_ab1 : nameB { data := #[97, 98, 49] } = true := by decide
theorem name_x : nameB { data := #[120] } = false := by decide
theorem lit_atom (z : Int) : litB (atomA z) = true := by
  unfold litB
  rw [chk_atom]
  simp [atomL, atomA, Ar.shape, Ar.cells, numCs, allC, anyUp, numC, cAt]
def wN : Nd := oneD (primD 1) (litD (atomA 5))
theorem w_err : errN 2 wN = 0 := by
  have h : gdB 2 wN = true := by
    simp [gdB, sizeN, deepN, exprN, wN, oneD, primD, litD, Nd.kind, Nd.kids, Nd.op, Nd.name, Nd.lit, nAt, sumUp, maxUp, bareB, bareL, moB, primB, primL, lit_atom, noN, noS, noA, Ar.shape, Ar.cells]
    try omega
  unfold errN
  rw [if_pos h]
theorem w_err3 : errN 1 (leafD 3) = 1 := by
  have h : ¬ gdB 1 (leafD 3) = true := by
    simp [gdB, exprN, leafD, Nd.kind]
  unfold errN
  rw [if_neg h]
theorem w_size : sizeN 2 wN = 3 := by simp [sizeN, wN, oneD, primD, litD, Nd.kids, nAt, sumUp]

set_option maxHeartbeats 4000000 in
theorem works9 (w : World) : Calls Try.prog 9 #[] w fun e w' => e = .returned (.bool true) ∧ Below w.heap.size w w' := by
  have C1 := prim25 0 0 1 w
  go_enter Try.func9, Try.ntmps9
  go_wp2_with fail
  refine C1.mono ?_
  clear C1
  rintro e w1 ⟨⟨v1, rfl, hN1⟩, hb1⟩
  have C2 := ratom_any 0 5 w1
  have H1 := hide hN1
  have HB1 := hide hb1
  clear hN1 hb1
  go_wp2_with fail
  refine C2.mono ?_
  clear C2
  rintro e w2 ⟨⟨v2, rfl, hA2⟩, hb2⟩
  have C3 := lit30 0 1 (atomA 5) v2 w2 (hA2.mono (Nat.zero_le _) (Below.refl _ _))
  have H2 := hide (H1.out.next hb2)
  have HB2 := hide (HB1.out.trans (hb2.mono HB1.out.size))
  clear hA2 hb2
  go_wp2_with fail
  refine C3.mono ?_
  clear C3
  rintro e w3 ⟨⟨v3, rfl, hN3⟩, hb3⟩
  have C4 := one24 1 0 (primD 1) (litD (atomA 5)) v1 v3 w3 (H2.out.next hb3) hN3
  have HB3 := hide (HB2.out.trans (hb3.mono HB2.out.size))
  clear hN3 hb3 H1 H2
  go_wp2_with fail
  refine C4.mono ?_
  clear C4
  rintro e w4 ⟨⟨v4, rfl, hN4⟩, hb4⟩
  have HB4 := hide (HB3.out.trans (hb4.mono HB3.out.size))
  clear hb4 HB1 HB2 HB3
  change NdIn 2 1 0 w4 wN v4 at hN4
  have hNN := hN4
  obtain ⟨m', hm', a1, c1, a2, c2, ak, ck, rfl, -, hl, hs, -⟩ := hN4.letters
  have X0 := hide (box7_new w4 wN.kind wN.op wN.name (.slice a1 wN.lit.shape.length c1) (.slice a2 wN.lit.cells.length c2) (.slice ak wN.kids.length ck) wN.pos)
  have HC := hide (fun wr (hwr : Below w4.heap.size w4 wr) => check10 2 1 wN 0 _ wr (hNN.next hwr))
  have HS := hide (fun wr (hwr : Below w4.heap.size w4 wr) => same21 2 1 wN wN 0 0 _ _ wr (hNN.next hwr) (hNN.next hwr))
  have HZ := hide (fun wr (hwr : Below w4.heap.size w4 wr) => size12 2 1 wN 0 _ wr (hNN.next hwr) (by rw [w_size]; omega))
  have HC3 := hide (fun wr => check10 1 1 (leafD 3) 0 _ wr (leaf_in 1 0 wr 3 0 noA none 0 none 0 (noA_in 0 0 wr) 0))
  have HA := hide (fun wr => name15 { data := #[97, 98, 49] } wr)
  have HX := hide (fun wr => name15 { data := #[120] } wr)
  rw [w_err] at HC
  rw [same_self hNN] at HS
  rw [w_size] at HZ
  rw [w_err3] at HC3
  rw [name_ab1] at HA
  rw [name_x] at HX
  have HBW : Hid (∀ wr, Below w4.heap.size w4 wr → Below w.heap.size w wr) := fun wr h => HB4.out.trans (h.mono HB4.out.size)
  have hw0 := X0.out.1
  clear hNN hN4 hm' HB4
  change Hid (∀ wr : World, Calls Try.prog 10 #[.agg #[.int .i64 3, .int .i64 0, .string { data := #[] }, .slice none 0 0, .slice none 0 0, .slice none 0 0, .int .i64 0]] wr fun e w' => e = .returned (.int .i64 1) ∧ Below wr.heap.size wr w') at HC3
  generalize wN.kind = K at *
  generalize wN.op = O at *
  generalize wN.name = S at *
  generalize wN.pos = P at *
  generalize wN.lit.shape.length = L1 at *
  generalize wN.lit.cells.length = L2 at *
  generalize wN.kids.length = LK at *
  obtain ⟨-, -, q0, q1, q2, q3, q4, q5, q6⟩ := X0.out
  go_wp2_with fail
  refine (HC.out _ hw0).mono ?_
  rintro e w5 ⟨rfl, hb5⟩
  have X5 := hide (X0.out.next hb5)
  clear hb5 q0 q1 q2 q3 q4 q5 q6
  obtain ⟨hw5, -, q0, q1, q2, q3, q4, q5, q6⟩ := X5.out
  go_wp2_with fail
  refine (HC3.out _).mono ?_
  rintro e w6 ⟨rfl, hb6⟩
  have X6 := hide (X5.out.next hb6)
  clear hb6 q0 q1 q2 q3 q4 q5 q6
  obtain ⟨hw6, -, q0, q1, q2, q3, q4, q5, q6⟩ := X6.out
  go_wp2_with fail
  refine (HS.out _ hw6).mono ?_
  rintro e w7 ⟨rfl, hb7⟩
  have X7 := hide (X6.out.next hb7)
  clear hb7 q0 q1 q2 q3 q4 q5 q6
  obtain ⟨hw7, -, q0, q1, q2, q3, q4, q5, q6⟩ := X7.out
  go_wp2_with fail
  refine (HZ.out _ hw7).mono ?_
  rintro e w8 ⟨rfl, hb8⟩
  have X8 := hide (X7.out.next hb8)
  clear hb8 q0 q1 q2 q3 q4 q5 q6
  obtain ⟨hw8, -, q0, q1, q2, q3, q4, q5, q6⟩ := X8.out
  go_wp2_with fail
  refine (HA.out _).mono ?_
  rintro e w9 ⟨rfl, hb9⟩
  have X9 := hide (X8.out.next hb9)
  clear hb9 q0 q1 q2 q3 q4 q5 q6
  obtain ⟨hw9, -, q0, q1, q2, q3, q4, q5, q6⟩ := X9.out
  go_wp2_with fail
  refine (HX.out _).mono ?_
  rintro e w10 ⟨rfl, hb10⟩
  have X10 := hide (X9.out.next hb10)
  clear hb10 q0 q1 q2 q3 q4 q5 q6
  obtain ⟨hw10, -, q0, q1, q2, q3, q4, q5, q6⟩ := X10.out
  go_wp2
  go_ret
  exact ⟨rfl, HBW.out _ hw10⟩
end Go.Proofs.Ytkgpoibnilgaeaa
