/-
  The document's Mo and Dy of nodes; for all programs.
-/
import Derived.Test.YtkgpoibnilgaeaaCoG
namespace Go.Proofs.Ytkgpoibnilgaeaa
open Go.ChangeShapes Go.WideShapes Go.ChangeAt Go.RowKit
set_option linter.unusedVariables false
set_option linter.unusedSimpArgs false

set_option maxHeartbeats 8000000 in
theorem mo52 (m : Nat) (IH : ExprC m) : CallB 52 (m + 1) (moB (exprN m true) (usesN m)) := by
  intro n x lo va w hx
  have hxx := hx
  obtain ⟨m', hm', a1, c1, a2, c2, ak, ck, rfl, hA, hl, hs, hK⟩ := hx.letters
  obtain rfl : m = m' := by omega
  have X0 := hide (box7_new w x.kind x.op x.name (.slice a1 x.lit.shape.length c1) (.slice a2 x.lit.cells.length c2) (.slice ak x.kids.length ck) x.pos)
  have hw0 := X0.out.1
  have HB1 := hide (fun wr (hwr : Below w.heap.size w wr) => bare51 x.kind x.op x.name a1 x.lit.shape.length c1 a2 x.lit.cells.length c2 ak x.kids.length ck x.pos 1 false false false wr)
  change Hid (∀ wr, Below w.heap.size w wr → Calls Try.prog 51 _ wr fun e w' => e = .returned (.bool (bareB x 1 false false false)) ∧ Below wr.heap.size wr w') at HB1
  have HB2 := hide (fun wr (hwr : Below w.heap.size w wr) => bare51 x.kind x.op x.name a1 x.lit.shape.length c1 a2 x.lit.cells.length c2 ak x.kids.length ck x.pos 1 true false false wr)
  change Hid (∀ wr, Below w.heap.size w wr → Calls Try.prog 51 _ wr fun e w' => e = .returned (.bool (bareB x 1 true false false)) ∧ Below wr.heap.size wr w') at HB2
  have HP1 := hide (fun wr (hwr : Below w.heap.size w wr) => prim69 x.kind x.op x.name a1 x.lit.shape.length c1 a2 x.lit.cells.length c2 ak x.kids.length ck x.pos 1 19 wr)
  change Hid (∀ wr, Below w.heap.size w wr → Calls Try.prog 69 _ wr fun e w' => e = .returned (.bool (primB x 1 19)) ∧ Below wr.heap.size wr w') at HP1
  have HL := hide (fun wr (hwr : Below w.heap.size w wr) => lambda70 m IH n x lo _ wr (hxx.next hwr))
  have HT := hide (fun wr (hwr : Below w.heap.size w wr) => turned72 m IH n x lo _ wr (hxx.next hwr))
  unfold moB
  by_cases h21 : x.kind = 21
  · rw [if_pos h21]
    rw [h21] at HP1 X0 hw0 ⊢
    generalize primB x 1 19 = EE at *
    clear hxx hA hK HB1 HB2 HL HT h21
    generalize x.kids.length = LK at *
    generalize x.op = O at *
    generalize x.name = S at *
    generalize x.pos = P at *
    generalize x.lit.shape.length = L1 at *
    generalize x.lit.cells.length = L2 at *
    cases EE
    · go_enter Try.func52, Try.ntmps52
      go_wp2_with fail
      refine (HP1.out _ hw0).mono ?_
      rintro e w1 ⟨rfl, hb1⟩
      have X1 := hide (X0.out.next hb1)
      clear hb1
      obtain ⟨hw1, -, q0, q1, q2, q3, q4, q5, q6⟩ := X1.out
      go_wp2
      all_goals go_ret
      all_goals exact ⟨retB (by simp), hw1⟩
    · go_enter Try.func52, Try.ntmps52
      go_wp2_with fail
      refine (HP1.out _ hw0).mono ?_
      rintro e w1 ⟨rfl, hb1⟩
      have X1 := hide (X0.out.next hb1)
      clear hb1
      obtain ⟨hw1, -, q0, q1, q2, q3, q4, q5, q6⟩ := X1.out
      go_wp2
      all_goals go_ret
      all_goals exact ⟨retB (by simp), hw1⟩
  rw [if_neg h21]
  by_cases h22 : x.kind = 22
  · rw [if_pos h22]
    rw [h22] at HL X0 hw0 ⊢
    generalize lamB (exprN m true) (usesN m) x = EE at *
    clear hxx hA hK HB1 HB2 HP1 HT h22 h21
    generalize x.kids.length = LK at *
    generalize x.op = O at *
    generalize x.name = S at *
    generalize x.pos = P at *
    generalize x.lit.shape.length = L1 at *
    generalize x.lit.cells.length = L2 at *
    cases EE
    · go_enter Try.func52, Try.ntmps52
      go_wp2_with fail
      refine (HL.out _ hw0).mono ?_
      rintro e w1 ⟨rfl, hb1⟩
      have X1 := hide (X0.out.next hb1)
      clear hb1
      obtain ⟨hw1, -, q0, q1, q2, q3, q4, q5, q6⟩ := X1.out
      go_wp2
      all_goals go_ret
      all_goals exact ⟨retB (by simp), hw1⟩
    · go_enter Try.func52, Try.ntmps52
      go_wp2_with fail
      refine (HL.out _ hw0).mono ?_
      rintro e w1 ⟨rfl, hb1⟩
      have X1 := hide (X0.out.next hb1)
      clear hb1
      obtain ⟨hw1, -, q0, q1, q2, q3, q4, q5, q6⟩ := X1.out
      go_wp2
      all_goals go_ret
      all_goals exact ⟨retB (by simp), hw1⟩
  rw [if_neg h22]
  by_cases h3 : x.kind = 31 ∨ x.kind = 32 ∨ x.kind = 33 ∨ x.kind = 34
  · rw [if_pos h3]
    clear HP1 HL HT HB2
    have HK3 := hide h3
    clear h3
    cases hB : bareB x 1 false false false with
    | false =>
      rw [hB] at HB1
      clear hxx hA hK hB
      generalize x.kids.length = LK at *
      generalize x.kind = K at *
      generalize x.op = O at *
      generalize x.name = S at *
      generalize x.pos = P at *
      generalize x.lit.shape.length = L1 at *
      generalize x.lit.cells.length = L2 at *
      rcases HK3.out with rfl | rfl | rfl | rfl
      · go_enter Try.func52, Try.ntmps52
        go_wp2_with fail
        refine (HB1.out _ hw0).mono ?_
        rintro e w1 ⟨rfl, hb1⟩
        have X1 := hide (X0.out.next hb1)
        clear hb1
        obtain ⟨hw1, -, q0, q1, q2, q3, q4, q5, q6⟩ := X1.out
        go_wp2
        all_goals go_ret
        all_goals exact ⟨retB (by simp), hw1⟩
      · go_enter Try.func52, Try.ntmps52
        go_wp2_with fail
        refine (HB1.out _ hw0).mono ?_
        rintro e w1 ⟨rfl, hb1⟩
        have X1 := hide (X0.out.next hb1)
        clear hb1
        obtain ⟨hw1, -, q0, q1, q2, q3, q4, q5, q6⟩ := X1.out
        go_wp2
        all_goals go_ret
        all_goals exact ⟨retB (by simp), hw1⟩
      · go_enter Try.func52, Try.ntmps52
        go_wp2_with fail
        refine (HB1.out _ hw0).mono ?_
        rintro e w1 ⟨rfl, hb1⟩
        have X1 := hide (X0.out.next hb1)
        clear hb1
        obtain ⟨hw1, -, q0, q1, q2, q3, q4, q5, q6⟩ := X1.out
        go_wp2
        all_goals go_ret
        all_goals exact ⟨retB (by simp), hw1⟩
      · go_enter Try.func52, Try.ntmps52
        go_wp2_with fail
        refine (HB1.out _ hw0).mono ?_
        rintro e w1 ⟨rfl, hb1⟩
        have X1 := hide (X0.out.next hb1)
        clear hb1
        obtain ⟨hw1, -, q0, q1, q2, q3, q4, q5, q6⟩ := X1.out
        go_wp2
        all_goals go_ret
        all_goals exact ⟨retB (by simp), hw1⟩
    | true =>
      rw [hB] at HB1
      have hlen := bareB_len (k := 1) hB
      obtain ⟨b, off, rfl, hbb, hkk⟩ := kids_base hK (by omega)
      obtain ⟨K0, O0, S0, A10, L10, C10, A20, L20, C20, AK0, LK0, CK0, P0, hkw0⟩ := hkk 0 (by omega)
      simp only [Nat.zero_mul, Nat.add_zero] at hkw0
      have HKW0 := hide (fun wr hwr => And.intro (hkw0 wr hwr).1 trivial)
      have HE := hide (fun wr (hwr : Below w.heap.size w wr) => between71 m n _ lo _ wr (hkw0 wr hwr).2.1.deeper)
      clear hkk hkw0 hxx hA hK hB hm' hl IH
      rw [hlen] at *
      generalize betB (nAt x.kids 0) = EE at *
      clear hlen
      generalize x.kind = K at *
      generalize x.op = O at *
      generalize x.name = S at *
      generalize x.pos = P at *
      generalize x.lit.shape.length = L1 at *
      generalize x.lit.cells.length = L2 at *
      rcases HK3.out with rfl | rfl | rfl | rfl
      · cases EE
        · go_enter Try.func52, Try.ntmps52
          obtain ⟨⟨g00, g01, g02, g03, g04, g05, g06⟩, -⟩ := HKW0.out _ hw0
          go_wp2_with fail
          refine (HB1.out _ hw0).mono ?_
          rintro e w1 ⟨rfl, hb1⟩
          have X1 := hide (X0.out.next hb1)
          clear hb1 g00 g01 g02 g03 g04 g05 g06
          obtain ⟨hw1, -, q0, q1, q2, q3, q4, q5, q6⟩ := X1.out
          obtain ⟨⟨g00, g01, g02, g03, g04, g05, g06⟩, -⟩ := HKW0.out _ hw1
          go_wp2_with fail
          refine (HE.out _ hw1).mono ?_
          rintro e w2 ⟨rfl, hb2⟩
          have X2 := hide (X1.out.next hb2)
          clear hb2 g00 g01 g02 g03 g04 g05 g06 q0 q1 q2 q3 q4 q5 q6
          obtain ⟨hw2, -, q0, q1, q2, q3, q4, q5, q6⟩ := X2.out
          obtain ⟨⟨g00, g01, g02, g03, g04, g05, g06⟩, -⟩ := HKW0.out _ hw2
          go_wp2
          all_goals go_ret
          all_goals exact ⟨retB (by simp), hw2⟩
        · go_enter Try.func52, Try.ntmps52
          obtain ⟨⟨g00, g01, g02, g03, g04, g05, g06⟩, -⟩ := HKW0.out _ hw0
          go_wp2_with fail
          refine (HB1.out _ hw0).mono ?_
          rintro e w1 ⟨rfl, hb1⟩
          have X1 := hide (X0.out.next hb1)
          clear hb1 g00 g01 g02 g03 g04 g05 g06
          obtain ⟨hw1, -, q0, q1, q2, q3, q4, q5, q6⟩ := X1.out
          obtain ⟨⟨g00, g01, g02, g03, g04, g05, g06⟩, -⟩ := HKW0.out _ hw1
          go_wp2_with fail
          refine (HE.out _ hw1).mono ?_
          rintro e w2 ⟨rfl, hb2⟩
          have X2 := hide (X1.out.next hb2)
          clear hb2 g00 g01 g02 g03 g04 g05 g06 q0 q1 q2 q3 q4 q5 q6
          obtain ⟨hw2, -, q0, q1, q2, q3, q4, q5, q6⟩ := X2.out
          obtain ⟨⟨g00, g01, g02, g03, g04, g05, g06⟩, -⟩ := HKW0.out _ hw2
          go_wp2
          all_goals go_ret
          all_goals exact ⟨retB (by simp), hw2⟩
      · cases EE
        · go_enter Try.func52, Try.ntmps52
          obtain ⟨⟨g00, g01, g02, g03, g04, g05, g06⟩, -⟩ := HKW0.out _ hw0
          go_wp2_with fail
          refine (HB1.out _ hw0).mono ?_
          rintro e w1 ⟨rfl, hb1⟩
          have X1 := hide (X0.out.next hb1)
          clear hb1 g00 g01 g02 g03 g04 g05 g06
          obtain ⟨hw1, -, q0, q1, q2, q3, q4, q5, q6⟩ := X1.out
          obtain ⟨⟨g00, g01, g02, g03, g04, g05, g06⟩, -⟩ := HKW0.out _ hw1
          go_wp2_with fail
          refine (HE.out _ hw1).mono ?_
          rintro e w2 ⟨rfl, hb2⟩
          have X2 := hide (X1.out.next hb2)
          clear hb2 g00 g01 g02 g03 g04 g05 g06 q0 q1 q2 q3 q4 q5 q6
          obtain ⟨hw2, -, q0, q1, q2, q3, q4, q5, q6⟩ := X2.out
          obtain ⟨⟨g00, g01, g02, g03, g04, g05, g06⟩, -⟩ := HKW0.out _ hw2
          go_wp2
          all_goals go_ret
          all_goals exact ⟨retB (by simp), hw2⟩
        · go_enter Try.func52, Try.ntmps52
          obtain ⟨⟨g00, g01, g02, g03, g04, g05, g06⟩, -⟩ := HKW0.out _ hw0
          go_wp2_with fail
          refine (HB1.out _ hw0).mono ?_
          rintro e w1 ⟨rfl, hb1⟩
          have X1 := hide (X0.out.next hb1)
          clear hb1 g00 g01 g02 g03 g04 g05 g06
          obtain ⟨hw1, -, q0, q1, q2, q3, q4, q5, q6⟩ := X1.out
          obtain ⟨⟨g00, g01, g02, g03, g04, g05, g06⟩, -⟩ := HKW0.out _ hw1
          go_wp2_with fail
          refine (HE.out _ hw1).mono ?_
          rintro e w2 ⟨rfl, hb2⟩
          have X2 := hide (X1.out.next hb2)
          clear hb2 g00 g01 g02 g03 g04 g05 g06 q0 q1 q2 q3 q4 q5 q6
          obtain ⟨hw2, -, q0, q1, q2, q3, q4, q5, q6⟩ := X2.out
          obtain ⟨⟨g00, g01, g02, g03, g04, g05, g06⟩, -⟩ := HKW0.out _ hw2
          go_wp2
          all_goals go_ret
          all_goals exact ⟨retB (by simp), hw2⟩
      · cases EE
        · go_enter Try.func52, Try.ntmps52
          obtain ⟨⟨g00, g01, g02, g03, g04, g05, g06⟩, -⟩ := HKW0.out _ hw0
          go_wp2_with fail
          refine (HB1.out _ hw0).mono ?_
          rintro e w1 ⟨rfl, hb1⟩
          have X1 := hide (X0.out.next hb1)
          clear hb1 g00 g01 g02 g03 g04 g05 g06
          obtain ⟨hw1, -, q0, q1, q2, q3, q4, q5, q6⟩ := X1.out
          obtain ⟨⟨g00, g01, g02, g03, g04, g05, g06⟩, -⟩ := HKW0.out _ hw1
          go_wp2_with fail
          refine (HE.out _ hw1).mono ?_
          rintro e w2 ⟨rfl, hb2⟩
          have X2 := hide (X1.out.next hb2)
          clear hb2 g00 g01 g02 g03 g04 g05 g06 q0 q1 q2 q3 q4 q5 q6
          obtain ⟨hw2, -, q0, q1, q2, q3, q4, q5, q6⟩ := X2.out
          obtain ⟨⟨g00, g01, g02, g03, g04, g05, g06⟩, -⟩ := HKW0.out _ hw2
          go_wp2
          all_goals go_ret
          all_goals exact ⟨retB (by simp), hw2⟩
        · go_enter Try.func52, Try.ntmps52
          obtain ⟨⟨g00, g01, g02, g03, g04, g05, g06⟩, -⟩ := HKW0.out _ hw0
          go_wp2_with fail
          refine (HB1.out _ hw0).mono ?_
          rintro e w1 ⟨rfl, hb1⟩
          have X1 := hide (X0.out.next hb1)
          clear hb1 g00 g01 g02 g03 g04 g05 g06
          obtain ⟨hw1, -, q0, q1, q2, q3, q4, q5, q6⟩ := X1.out
          obtain ⟨⟨g00, g01, g02, g03, g04, g05, g06⟩, -⟩ := HKW0.out _ hw1
          go_wp2_with fail
          refine (HE.out _ hw1).mono ?_
          rintro e w2 ⟨rfl, hb2⟩
          have X2 := hide (X1.out.next hb2)
          clear hb2 g00 g01 g02 g03 g04 g05 g06 q0 q1 q2 q3 q4 q5 q6
          obtain ⟨hw2, -, q0, q1, q2, q3, q4, q5, q6⟩ := X2.out
          obtain ⟨⟨g00, g01, g02, g03, g04, g05, g06⟩, -⟩ := HKW0.out _ hw2
          go_wp2
          all_goals go_ret
          all_goals exact ⟨retB (by simp), hw2⟩
      · cases EE
        · go_enter Try.func52, Try.ntmps52
          obtain ⟨⟨g00, g01, g02, g03, g04, g05, g06⟩, -⟩ := HKW0.out _ hw0
          go_wp2_with fail
          refine (HB1.out _ hw0).mono ?_
          rintro e w1 ⟨rfl, hb1⟩
          have X1 := hide (X0.out.next hb1)
          clear hb1 g00 g01 g02 g03 g04 g05 g06
          obtain ⟨hw1, -, q0, q1, q2, q3, q4, q5, q6⟩ := X1.out
          obtain ⟨⟨g00, g01, g02, g03, g04, g05, g06⟩, -⟩ := HKW0.out _ hw1
          go_wp2_with fail
          refine (HE.out _ hw1).mono ?_
          rintro e w2 ⟨rfl, hb2⟩
          have X2 := hide (X1.out.next hb2)
          clear hb2 g00 g01 g02 g03 g04 g05 g06 q0 q1 q2 q3 q4 q5 q6
          obtain ⟨hw2, -, q0, q1, q2, q3, q4, q5, q6⟩ := X2.out
          obtain ⟨⟨g00, g01, g02, g03, g04, g05, g06⟩, -⟩ := HKW0.out _ hw2
          go_wp2
          all_goals go_ret
          all_goals exact ⟨retB (by simp), hw2⟩
        · go_enter Try.func52, Try.ntmps52
          obtain ⟨⟨g00, g01, g02, g03, g04, g05, g06⟩, -⟩ := HKW0.out _ hw0
          go_wp2_with fail
          refine (HB1.out _ hw0).mono ?_
          rintro e w1 ⟨rfl, hb1⟩
          have X1 := hide (X0.out.next hb1)
          clear hb1 g00 g01 g02 g03 g04 g05 g06
          obtain ⟨hw1, -, q0, q1, q2, q3, q4, q5, q6⟩ := X1.out
          obtain ⟨⟨g00, g01, g02, g03, g04, g05, g06⟩, -⟩ := HKW0.out _ hw1
          go_wp2_with fail
          refine (HE.out _ hw1).mono ?_
          rintro e w2 ⟨rfl, hb2⟩
          have X2 := hide (X1.out.next hb2)
          clear hb2 g00 g01 g02 g03 g04 g05 g06 q0 q1 q2 q3 q4 q5 q6
          obtain ⟨hw2, -, q0, q1, q2, q3, q4, q5, q6⟩ := X2.out
          obtain ⟨⟨g00, g01, g02, g03, g04, g05, g06⟩, -⟩ := HKW0.out _ hw2
          go_wp2
          all_goals go_ret
          all_goals exact ⟨retB (by simp), hw2⟩
  rw [if_neg h3]
  by_cases h35 : x.kind = 35
  · rw [if_pos h35]
    rw [h35] at HT X0 hw0 ⊢
    generalize turB (exprN m true) (usesN m) x = EE at *
    clear hxx hA hK HB1 HB2 HP1 HL h22 h21 h3 h35
    generalize x.kids.length = LK at *
    generalize x.op = O at *
    generalize x.name = S at *
    generalize x.pos = P at *
    generalize x.lit.shape.length = L1 at *
    generalize x.lit.cells.length = L2 at *
    cases EE
    · go_enter Try.func52, Try.ntmps52
      go_wp2_with fail
      refine (HT.out _ hw0).mono ?_
      rintro e w1 ⟨rfl, hb1⟩
      have X1 := hide (X0.out.next hb1)
      clear hb1
      obtain ⟨hw1, -, q0, q1, q2, q3, q4, q5, q6⟩ := X1.out
      go_wp2
      all_goals go_ret
      all_goals exact ⟨retB (by simp), hw1⟩
    · go_enter Try.func52, Try.ntmps52
      go_wp2_with fail
      refine (HT.out _ hw0).mono ?_
      rintro e w1 ⟨rfl, hb1⟩
      have X1 := hide (X0.out.next hb1)
      clear hb1
      obtain ⟨hw1, -, q0, q1, q2, q3, q4, q5, q6⟩ := X1.out
      go_wp2
      all_goals go_ret
      all_goals exact ⟨retB (by simp), hw1⟩
  rw [if_neg h35]
  have h31 : ¬ x.kind = 31 := fun h => h3 (by omega)
  have h32 : ¬ x.kind = 32 := fun h => h3 (by omega)
  have h33 : ¬ x.kind = 33 := fun h => h3 (by omega)
  have h34 : ¬ x.kind = 34 := fun h => h3 (by omega)
  clear h3
  by_cases h26 : x.kind = 26
  · rw [if_pos h26]
    clear HP1 HL HT HB1 h21 h22 h31 h32 h33 h34 h35
    cases hB : bareB x 1 true false false with
    | false =>
      rw [hB] at HB2
      rw [h26] at HB2 X0 hw0 ⊢
      clear hxx hA hK hB h26
      generalize x.kids.length = LK at *
      generalize x.op = O at *
      generalize x.name = S at *
      generalize x.pos = P at *
      generalize x.lit.shape.length = L1 at *
      generalize x.lit.cells.length = L2 at *
      go_enter Try.func52, Try.ntmps52
      go_wp2_with fail
      refine (HB2.out _ hw0).mono ?_
      rintro e w1 ⟨rfl, hb1⟩
      have X1 := hide (X0.out.next hb1)
      clear hb1
      obtain ⟨hw1, -, q0, q1, q2, q3, q4, q5, q6⟩ := X1.out
      go_wp2
      all_goals go_ret
      all_goals exact ⟨retB (by simp), hw1⟩
    | true =>
      rw [hB] at HB2
      have hlen := bareB_len (k := 1) hB
      obtain ⟨b, off, rfl, hbb, hkk⟩ := kids_base hK (by omega)
      obtain ⟨K0, O0, S0, A10, L10, C10, A20, L20, C20, AK0, LK0, CK0, P0, hkw0⟩ := hkk 0 (by omega)
      simp only [Nat.zero_mul, Nat.add_zero] at hkw0
      have HKW0 := hide (fun wr hwr => And.intro (hkw0 wr hwr).1 trivial)
      have HE := hide (fun wr (hwr : Below w.heap.size w wr) => lambda70 m IH n _ lo _ wr (hkw0 wr hwr).2.1.deeper)
      obtain ⟨hK0, hO0⟩ := (hkw0 w (Below.refl _ _)).2.2
      rw [← hK0]
      rw [h26] at HB2 X0 hw0 ⊢
      clear hkk hkw0 hxx hA hK hB hm' hl IH h26 hK0 hO0
      rw [hlen] at *
      generalize lamB (exprN m true) (usesN m) (nAt x.kids 0) = EE at *
      clear hlen
      generalize x.op = O at *
      generalize x.name = S at *
      generalize x.pos = P at *
      generalize x.lit.shape.length = L1 at *
      generalize x.lit.cells.length = L2 at *
      by_cases o1 : 0 ≤ O
      · have o1' : decide (0 ≤ O) = true := by simp [o1]
        by_cases o2 : O ≤ 4096
        · have o2' : decide (O ≤ 4096) = true := by simp [o2]
          by_cases k1 : K0 = 22
          · subst k1
            cases EE
            · go_enter Try.func52, Try.ntmps52
              obtain ⟨⟨g00, g01, g02, g03, g04, g05, g06⟩, -⟩ := HKW0.out _ hw0
              go_wp2_with fail
              refine (HB2.out _ hw0).mono ?_
              rintro e w1 ⟨rfl, hb1⟩
              have X1 := hide (X0.out.next hb1)
              clear hb1 g00 g01 g02 g03 g04 g05 g06
              obtain ⟨hw1, -, q0, q1, q2, q3, q4, q5, q6⟩ := X1.out
              obtain ⟨⟨g00, g01, g02, g03, g04, g05, g06⟩, -⟩ := HKW0.out _ hw1
              go_wp2_with fail
              refine (HE.out _ hw1).mono ?_
              rintro e w2 ⟨rfl, hb2⟩
              have X2 := hide (X1.out.next hb2)
              clear hb2 g00 g01 g02 g03 g04 g05 g06 q0 q1 q2 q3 q4 q5 q6
              obtain ⟨hw2, -, q0, q1, q2, q3, q4, q5, q6⟩ := X2.out
              obtain ⟨⟨g00, g01, g02, g03, g04, g05, g06⟩, -⟩ := HKW0.out _ hw2
              go_wp2
              all_goals go_ret
              all_goals exact ⟨retB (by simp_all), hw2⟩
            · go_enter Try.func52, Try.ntmps52
              obtain ⟨⟨g00, g01, g02, g03, g04, g05, g06⟩, -⟩ := HKW0.out _ hw0
              go_wp2_with fail
              refine (HB2.out _ hw0).mono ?_
              rintro e w1 ⟨rfl, hb1⟩
              have X1 := hide (X0.out.next hb1)
              clear hb1 g00 g01 g02 g03 g04 g05 g06
              obtain ⟨hw1, -, q0, q1, q2, q3, q4, q5, q6⟩ := X1.out
              obtain ⟨⟨g00, g01, g02, g03, g04, g05, g06⟩, -⟩ := HKW0.out _ hw1
              go_wp2_with fail
              refine (HE.out _ hw1).mono ?_
              rintro e w2 ⟨rfl, hb2⟩
              have X2 := hide (X1.out.next hb2)
              clear hb2 g00 g01 g02 g03 g04 g05 g06 q0 q1 q2 q3 q4 q5 q6
              obtain ⟨hw2, -, q0, q1, q2, q3, q4, q5, q6⟩ := X2.out
              obtain ⟨⟨g00, g01, g02, g03, g04, g05, g06⟩, -⟩ := HKW0.out _ hw2
              go_wp2
              all_goals go_ret
              all_goals exact ⟨retB (by simp_all), hw2⟩
          · have k1' : (K0 == 22) = false := beq_eq_false_iff_ne.2 k1
            go_enter Try.func52, Try.ntmps52
            obtain ⟨⟨g00, g01, g02, g03, g04, g05, g06⟩, -⟩ := HKW0.out _ hw0
            go_wp2_with fail
            refine (HB2.out _ hw0).mono ?_
            rintro e w1 ⟨rfl, hb1⟩
            have X1 := hide (X0.out.next hb1)
            clear hb1 g00 g01 g02 g03 g04 g05 g06
            obtain ⟨hw1, -, q0, q1, q2, q3, q4, q5, q6⟩ := X1.out
            obtain ⟨⟨g00, g01, g02, g03, g04, g05, g06⟩, -⟩ := HKW0.out _ hw1
            go_wp2
            all_goals go_ret
            all_goals exact ⟨retB (by first | (simp only [o1', Bool.and_false, Bool.false_and]; done) | (simp only [o2', Bool.and_false, Bool.false_and]; done) | (simp [k1]; done)), hw1⟩
        · have o2' : decide (O ≤ 4096) = false := by simp; omega
          go_enter Try.func52, Try.ntmps52
          obtain ⟨⟨g00, g01, g02, g03, g04, g05, g06⟩, -⟩ := HKW0.out _ hw0
          go_wp2_with fail
          refine (HB2.out _ hw0).mono ?_
          rintro e w1 ⟨rfl, hb1⟩
          have X1 := hide (X0.out.next hb1)
          clear hb1 g00 g01 g02 g03 g04 g05 g06
          obtain ⟨hw1, -, q0, q1, q2, q3, q4, q5, q6⟩ := X1.out
          obtain ⟨⟨g00, g01, g02, g03, g04, g05, g06⟩, -⟩ := HKW0.out _ hw1
          go_wp2
          all_goals go_ret
          all_goals exact ⟨retB (by first | (simp only [o1', Bool.and_false, Bool.false_and]; done) | (simp only [o2', Bool.and_false, Bool.false_and]; done) | (simp [k1]; done)), hw1⟩
      · have o1' : decide (0 ≤ O) = false := by simp; omega
        go_enter Try.func52, Try.ntmps52
        obtain ⟨⟨g00, g01, g02, g03, g04, g05, g06⟩, -⟩ := HKW0.out _ hw0
        go_wp2_with fail
        refine (HB2.out _ hw0).mono ?_
        rintro e w1 ⟨rfl, hb1⟩
        have X1 := hide (X0.out.next hb1)
        clear hb1 g00 g01 g02 g03 g04 g05 g06
        obtain ⟨hw1, -, q0, q1, q2, q3, q4, q5, q6⟩ := X1.out
        obtain ⟨⟨g00, g01, g02, g03, g04, g05, g06⟩, -⟩ := HKW0.out _ hw1
        go_wp2
        all_goals go_ret
        all_goals exact ⟨retB (by first | (simp only [o1', Bool.and_false, Bool.false_and]; done) | (simp only [o2', Bool.and_false, Bool.false_and]; done) | (simp [k1]; done)), hw1⟩
  rw [if_neg h26]
  clear hxx hA hK HB1 HB2 HP1 HL HT
  generalize x.kids.length = LK at *
  generalize x.kind = K at *
  generalize x.op = O at *
  generalize x.name = S at *
  generalize x.pos = P at *
  generalize x.lit.shape.length = L1 at *
  generalize x.lit.cells.length = L2 at *
  have k21 : (K == 21) = false := beq_eq_false_iff_ne.2 h21
  have k22 : (K == 22) = false := beq_eq_false_iff_ne.2 h22
  have k31 : (K == 31) = false := beq_eq_false_iff_ne.2 h31
  have k32 : (K == 32) = false := beq_eq_false_iff_ne.2 h32
  have k33 : (K == 33) = false := beq_eq_false_iff_ne.2 h33
  have k34 : (K == 34) = false := beq_eq_false_iff_ne.2 h34
  have k35 : (K == 35) = false := beq_eq_false_iff_ne.2 h35
  have k26 : (K == 26) = false := beq_eq_false_iff_ne.2 h26
  go_enter Try.func52, Try.ntmps52
  go_wp2
  all_goals go_ret
  all_goals exact ⟨retB (by simp), hw0⟩

set_option maxHeartbeats 8000000 in
theorem dy53 (m : Nat) (IH : ExprC m) : CallB 53 (m + 1) (dyB (exprN m true) (usesN m)) := by
  intro n x lo va w hx
  have hxx := hx
  obtain ⟨m', hm', a1, c1, a2, c2, ak, ck, rfl, hA, hl, hs, hK⟩ := hx.letters
  obtain rfl : m = m' := by omega
  have X0 := hide (box7_new w x.kind x.op x.name (.slice a1 x.lit.shape.length c1) (.slice a2 x.lit.cells.length c2) (.slice ak x.kids.length ck) x.pos)
  have hw0 := X0.out.1
  have HB1 := hide (fun wr (hwr : Below w.heap.size w wr) => bare51 x.kind x.op x.name a1 x.lit.shape.length c1 a2 x.lit.cells.length c2 ak x.kids.length ck x.pos 1 false false false wr)
  change Hid (∀ wr, Below w.heap.size w wr → Calls Try.prog 51 _ wr fun e w' => e = .returned (.bool (bareB x 1 false false false)) ∧ Below wr.heap.size wr w') at HB1
  have HW := hide (fun wr (hwr : Below w.heap.size w wr) => two73 m IH n x lo _ wr (hxx.next hwr))
  have HT := hide (fun wr (hwr : Below w.heap.size w wr) => turned72 m IH n x lo _ wr (hxx.next hwr))
  unfold dyB
  by_cases h25 : x.kind = 25
  · rw [if_pos h25]
    clear HW HT
    cases hB : bareB x 1 false false false with
    | false =>
      rw [hB] at HB1
      rw [h25] at HB1 X0 hw0 ⊢
      clear hxx hA hK hB
      generalize x.kids.length = LK at *
      generalize x.kind = K at *
      generalize x.op = O at *
      generalize x.name = S at *
      generalize x.pos = P at *
      generalize x.lit.shape.length = L1 at *
      generalize x.lit.cells.length = L2 at *
      go_enter Try.func53, Try.ntmps53
      go_wp2_with fail
      refine (HB1.out _ hw0).mono ?_
      rintro e w1 ⟨rfl, hb1⟩
      have X1 := hide (X0.out.next hb1)
      clear hb1
      obtain ⟨hw1, -, q0, q1, q2, q3, q4, q5, q6⟩ := X1.out
      go_wp2
      all_goals go_ret
      all_goals exact ⟨retB (by simp), hw1⟩
    | true =>
      rw [hB] at HB1
      have hlen := bareB_len (k := 1) hB
      obtain ⟨b, off, rfl, hbb, hkk⟩ := kids_base hK (by omega)
      obtain ⟨K0, O0, S0, A10, L10, C10, A20, L20, C20, AK0, LK0, CK0, P0, hkw0⟩ := hkk 0 (by omega)
      simp only [Nat.zero_mul, Nat.add_zero] at hkw0
      have HKW0 := hide (fun wr hwr => And.intro (hkw0 wr hwr).1 trivial)
      have HE := hide (fun wr (hwr : Below w.heap.size w wr) => between71 m n _ lo _ wr (hkw0 wr hwr).2.1.deeper)
      rw [h25] at HB1 X0 hw0 ⊢
      clear hkk hkw0 hxx hA hK hB hm' hl IH h25
      rw [hlen] at *
      generalize betB (nAt x.kids 0) = EE at *
      clear hlen
      generalize x.kind = K at *
      generalize x.op = O at *
      generalize x.name = S at *
      generalize x.pos = P at *
      generalize x.lit.shape.length = L1 at *
      generalize x.lit.cells.length = L2 at *
      cases EE
      · go_enter Try.func53, Try.ntmps53
        obtain ⟨⟨g00, g01, g02, g03, g04, g05, g06⟩, -⟩ := HKW0.out _ hw0
        go_wp2_with fail
        refine (HB1.out _ hw0).mono ?_
        rintro e w1 ⟨rfl, hb1⟩
        have X1 := hide (X0.out.next hb1)
        clear hb1 g00 g01 g02 g03 g04 g05 g06
        obtain ⟨hw1, -, q0, q1, q2, q3, q4, q5, q6⟩ := X1.out
        obtain ⟨⟨g00, g01, g02, g03, g04, g05, g06⟩, -⟩ := HKW0.out _ hw1
        go_wp2_with fail
        refine (HE.out _ hw1).mono ?_
        rintro e w2 ⟨rfl, hb2⟩
        have X2 := hide (X1.out.next hb2)
        clear hb2 g00 g01 g02 g03 g04 g05 g06 q0 q1 q2 q3 q4 q5 q6
        obtain ⟨hw2, -, q0, q1, q2, q3, q4, q5, q6⟩ := X2.out
        obtain ⟨⟨g00, g01, g02, g03, g04, g05, g06⟩, -⟩ := HKW0.out _ hw2
        go_wp2
        all_goals go_ret
        all_goals exact ⟨retB (by simp), hw2⟩
      · go_enter Try.func53, Try.ntmps53
        obtain ⟨⟨g00, g01, g02, g03, g04, g05, g06⟩, -⟩ := HKW0.out _ hw0
        go_wp2_with fail
        refine (HB1.out _ hw0).mono ?_
        rintro e w1 ⟨rfl, hb1⟩
        have X1 := hide (X0.out.next hb1)
        clear hb1 g00 g01 g02 g03 g04 g05 g06
        obtain ⟨hw1, -, q0, q1, q2, q3, q4, q5, q6⟩ := X1.out
        obtain ⟨⟨g00, g01, g02, g03, g04, g05, g06⟩, -⟩ := HKW0.out _ hw1
        go_wp2_with fail
        refine (HE.out _ hw1).mono ?_
        rintro e w2 ⟨rfl, hb2⟩
        have X2 := hide (X1.out.next hb2)
        clear hb2 g00 g01 g02 g03 g04 g05 g06 q0 q1 q2 q3 q4 q5 q6
        obtain ⟨hw2, -, q0, q1, q2, q3, q4, q5, q6⟩ := X2.out
        obtain ⟨⟨g00, g01, g02, g03, g04, g05, g06⟩, -⟩ := HKW0.out _ hw2
        go_wp2
        all_goals go_ret
        all_goals exact ⟨retB (by simp), hw2⟩
  rw [if_neg h25]
  by_cases h35 : x.kind = 35
  · rw [if_pos h35]
    rw [h35] at HT X0 hw0 ⊢
    generalize turB (exprN m true) (usesN m) x = EE at *
    clear hxx hA hK HB1 HW h35 h25
    generalize x.kids.length = LK at *
    generalize x.op = O at *
    generalize x.name = S at *
    generalize x.pos = P at *
    generalize x.lit.shape.length = L1 at *
    generalize x.lit.cells.length = L2 at *
    cases EE
    · go_enter Try.func53, Try.ntmps53
      go_wp2_with fail
      refine (HT.out _ hw0).mono ?_
      rintro e w1 ⟨rfl, hb1⟩
      have X1 := hide (X0.out.next hb1)
      clear hb1
      obtain ⟨hw1, -, q0, q1, q2, q3, q4, q5, q6⟩ := X1.out
      go_wp2
      all_goals go_ret
      all_goals exact ⟨retB (by simp), hw1⟩
    · go_enter Try.func53, Try.ntmps53
      go_wp2_with fail
      refine (HT.out _ hw0).mono ?_
      rintro e w1 ⟨rfl, hb1⟩
      have X1 := hide (X0.out.next hb1)
      clear hb1
      obtain ⟨hw1, -, q0, q1, q2, q3, q4, q5, q6⟩ := X1.out
      go_wp2
      all_goals go_ret
      all_goals exact ⟨retB (by simp), hw1⟩
  rw [if_neg h35]
  generalize twoB (exprN m true) (usesN m) x = EE at *
  clear hxx hA hK HB1 HT
  generalize x.kids.length = LK at *
  generalize x.kind = K at *
  generalize x.op = O at *
  generalize x.name = S at *
  generalize x.pos = P at *
  generalize x.lit.shape.length = L1 at *
  generalize x.lit.cells.length = L2 at *
  have k25 : (K == 25) = false := beq_eq_false_iff_ne.2 h25
  have k35 : (K == 35) = false := beq_eq_false_iff_ne.2 h35
  cases EE
  · go_enter Try.func53, Try.ntmps53
    go_wp2_with fail
    refine (HW.out _ hw0).mono ?_
    rintro e w1 ⟨rfl, hb1⟩
    have X1 := hide (X0.out.next hb1)
    clear hb1
    obtain ⟨hw1, -, q0, q1, q2, q3, q4, q5, q6⟩ := X1.out
    go_wp2
    all_goals go_ret
    all_goals exact ⟨retB (by simp), hw1⟩
  · go_enter Try.func53, Try.ntmps53
    go_wp2_with fail
    refine (HW.out _ hw0).mono ?_
    rintro e w1 ⟨rfl, hb1⟩
    have X1 := hide (X0.out.next hb1)
    clear hb1
    obtain ⟨hw1, -, q0, q1, q2, q3, q4, q5, q6⟩ := X1.out
    go_wp2
    all_goals go_ret
    all_goals exact ⟨retB (by simp), hw1⟩
end Go.Proofs.Ytkgpoibnilgaeaa
