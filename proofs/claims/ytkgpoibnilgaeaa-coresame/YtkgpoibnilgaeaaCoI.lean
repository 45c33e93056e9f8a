/-
  The document's expr; for all programs.
-/
import Derived.Test.YtkgpoibnilgaeaaCoH
namespace Go.Proofs.Ytkgpoibnilgaeaa
open Go.ChangeShapes Go.WideShapes Go.ChangeAt Go.RowKit
set_option linter.unusedVariables false
set_option linter.unusedSimpArgs false

set_option maxHeartbeats 8000000 in
theorem expr33_step (m : Nat) (IH : ExprC m) : ExprC (m + 1) := by
  intro i
  intro n x lo va w hx
  have hxx := hx
  obtain ⟨m', hm', a1, c1, a2, c2, ak, ck, rfl, hA, hl, hs, hK⟩ := hx.letters
  obtain rfl : m = m' := by omega
  have X0 := hide (box7_new w x.kind x.op x.name (.slice a1 x.lit.shape.length c1) (.slice a2 x.lit.cells.length c2) (.slice ak x.kids.length ck) x.pos)
  have hw0 := X0.out.1
  have HB1 := hide (fun wr (hwr : Below w.heap.size w wr) => bare51 x.kind x.op x.name a1 x.lit.shape.length c1 a2 x.lit.cells.length c2 ak x.kids.length ck x.pos 0 false false true wr)
  change Hid (∀ wr, Below w.heap.size w wr → Calls Try.prog 51 _ wr fun e w' => e = .returned (.bool (bareB x 0 false false true)) ∧ Below wr.heap.size wr w') at HB1
  have HB2 := hide (fun wr (hwr : Below w.heap.size w wr) => bare51 x.kind x.op x.name a1 x.lit.shape.length c1 a2 x.lit.cells.length c2 ak x.kids.length ck x.pos 0 false true false wr)
  change Hid (∀ wr, Below w.heap.size w wr → Calls Try.prog 51 _ wr fun e w' => e = .returned (.bool (bareB x 0 false true false)) ∧ Below wr.heap.size wr w') at HB2
  have HB3 := hide (fun wr (hwr : Below w.heap.size w wr) => bare51 x.kind x.op x.name a1 x.lit.shape.length c1 a2 x.lit.cells.length c2 ak x.kids.length ck x.pos 0 false false false wr)
  change Hid (∀ wr, Below w.heap.size w wr → Calls Try.prog 51 _ wr fun e w' => e = .returned (.bool (bareB x 0 false false false)) ∧ Below wr.heap.size wr w') at HB3
  have HB5 := hide (fun wr (hwr : Below w.heap.size w wr) => bare51 x.kind x.op x.name a1 x.lit.shape.length c1 a2 x.lit.cells.length c2 ak x.kids.length ck x.pos 2 false false false wr)
  change Hid (∀ wr, Below w.heap.size w wr → Calls Try.prog 51 _ wr fun e w' => e = .returned (.bool (bareB x 2 false false false)) ∧ Below wr.heap.size wr w') at HB5
  have HB6 := hide (fun wr (hwr : Below w.heap.size w wr) => bare51 x.kind x.op x.name a1 x.lit.shape.length c1 a2 x.lit.cells.length c2 ak x.kids.length ck x.pos 3 false false false wr)
  change Hid (∀ wr, Below w.heap.size w wr → Calls Try.prog 51 _ wr fun e w' => e = .returned (.bool (bareB x 3 false false false)) ∧ Below wr.heap.size wr w') at HB6
  have HLT := hide (fun wr (hwr : Below w.heap.size w wr) => rlit18 x.lit _ wr (hA.next hwr))
  have HNM := hide (fun wr (hwr : Below w.heap.size w wr) => name16 x.name wr)
  simp only [exprN]
  by_cases h1 : x.kind = 1
  · rw [if_pos h1]
    rw [h1] at HB1 X0 hw0 ⊢
    generalize litB x.lit = EE at *
    generalize bareB x 0 false false true = BB at *
    clear hxx hA hK HB2 HB3 HB5 HB6 HNM h1
    generalize x.kids.length = LK at *
    generalize x.op = O at *
    generalize x.name = S at *
    generalize x.pos = P at *
    generalize x.lit.shape.length = L1 at *
    generalize x.lit.cells.length = L2 at *
    cases BB
    · go_enter Try.func33, Try.ntmps33
      go_wp2_with fail
      refine (HB1.out _ hw0).mono ?_
      rintro e w1 ⟨rfl, hb1⟩
      have X1 := hide (X0.out.next hb1)
      clear hb1
      obtain ⟨hw1, -, q0, q1, q2, q3, q4, q5, q6⟩ := X1.out
      go_wp2
      all_goals go_ret
      all_goals exact ⟨retB (by simp), hw1⟩
    · cases EE
      · go_enter Try.func33, Try.ntmps33
        go_wp2_with fail
        refine (HB1.out _ hw0).mono ?_
        rintro e w1 ⟨rfl, hb1⟩
        have X1 := hide (X0.out.next hb1)
        clear hb1
        obtain ⟨hw1, -, q0, q1, q2, q3, q4, q5, q6⟩ := X1.out
        go_wp2_with fail
        refine (HLT.out _ hw1).mono ?_
        rintro e w2 ⟨rfl, hb2⟩
        have X2 := hide (X1.out.next hb2)
        clear hb2 q0 q1 q2 q3 q4 q5 q6
        obtain ⟨hw2, -, q0, q1, q2, q3, q4, q5, q6⟩ := X2.out
        go_wp2
        all_goals go_ret
        all_goals exact ⟨retB (by simp), hw2⟩
      · go_enter Try.func33, Try.ntmps33
        go_wp2_with fail
        refine (HB1.out _ hw0).mono ?_
        rintro e w1 ⟨rfl, hb1⟩
        have X1 := hide (X0.out.next hb1)
        clear hb1
        obtain ⟨hw1, -, q0, q1, q2, q3, q4, q5, q6⟩ := X1.out
        go_wp2_with fail
        refine (HLT.out _ hw1).mono ?_
        rintro e w2 ⟨rfl, hb2⟩
        have X2 := hide (X1.out.next hb2)
        clear hb2 q0 q1 q2 q3 q4 q5 q6
        obtain ⟨hw2, -, q0, q1, q2, q3, q4, q5, q6⟩ := X2.out
        go_wp2
        all_goals go_ret
        all_goals exact ⟨retB (by simp), hw2⟩
  rw [if_neg h1]
  by_cases h2 : x.kind = 2
  · rw [if_pos h2]
    rw [h2] at HB2 X0 hw0 ⊢
    generalize nameB x.name = EE at *
    generalize bareB x 0 false true false = BB at *
    clear hxx hA hK HB1 HB3 HB5 HB6 HLT h2 h1
    generalize x.kids.length = LK at *
    generalize x.op = O at *
    generalize x.name = S at *
    generalize x.pos = P at *
    generalize x.lit.shape.length = L1 at *
    generalize x.lit.cells.length = L2 at *
    cases BB
    · go_enter Try.func33, Try.ntmps33
      go_wp2_with fail
      refine (HB2.out _ hw0).mono ?_
      rintro e w1 ⟨rfl, hb1⟩
      have X1 := hide (X0.out.next hb1)
      clear hb1
      obtain ⟨hw1, -, q0, q1, q2, q3, q4, q5, q6⟩ := X1.out
      go_wp2
      all_goals go_ret
      all_goals exact ⟨retB (by simp), hw1⟩
    · cases EE
      · go_enter Try.func33, Try.ntmps33
        go_wp2_with fail
        refine (HB2.out _ hw0).mono ?_
        rintro e w1 ⟨rfl, hb1⟩
        have X1 := hide (X0.out.next hb1)
        clear hb1
        obtain ⟨hw1, -, q0, q1, q2, q3, q4, q5, q6⟩ := X1.out
        go_wp2_with fail
        refine (HNM.out _ hw1).mono ?_
        rintro e w2 ⟨rfl, hb2⟩
        have X2 := hide (X1.out.next hb2)
        clear hb2 q0 q1 q2 q3 q4 q5 q6
        obtain ⟨hw2, -, q0, q1, q2, q3, q4, q5, q6⟩ := X2.out
        go_wp2
        all_goals go_ret
        all_goals exact ⟨retB (by simp), hw2⟩
      · go_enter Try.func33, Try.ntmps33
        go_wp2_with fail
        refine (HB2.out _ hw0).mono ?_
        rintro e w1 ⟨rfl, hb1⟩
        have X1 := hide (X0.out.next hb1)
        clear hb1
        obtain ⟨hw1, -, q0, q1, q2, q3, q4, q5, q6⟩ := X1.out
        go_wp2_with fail
        refine (HNM.out _ hw1).mono ?_
        rintro e w2 ⟨rfl, hb2⟩
        have X2 := hide (X1.out.next hb2)
        clear hb2 q0 q1 q2 q3 q4 q5 q6
        obtain ⟨hw2, -, q0, q1, q2, q3, q4, q5, q6⟩ := X2.out
        go_wp2
        all_goals go_ret
        all_goals exact ⟨retB (by simp), hw2⟩
  rw [if_neg h2]
  by_cases h34 : x.kind = 3 ∨ x.kind = 4
  · rw [if_pos h34]
    have HK3 := hide h34
    generalize bareB x 0 false false false = BB at *
    clear hxx hA hK HB1 HB2 HB5 HB6 HLT HNM h2 h1 h34
    generalize x.kids.length = LK at *
    generalize x.kind = K at *
    generalize x.op = O at *
    generalize x.name = S at *
    generalize x.pos = P at *
    generalize x.lit.shape.length = L1 at *
    generalize x.lit.cells.length = L2 at *
    rcases HK3.out with rfl | rfl
    · cases i
      · go_enter Try.func33, Try.ntmps33
        go_wp2
        all_goals go_ret
        all_goals exact ⟨retB (by simp), hw0⟩
      · cases BB
        · go_enter Try.func33, Try.ntmps33
          go_wp2_with fail
          refine (HB3.out _ hw0).mono ?_
          rintro e w1 ⟨rfl, hb1⟩
          have X1 := hide (X0.out.next hb1)
          clear hb1
          obtain ⟨hw1, -, q0, q1, q2, q3, q4, q5, q6⟩ := X1.out
          go_wp2
          all_goals go_ret
          all_goals exact ⟨retB (by simp), hw1⟩
        · go_enter Try.func33, Try.ntmps33
          go_wp2_with fail
          refine (HB3.out _ hw0).mono ?_
          rintro e w1 ⟨rfl, hb1⟩
          have X1 := hide (X0.out.next hb1)
          clear hb1
          obtain ⟨hw1, -, q0, q1, q2, q3, q4, q5, q6⟩ := X1.out
          go_wp2
          all_goals go_ret
          all_goals exact ⟨retB (by simp), hw1⟩
    · cases i
      · go_enter Try.func33, Try.ntmps33
        go_wp2
        all_goals go_ret
        all_goals exact ⟨retB (by simp), hw0⟩
      · cases BB
        · go_enter Try.func33, Try.ntmps33
          go_wp2_with fail
          refine (HB3.out _ hw0).mono ?_
          rintro e w1 ⟨rfl, hb1⟩
          have X1 := hide (X0.out.next hb1)
          clear hb1
          obtain ⟨hw1, -, q0, q1, q2, q3, q4, q5, q6⟩ := X1.out
          go_wp2
          all_goals go_ret
          all_goals exact ⟨retB (by simp), hw1⟩
        · go_enter Try.func33, Try.ntmps33
          go_wp2_with fail
          refine (HB3.out _ hw0).mono ?_
          rintro e w1 ⟨rfl, hb1⟩
          have X1 := hide (X0.out.next hb1)
          clear hb1
          obtain ⟨hw1, -, q0, q1, q2, q3, q4, q5, q6⟩ := X1.out
          go_wp2
          all_goals go_ret
          all_goals exact ⟨retB (by simp), hw1⟩
  rw [if_neg h34]
  by_cases h5 : x.kind = 5
  · rw [if_pos h5]
    clear HB1 HB2 HB3 HB6 HLT HNM h1 h2 h34
    cases hB : bareB x 2 false false false with
    | false =>
      rw [hB] at HB5
      rw [h5] at HB5 X0 hw0 ⊢
      clear hxx hA hK hB
      generalize x.kids.length = LK at *
      generalize x.kind = K at *
      generalize x.op = O at *
      generalize x.name = S at *
      generalize x.pos = P at *
      generalize x.lit.shape.length = L1 at *
      generalize x.lit.cells.length = L2 at *
      go_enter Try.func33, Try.ntmps33
      go_wp2_with fail
      refine (HB5.out _ hw0).mono ?_
      rintro e w1 ⟨rfl, hb1⟩
      have X1 := hide (X0.out.next hb1)
      clear hb1
      obtain ⟨hw1, -, q0, q1, q2, q3, q4, q5, q6⟩ := X1.out
      go_wp2
      all_goals go_ret
      all_goals exact ⟨retB (by simp), hw1⟩
    | true =>
      rw [hB] at HB5
      have hlen := bareB_len (k := 2) hB
      obtain ⟨b, off, rfl, hbb, hkk⟩ := kids_base hK (by omega)
      obtain ⟨K0, O0, S0, A10, L10, C10, A20, L20, C20, AK0, LK0, CK0, P0, hkw0⟩ := hkk 0 (by omega)
      simp only [Nat.zero_mul, Nat.add_zero] at hkw0
      have HKW0 := hide (fun wr hwr => And.intro (hkw0 wr hwr).1 trivial)
      obtain ⟨K1, O1, S1, A11, L11, C11, A21, L21, C21, AK1, LK1, CK1, P1, hkw1⟩ := hkk 1 (by omega)
      simp only [Nat.one_mul, Nat.add_assoc, Nat.reduceAdd] at hkw1
      have HKW1 := hide (fun wr hwr => And.intro (hkw1 wr hwr).1 trivial)
      have HE := hide (fun wr (hwr : Below w.heap.size w wr) => mo52 m IH n _ lo _ wr (hkw0 wr hwr).2.1.deeper)
      have HE1 := hide (fun wr (hwr : Below w.heap.size w wr) => IH i n _ lo _ wr (hkw1 wr hwr).2.1)
      rw [h5] at HB5 X0 hw0 ⊢
      clear hkk hkw0 hkw1 hxx hA hK hB hm' hl IH h5
      rw [hlen] at *
      generalize moB (exprN m true) (usesN m) (nAt x.kids 0) = EE at *
      generalize exprN m i (nAt x.kids 1) = E1 at *
      clear hlen
      generalize x.kind = K at *
      generalize x.op = O at *
      generalize x.name = S at *
      generalize x.pos = P at *
      generalize x.lit.shape.length = L1 at *
      generalize x.lit.cells.length = L2 at *
      cases EE
      · go_enter Try.func33, Try.ntmps33
        obtain ⟨⟨g00, g01, g02, g03, g04, g05, g06⟩, -⟩ := HKW0.out _ hw0
        obtain ⟨⟨g10, g11, g12, g13, g14, g15, g16⟩, -⟩ := HKW1.out _ hw0
        go_wp2_with fail
        refine (HB5.out _ hw0).mono ?_
        rintro e w1 ⟨rfl, hb1⟩
        have X1 := hide (X0.out.next hb1)
        clear hb1 g00 g01 g02 g03 g04 g05 g06 g10 g11 g12 g13 g14 g15 g16
        obtain ⟨hw1, -, q0, q1, q2, q3, q4, q5, q6⟩ := X1.out
        obtain ⟨⟨g00, g01, g02, g03, g04, g05, g06⟩, -⟩ := HKW0.out _ hw1
        obtain ⟨⟨g10, g11, g12, g13, g14, g15, g16⟩, -⟩ := HKW1.out _ hw1
        go_wp2_with fail
        refine (HE.out _ hw1).mono ?_
        rintro e w2 ⟨rfl, hb2⟩
        have X2 := hide (X1.out.next hb2)
        clear hb2 g00 g01 g02 g03 g04 g05 g06 g10 g11 g12 g13 g14 g15 g16 q0 q1 q2 q3 q4 q5 q6
        obtain ⟨hw2, -, q0, q1, q2, q3, q4, q5, q6⟩ := X2.out
        obtain ⟨⟨g00, g01, g02, g03, g04, g05, g06⟩, -⟩ := HKW0.out _ hw2
        obtain ⟨⟨g10, g11, g12, g13, g14, g15, g16⟩, -⟩ := HKW1.out _ hw2
        go_wp2
        all_goals go_ret
        all_goals exact ⟨retB (by simp), hw2⟩
      · cases E1
        · go_enter Try.func33, Try.ntmps33
          obtain ⟨⟨g00, g01, g02, g03, g04, g05, g06⟩, -⟩ := HKW0.out _ hw0
          obtain ⟨⟨g10, g11, g12, g13, g14, g15, g16⟩, -⟩ := HKW1.out _ hw0
          go_wp2_with fail
          refine (HB5.out _ hw0).mono ?_
          rintro e w1 ⟨rfl, hb1⟩
          have X1 := hide (X0.out.next hb1)
          clear hb1 g00 g01 g02 g03 g04 g05 g06 g10 g11 g12 g13 g14 g15 g16
          obtain ⟨hw1, -, q0, q1, q2, q3, q4, q5, q6⟩ := X1.out
          obtain ⟨⟨g00, g01, g02, g03, g04, g05, g06⟩, -⟩ := HKW0.out _ hw1
          obtain ⟨⟨g10, g11, g12, g13, g14, g15, g16⟩, -⟩ := HKW1.out _ hw1
          go_wp2_with fail
          refine (HE.out _ hw1).mono ?_
          rintro e w2 ⟨rfl, hb2⟩
          have X2 := hide (X1.out.next hb2)
          clear hb2 g00 g01 g02 g03 g04 g05 g06 g10 g11 g12 g13 g14 g15 g16 q0 q1 q2 q3 q4 q5 q6
          obtain ⟨hw2, -, q0, q1, q2, q3, q4, q5, q6⟩ := X2.out
          obtain ⟨⟨g00, g01, g02, g03, g04, g05, g06⟩, -⟩ := HKW0.out _ hw2
          obtain ⟨⟨g10, g11, g12, g13, g14, g15, g16⟩, -⟩ := HKW1.out _ hw2
          go_wp2_with fail
          refine (HE1.out _ hw2).mono ?_
          rintro e w3 ⟨rfl, hb3⟩
          have X3 := hide (X2.out.next hb3)
          clear hb3 g00 g01 g02 g03 g04 g05 g06 g10 g11 g12 g13 g14 g15 g16 q0 q1 q2 q3 q4 q5 q6
          obtain ⟨hw3, -, q0, q1, q2, q3, q4, q5, q6⟩ := X3.out
          obtain ⟨⟨g00, g01, g02, g03, g04, g05, g06⟩, -⟩ := HKW0.out _ hw3
          obtain ⟨⟨g10, g11, g12, g13, g14, g15, g16⟩, -⟩ := HKW1.out _ hw3
          go_wp2
          all_goals go_ret
          all_goals exact ⟨retB (by simp), hw3⟩
        · go_enter Try.func33, Try.ntmps33
          obtain ⟨⟨g00, g01, g02, g03, g04, g05, g06⟩, -⟩ := HKW0.out _ hw0
          obtain ⟨⟨g10, g11, g12, g13, g14, g15, g16⟩, -⟩ := HKW1.out _ hw0
          go_wp2_with fail
          refine (HB5.out _ hw0).mono ?_
          rintro e w1 ⟨rfl, hb1⟩
          have X1 := hide (X0.out.next hb1)
          clear hb1 g00 g01 g02 g03 g04 g05 g06 g10 g11 g12 g13 g14 g15 g16
          obtain ⟨hw1, -, q0, q1, q2, q3, q4, q5, q6⟩ := X1.out
          obtain ⟨⟨g00, g01, g02, g03, g04, g05, g06⟩, -⟩ := HKW0.out _ hw1
          obtain ⟨⟨g10, g11, g12, g13, g14, g15, g16⟩, -⟩ := HKW1.out _ hw1
          go_wp2_with fail
          refine (HE.out _ hw1).mono ?_
          rintro e w2 ⟨rfl, hb2⟩
          have X2 := hide (X1.out.next hb2)
          clear hb2 g00 g01 g02 g03 g04 g05 g06 g10 g11 g12 g13 g14 g15 g16 q0 q1 q2 q3 q4 q5 q6
          obtain ⟨hw2, -, q0, q1, q2, q3, q4, q5, q6⟩ := X2.out
          obtain ⟨⟨g00, g01, g02, g03, g04, g05, g06⟩, -⟩ := HKW0.out _ hw2
          obtain ⟨⟨g10, g11, g12, g13, g14, g15, g16⟩, -⟩ := HKW1.out _ hw2
          go_wp2_with fail
          refine (HE1.out _ hw2).mono ?_
          rintro e w3 ⟨rfl, hb3⟩
          have X3 := hide (X2.out.next hb3)
          clear hb3 g00 g01 g02 g03 g04 g05 g06 g10 g11 g12 g13 g14 g15 g16 q0 q1 q2 q3 q4 q5 q6
          obtain ⟨hw3, -, q0, q1, q2, q3, q4, q5, q6⟩ := X3.out
          obtain ⟨⟨g00, g01, g02, g03, g04, g05, g06⟩, -⟩ := HKW0.out _ hw3
          obtain ⟨⟨g10, g11, g12, g13, g14, g15, g16⟩, -⟩ := HKW1.out _ hw3
          go_wp2
          all_goals go_ret
          all_goals exact ⟨retB (by simp), hw3⟩
  rw [if_neg h5]
  by_cases h6 : x.kind = 6
  · rw [if_pos h6]
    clear HB1 HB2 HB3 HB5 HLT HNM h1 h2 h34 h5
    cases hB : bareB x 3 false false false with
    | false =>
      rw [hB] at HB6
      rw [h6] at HB6 X0 hw0 ⊢
      clear hxx hA hK hB
      generalize x.kids.length = LK at *
      generalize x.kind = K at *
      generalize x.op = O at *
      generalize x.name = S at *
      generalize x.pos = P at *
      generalize x.lit.shape.length = L1 at *
      generalize x.lit.cells.length = L2 at *
      go_enter Try.func33, Try.ntmps33
      go_wp2_with fail
      refine (HB6.out _ hw0).mono ?_
      rintro e w1 ⟨rfl, hb1⟩
      have X1 := hide (X0.out.next hb1)
      clear hb1
      obtain ⟨hw1, -, q0, q1, q2, q3, q4, q5, q6⟩ := X1.out
      go_wp2
      all_goals go_ret
      all_goals exact ⟨retB (by simp), hw1⟩
    | true =>
      rw [hB] at HB6
      have hlen := bareB_len (k := 3) hB
      obtain ⟨b, off, rfl, hbb, hkk⟩ := kids_base hK (by omega)
      obtain ⟨K0, O0, S0, A10, L10, C10, A20, L20, C20, AK0, LK0, CK0, P0, hkw0⟩ := hkk 0 (by omega)
      simp only [Nat.zero_mul, Nat.add_zero] at hkw0
      have HKW0 := hide (fun wr hwr => And.intro (hkw0 wr hwr).1 trivial)
      obtain ⟨K1, O1, S1, A11, L11, C11, A21, L21, C21, AK1, LK1, CK1, P1, hkw1⟩ := hkk 1 (by omega)
      simp only [Nat.one_mul, Nat.add_assoc, Nat.reduceAdd] at hkw1
      have HKW1 := hide (fun wr hwr => And.intro (hkw1 wr hwr).1 trivial)
      obtain ⟨K2, O2, S2, A12, L12, C12, A22, L22, C22, AK2, LK2, CK2, P2, hkw2⟩ := hkk 2 (by omega)
      simp only [Nat.reduceMul, Nat.add_assoc, Nat.reduceAdd] at hkw2
      have HKW2 := hide (fun wr hwr => And.intro (hkw2 wr hwr).1 trivial)
      have HE := hide (fun wr (hwr : Below w.heap.size w wr) => dy53 m IH n _ lo _ wr (hkw0 wr hwr).2.1.deeper)
      have HE1 := hide (fun wr (hwr : Below w.heap.size w wr) => IH i n _ lo _ wr (hkw1 wr hwr).2.1)
      have HE2 := hide (fun wr (hwr : Below w.heap.size w wr) => IH i n _ lo _ wr (hkw2 wr hwr).2.1)
      rw [h6] at HB6 X0 hw0 ⊢
      clear hkk hkw0 hkw1 hkw2 hxx hA hK hB hm' hl IH h6
      rw [hlen] at *
      generalize dyB (exprN m true) (usesN m) (nAt x.kids 0) = EE at *
      generalize exprN m i (nAt x.kids 1) = E1 at *
      generalize exprN m i (nAt x.kids 2) = E2 at *
      clear hlen
      generalize x.kind = K at *
      generalize x.op = O at *
      generalize x.name = S at *
      generalize x.pos = P at *
      generalize x.lit.shape.length = L1 at *
      generalize x.lit.cells.length = L2 at *
      cases EE
      · go_enter Try.func33, Try.ntmps33
        obtain ⟨⟨g00, g01, g02, g03, g04, g05, g06⟩, -⟩ := HKW0.out _ hw0
        obtain ⟨⟨g10, g11, g12, g13, g14, g15, g16⟩, -⟩ := HKW1.out _ hw0
        obtain ⟨⟨g20, g21, g22, g23, g24, g25, g26⟩, -⟩ := HKW2.out _ hw0
        go_wp2_with fail
        refine (HB6.out _ hw0).mono ?_
        rintro e w1 ⟨rfl, hb1⟩
        have X1 := hide (X0.out.next hb1)
        clear hb1 g00 g01 g02 g03 g04 g05 g06 g10 g11 g12 g13 g14 g15 g16 g20 g21 g22 g23 g24 g25 g26
        obtain ⟨hw1, -, q0, q1, q2, q3, q4, q5, q6⟩ := X1.out
        obtain ⟨⟨g00, g01, g02, g03, g04, g05, g06⟩, -⟩ := HKW0.out _ hw1
        obtain ⟨⟨g10, g11, g12, g13, g14, g15, g16⟩, -⟩ := HKW1.out _ hw1
        obtain ⟨⟨g20, g21, g22, g23, g24, g25, g26⟩, -⟩ := HKW2.out _ hw1
        go_wp2_with fail
        refine (HE.out _ hw1).mono ?_
        rintro e w2 ⟨rfl, hb2⟩
        have X2 := hide (X1.out.next hb2)
        clear hb2 g00 g01 g02 g03 g04 g05 g06 g10 g11 g12 g13 g14 g15 g16 g20 g21 g22 g23 g24 g25 g26 q0 q1 q2 q3 q4 q5 q6
        obtain ⟨hw2, -, q0, q1, q2, q3, q4, q5, q6⟩ := X2.out
        obtain ⟨⟨g00, g01, g02, g03, g04, g05, g06⟩, -⟩ := HKW0.out _ hw2
        obtain ⟨⟨g10, g11, g12, g13, g14, g15, g16⟩, -⟩ := HKW1.out _ hw2
        obtain ⟨⟨g20, g21, g22, g23, g24, g25, g26⟩, -⟩ := HKW2.out _ hw2
        go_wp2
        all_goals go_ret
        all_goals exact ⟨retB (by simp), hw2⟩
      · cases E1
        · go_enter Try.func33, Try.ntmps33
          obtain ⟨⟨g00, g01, g02, g03, g04, g05, g06⟩, -⟩ := HKW0.out _ hw0
          obtain ⟨⟨g10, g11, g12, g13, g14, g15, g16⟩, -⟩ := HKW1.out _ hw0
          obtain ⟨⟨g20, g21, g22, g23, g24, g25, g26⟩, -⟩ := HKW2.out _ hw0
          go_wp2_with fail
          refine (HB6.out _ hw0).mono ?_
          rintro e w1 ⟨rfl, hb1⟩
          have X1 := hide (X0.out.next hb1)
          clear hb1 g00 g01 g02 g03 g04 g05 g06 g10 g11 g12 g13 g14 g15 g16 g20 g21 g22 g23 g24 g25 g26
          obtain ⟨hw1, -, q0, q1, q2, q3, q4, q5, q6⟩ := X1.out
          obtain ⟨⟨g00, g01, g02, g03, g04, g05, g06⟩, -⟩ := HKW0.out _ hw1
          obtain ⟨⟨g10, g11, g12, g13, g14, g15, g16⟩, -⟩ := HKW1.out _ hw1
          obtain ⟨⟨g20, g21, g22, g23, g24, g25, g26⟩, -⟩ := HKW2.out _ hw1
          go_wp2_with fail
          refine (HE.out _ hw1).mono ?_
          rintro e w2 ⟨rfl, hb2⟩
          have X2 := hide (X1.out.next hb2)
          clear hb2 g00 g01 g02 g03 g04 g05 g06 g10 g11 g12 g13 g14 g15 g16 g20 g21 g22 g23 g24 g25 g26 q0 q1 q2 q3 q4 q5 q6
          obtain ⟨hw2, -, q0, q1, q2, q3, q4, q5, q6⟩ := X2.out
          obtain ⟨⟨g00, g01, g02, g03, g04, g05, g06⟩, -⟩ := HKW0.out _ hw2
          obtain ⟨⟨g10, g11, g12, g13, g14, g15, g16⟩, -⟩ := HKW1.out _ hw2
          obtain ⟨⟨g20, g21, g22, g23, g24, g25, g26⟩, -⟩ := HKW2.out _ hw2
          go_wp2_with fail
          refine (HE1.out _ hw2).mono ?_
          rintro e w3 ⟨rfl, hb3⟩
          have X3 := hide (X2.out.next hb3)
          clear hb3 g00 g01 g02 g03 g04 g05 g06 g10 g11 g12 g13 g14 g15 g16 g20 g21 g22 g23 g24 g25 g26 q0 q1 q2 q3 q4 q5 q6
          obtain ⟨hw3, -, q0, q1, q2, q3, q4, q5, q6⟩ := X3.out
          obtain ⟨⟨g00, g01, g02, g03, g04, g05, g06⟩, -⟩ := HKW0.out _ hw3
          obtain ⟨⟨g10, g11, g12, g13, g14, g15, g16⟩, -⟩ := HKW1.out _ hw3
          obtain ⟨⟨g20, g21, g22, g23, g24, g25, g26⟩, -⟩ := HKW2.out _ hw3
          go_wp2
          all_goals go_ret
          all_goals exact ⟨retB (by simp), hw3⟩
        · cases E2
          · go_enter Try.func33, Try.ntmps33
            obtain ⟨⟨g00, g01, g02, g03, g04, g05, g06⟩, -⟩ := HKW0.out _ hw0
            obtain ⟨⟨g10, g11, g12, g13, g14, g15, g16⟩, -⟩ := HKW1.out _ hw0
            obtain ⟨⟨g20, g21, g22, g23, g24, g25, g26⟩, -⟩ := HKW2.out _ hw0
            go_wp2_with fail
            refine (HB6.out _ hw0).mono ?_
            rintro e w1 ⟨rfl, hb1⟩
            have X1 := hide (X0.out.next hb1)
            clear hb1 g00 g01 g02 g03 g04 g05 g06 g10 g11 g12 g13 g14 g15 g16 g20 g21 g22 g23 g24 g25 g26
            obtain ⟨hw1, -, q0, q1, q2, q3, q4, q5, q6⟩ := X1.out
            obtain ⟨⟨g00, g01, g02, g03, g04, g05, g06⟩, -⟩ := HKW0.out _ hw1
            obtain ⟨⟨g10, g11, g12, g13, g14, g15, g16⟩, -⟩ := HKW1.out _ hw1
            obtain ⟨⟨g20, g21, g22, g23, g24, g25, g26⟩, -⟩ := HKW2.out _ hw1
            go_wp2_with fail
            refine (HE.out _ hw1).mono ?_
            rintro e w2 ⟨rfl, hb2⟩
            have X2 := hide (X1.out.next hb2)
            clear hb2 g00 g01 g02 g03 g04 g05 g06 g10 g11 g12 g13 g14 g15 g16 g20 g21 g22 g23 g24 g25 g26 q0 q1 q2 q3 q4 q5 q6
            obtain ⟨hw2, -, q0, q1, q2, q3, q4, q5, q6⟩ := X2.out
            obtain ⟨⟨g00, g01, g02, g03, g04, g05, g06⟩, -⟩ := HKW0.out _ hw2
            obtain ⟨⟨g10, g11, g12, g13, g14, g15, g16⟩, -⟩ := HKW1.out _ hw2
            obtain ⟨⟨g20, g21, g22, g23, g24, g25, g26⟩, -⟩ := HKW2.out _ hw2
            go_wp2_with fail
            refine (HE1.out _ hw2).mono ?_
            rintro e w3 ⟨rfl, hb3⟩
            have X3 := hide (X2.out.next hb3)
            clear hb3 g00 g01 g02 g03 g04 g05 g06 g10 g11 g12 g13 g14 g15 g16 g20 g21 g22 g23 g24 g25 g26 q0 q1 q2 q3 q4 q5 q6
            obtain ⟨hw3, -, q0, q1, q2, q3, q4, q5, q6⟩ := X3.out
            obtain ⟨⟨g00, g01, g02, g03, g04, g05, g06⟩, -⟩ := HKW0.out _ hw3
            obtain ⟨⟨g10, g11, g12, g13, g14, g15, g16⟩, -⟩ := HKW1.out _ hw3
            obtain ⟨⟨g20, g21, g22, g23, g24, g25, g26⟩, -⟩ := HKW2.out _ hw3
            go_wp2_with fail
            refine (HE2.out _ hw3).mono ?_
            rintro e w4 ⟨rfl, hb4⟩
            have X4 := hide (X3.out.next hb4)
            clear hb4 g00 g01 g02 g03 g04 g05 g06 g10 g11 g12 g13 g14 g15 g16 g20 g21 g22 g23 g24 g25 g26 q0 q1 q2 q3 q4 q5 q6
            obtain ⟨hw4, -, q0, q1, q2, q3, q4, q5, q6⟩ := X4.out
            obtain ⟨⟨g00, g01, g02, g03, g04, g05, g06⟩, -⟩ := HKW0.out _ hw4
            obtain ⟨⟨g10, g11, g12, g13, g14, g15, g16⟩, -⟩ := HKW1.out _ hw4
            obtain ⟨⟨g20, g21, g22, g23, g24, g25, g26⟩, -⟩ := HKW2.out _ hw4
            go_wp2
            all_goals go_ret
            all_goals exact ⟨retB (by simp), hw4⟩
          · go_enter Try.func33, Try.ntmps33
            obtain ⟨⟨g00, g01, g02, g03, g04, g05, g06⟩, -⟩ := HKW0.out _ hw0
            obtain ⟨⟨g10, g11, g12, g13, g14, g15, g16⟩, -⟩ := HKW1.out _ hw0
            obtain ⟨⟨g20, g21, g22, g23, g24, g25, g26⟩, -⟩ := HKW2.out _ hw0
            go_wp2_with fail
            refine (HB6.out _ hw0).mono ?_
            rintro e w1 ⟨rfl, hb1⟩
            have X1 := hide (X0.out.next hb1)
            clear hb1 g00 g01 g02 g03 g04 g05 g06 g10 g11 g12 g13 g14 g15 g16 g20 g21 g22 g23 g24 g25 g26
            obtain ⟨hw1, -, q0, q1, q2, q3, q4, q5, q6⟩ := X1.out
            obtain ⟨⟨g00, g01, g02, g03, g04, g05, g06⟩, -⟩ := HKW0.out _ hw1
            obtain ⟨⟨g10, g11, g12, g13, g14, g15, g16⟩, -⟩ := HKW1.out _ hw1
            obtain ⟨⟨g20, g21, g22, g23, g24, g25, g26⟩, -⟩ := HKW2.out _ hw1
            go_wp2_with fail
            refine (HE.out _ hw1).mono ?_
            rintro e w2 ⟨rfl, hb2⟩
            have X2 := hide (X1.out.next hb2)
            clear hb2 g00 g01 g02 g03 g04 g05 g06 g10 g11 g12 g13 g14 g15 g16 g20 g21 g22 g23 g24 g25 g26 q0 q1 q2 q3 q4 q5 q6
            obtain ⟨hw2, -, q0, q1, q2, q3, q4, q5, q6⟩ := X2.out
            obtain ⟨⟨g00, g01, g02, g03, g04, g05, g06⟩, -⟩ := HKW0.out _ hw2
            obtain ⟨⟨g10, g11, g12, g13, g14, g15, g16⟩, -⟩ := HKW1.out _ hw2
            obtain ⟨⟨g20, g21, g22, g23, g24, g25, g26⟩, -⟩ := HKW2.out _ hw2
            go_wp2_with fail
            refine (HE1.out _ hw2).mono ?_
            rintro e w3 ⟨rfl, hb3⟩
            have X3 := hide (X2.out.next hb3)
            clear hb3 g00 g01 g02 g03 g04 g05 g06 g10 g11 g12 g13 g14 g15 g16 g20 g21 g22 g23 g24 g25 g26 q0 q1 q2 q3 q4 q5 q6
            obtain ⟨hw3, -, q0, q1, q2, q3, q4, q5, q6⟩ := X3.out
            obtain ⟨⟨g00, g01, g02, g03, g04, g05, g06⟩, -⟩ := HKW0.out _ hw3
            obtain ⟨⟨g10, g11, g12, g13, g14, g15, g16⟩, -⟩ := HKW1.out _ hw3
            obtain ⟨⟨g20, g21, g22, g23, g24, g25, g26⟩, -⟩ := HKW2.out _ hw3
            go_wp2_with fail
            refine (HE2.out _ hw3).mono ?_
            rintro e w4 ⟨rfl, hb4⟩
            have X4 := hide (X3.out.next hb4)
            clear hb4 g00 g01 g02 g03 g04 g05 g06 g10 g11 g12 g13 g14 g15 g16 g20 g21 g22 g23 g24 g25 g26 q0 q1 q2 q3 q4 q5 q6
            obtain ⟨hw4, -, q0, q1, q2, q3, q4, q5, q6⟩ := X4.out
            obtain ⟨⟨g00, g01, g02, g03, g04, g05, g06⟩, -⟩ := HKW0.out _ hw4
            obtain ⟨⟨g10, g11, g12, g13, g14, g15, g16⟩, -⟩ := HKW1.out _ hw4
            obtain ⟨⟨g20, g21, g22, g23, g24, g25, g26⟩, -⟩ := HKW2.out _ hw4
            go_wp2
            all_goals go_ret
            all_goals exact ⟨retB (by simp), hw4⟩
  rw [if_neg h6]
  have h3 : ¬ x.kind = 3 := fun h => h34 (Or.inl h)
  have h4 : ¬ x.kind = 4 := fun h => h34 (Or.inr h)
  clear hxx hA hK HB1 HB2 HB3 HB5 HB6 HLT HNM h34
  generalize x.kids.length = LK at *
  generalize x.kind = K at *
  generalize x.op = O at *
  generalize x.name = S at *
  generalize x.pos = P at *
  generalize x.lit.shape.length = L1 at *
  generalize x.lit.cells.length = L2 at *
  have k1 : (K == 1) = false := beq_eq_false_iff_ne.2 h1
  have k2 : (K == 2) = false := beq_eq_false_iff_ne.2 h2
  have k3 : (K == 3) = false := beq_eq_false_iff_ne.2 h3
  have k4 : (K == 4) = false := beq_eq_false_iff_ne.2 h4
  have k5 : (K == 5) = false := beq_eq_false_iff_ne.2 h5
  have k6 : (K == 6) = false := beq_eq_false_iff_ne.2 h6
  go_enter Try.func33, Try.ntmps33
  go_wp2
  all_goals go_ret
  all_goals exact ⟨retB (by simp), hw0⟩
theorem expr33 (m : Nat) : ExprC m := by
  induction m with
  | zero => exact fun i n x lo va w hx => hx.elim
  | succ m ih => exact expr33_step m ih
end Go.Proofs.Ytkgpoibnilgaeaa
