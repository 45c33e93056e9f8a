/-
  The document's functions of programs: lambda, between, two, turned, Mo, Dy, expr, Check: contracts for all programs.
-/
import Derived.Test.YtkgpoibnilgaeaaCoD
import Derived.Test.YtkgpoibnilgaeaaCoE
import Derived.Test.YtkgpoibnilgaeaaCoF
namespace Go.Proofs.Ytkgpoibnilgaeaa
open Go.ChangeShapes Go.WideShapes Go.ChangeAt Go.RowKit
set_option linter.unusedVariables false
set_option linter.unusedSimpArgs false
def bareB (x : Nd) (k : Int) (op nm lt : Bool) : Bool := bareL x.kids.length x.op x.name x.lit.shape.length x.lit.cells.length k op nm lt
def primB (x : Nd) (a b : Int) : Bool := primL x.kind x.kids.length x.op x.name x.lit.shape.length x.lit.cells.length a b
/-- What may be, part by part; e: may a text be an expression, u: does it name an argument. -/
def lamB (e : Nd → Bool) (u : Int → Nd → Bool) (x : Nd) : Bool := bareB x 1 false false false && e (nAt x.kids 0) && (if x.kind = 22 then !u 3 (nAt x.kids 0) else (u 3 (nAt x.kids 0) && u 4 (nAt x.kids 0)))
def betB (x : Nd) : Bool := if x.kind = 35 then bareB x 1 false false false && primB (nAt x.kids 0) 21 32 else primB x 21 32
def twoB (e : Nd → Bool) (u : Int → Nd → Bool) (x : Nd) : Bool := if x.kind = 23 then lamB e u x else primB x 21 32 || primB x 41 54
def turB (e : Nd → Bool) (u : Int → Nd → Bool) (x : Nd) : Bool := bareB x 1 false false false && twoB e u (nAt x.kids 0) && (decide ((nAt x.kids 0).kind = 23) || (!decide ((nAt x.kids 0).op = 52) && !decide ((nAt x.kids 0).op = 53)))
def moB (e : Nd → Bool) (u : Int → Nd → Bool) (x : Nd) : Bool :=
  if x.kind = 21 then primB x 1 19 else if x.kind = 22 then lamB e u x else if x.kind = 31 ∨ x.kind = 32 ∨ x.kind = 33 ∨ x.kind = 34 then bareB x 1 false false false && betB (nAt x.kids 0)
  else if x.kind = 35 then turB e u x else if x.kind = 26 then bareB x 1 true false false && decide (0 ≤ x.op) && decide (x.op ≤ 4096) && decide ((nAt x.kids 0).kind = 22) && lamB e u (nAt x.kids 0) else false
def dyB (e : Nd → Bool) (u : Int → Nd → Bool) (x : Nd) : Bool :=
  if x.kind = 25 then bareB x 1 false false false && betB (nAt x.kids 0) else if x.kind = 35 then turB e u x else twoB e u x
/-- May it be an expression (i: within a function's text)? -/
def exprN : Nat → Bool → Nd → Bool
  | 0, _, _ => false
  | m + 1, i, x =>
    if x.kind = 1 then bareB x 0 false false true && litB x.lit else if x.kind = 2 then bareB x 0 false true false && nameB x.name
    else if x.kind = 3 ∨ x.kind = 4 then i && bareB x 0 false false false
    else if x.kind = 5 then bareB x 2 false false false && moB (exprN m true) (usesN m) (nAt x.kids 0) && exprN m i (nAt x.kids 1)
    else if x.kind = 6 then bareB x 3 false false false && dyB (exprN m true) (usesN m) (nAt x.kids 0) && exprN m i (nAt x.kids 1) && exprN m i (nAt x.kids 2) else false
theorem bareB_len {x : Nd} {k : Nat} {a b c : Bool} (h : bareB x k a b c = true) : x.kids.length = k := by
  simp only [bareB, bareL, Bool.and_eq_true, decide_eq_true_eq] at h
  have := h.1.1.1
  omega
/-- The parts of a node, one place for all. -/
theorem kids_base {m n lo : Nat} {w : World} {ks : List Nd} {ak : Option Addr} (h : KidsIn m n lo w ks ak) (h0 : 0 < ks.length) :
    ∃ b off, ak = some ⟨b, off, none⟩ ∧ b < w.heap.size ∧ ∀ j, j < ks.length → ∃ K O S A1 L1 C1 A2 L2 C2 AK LK CK P, ∀ wr, Below w.heap.size w wr → (wr.cell? ⟨b, off + j * 7, none⟩ = some (.int .i64 K) ∧ wr.cell? ⟨b, off + j * 7 + 1, none⟩ = some (.int .i64 O) ∧ wr.cell? ⟨b, off + j * 7 + 2, none⟩ = some (.string S) ∧ wr.cell? ⟨b, off + j * 7 + 3, none⟩ = some (.slice A1 L1 C1) ∧ wr.cell? ⟨b, off + j * 7 + 4, none⟩ = some (.slice A2 L2 C2) ∧ wr.cell? ⟨b, off + j * 7 + 5, none⟩ = some (.slice AK LK CK) ∧ wr.cell? ⟨b, off + j * 7 + 6, none⟩ = some (.int .i64 P)) ∧
      NdIn m n lo wr (nAt ks j) (.agg #[.int .i64 K, .int .i64 O, .string S, .slice A1 L1 C1, .slice A2 L2 C2, .slice AK LK CK, .int .i64 P]) ∧ K = (nAt ks j).kind ∧ O = (nAt ks j).op := by
  rcases h with h | ⟨b, off, ha, hlo, hb, hc⟩
  · rw [h] at h0; simp at h0
  refine ⟨b, off, ha, hb, fun j hj => ?_⟩
  obtain ⟨d1, e1, d2, e2, dk, ek, hs, hk⟩ := hc j hj
  exact ⟨_, _, _, d1, _, e1, d2, _, e2, dk, _, ek, _, fun wr hw => ⟨hs.next hw hb, hk.next hw, rfl, rfl⟩⟩
/-- A call of one node that comes to a bool. -/
def CallB (f m : Nat) (g : Nd → Bool) : Prop := ∀ n x lo va w, NdIn m n lo w x va → Calls Try.prog f #[va] w fun e w' => e = .returned (.bool (g x)) ∧ Below w.heap.size w w'
def ExprC (m : Nat) : Prop := ∀ i n x lo va w, NdIn m n lo w x va → Calls Try.prog 33 #[va, .bool i] w fun e w' => e = .returned (.bool (exprN m i x)) ∧ Below w.heap.size w w'

set_option maxHeartbeats 4000000 in
theorem lambda70 (m : Nat) (IH : ExprC m) : CallB 70 (m + 1) (lamB (exprN m true) (usesN m)) := by
  intro n x lo va w hx
  have hxx := hx
  obtain ⟨m', hm', a1, c1, a2, c2, ak, ck, rfl, hA, hl, hs, hK⟩ := hx.letters
  obtain rfl : m = m' := by omega
  have X0 := hide (box7_new w x.kind x.op x.name (.slice a1 x.lit.shape.length c1) (.slice a2 x.lit.cells.length c2) (.slice ak x.kids.length ck) x.pos)
  have hw0 := X0.out.1
  have HB1 := hide (fun wr (hwr : Below w.heap.size w wr) => bare51 x.kind x.op x.name a1 x.lit.shape.length c1 a2 x.lit.cells.length c2 ak x.kids.length ck x.pos 1 false false false wr)
  change Hid (∀ wr, Below w.heap.size w wr → Calls Try.prog 51 _ wr fun e w' => e = .returned (.bool (bareB x 1 false false false)) ∧ Below wr.heap.size wr w') at HB1
  unfold lamB
  cases hB : bareB x 1 false false false with
  | false =>
    rw [hB] at HB1
    generalize x.kids.length = LK at *
    generalize x.kind = K at *
    generalize x.op = O at *
    generalize x.name = S at *
    generalize x.pos = P at *
    generalize x.lit.shape.length = L1 at *
    generalize x.lit.cells.length = L2 at *
    go_enter Try.func70, Try.ntmps70
    go_wp2_with fail
    refine (HB1.out _ hw0).mono ?_
    rintro e w1 ⟨rfl, hb1⟩
    have X1 := hide (X0.out.next hb1)
    clear hb1
    obtain ⟨hw1, -, q0, q1, q2, q3, q4, q5, q6⟩ := X1.out
    go_wp2
    all_goals go_ret
    all_goals exact ⟨retB (by simp), hw1⟩
  | true =>
    rw [hB] at HB1
    have hlen := bareB_len (k := 1) hB
    obtain ⟨b, off, rfl, hbb, hkk⟩ := kids_base hK (by omega)
    obtain ⟨K0, O0, S0, A10, L10, C10, A20, L20, C20, AK0, LK0, CK0, P0, hkw0⟩ := hkk 0 (by omega)
    simp only [Nat.zero_mul, Nat.add_zero] at hkw0
    have HKW0 := hide (fun wr hwr => And.intro (hkw0 wr hwr).1 trivial)
    have HE := hide (fun wr (hwr : Below w.heap.size w wr) => IH true n _ lo _ wr (hkw0 wr hwr).2.1)
    have HU3 := hide (fun wr (hwr : Below w.heap.size w wr) => uses83 m 3 n _ lo _ wr (hkw0 wr hwr).2.1)
    have HU4 := hide (fun wr (hwr : Below w.heap.size w wr) => uses83 m 4 n _ lo _ wr (hkw0 wr hwr).2.1)
    clear hkk hkw0 hxx hA hK hB hm' IH hl
    rw [hlen] at *
    generalize exprN m true (nAt x.kids 0) = EE at *
    generalize usesN m 3 (nAt x.kids 0) = U3 at *
    generalize usesN m 4 (nAt x.kids 0) = U4 at *
    clear hlen
    generalize x.kind = K at *
    generalize x.op = O at *
    generalize x.name = S at *
    generalize x.pos = P at *
    generalize x.lit.shape.length = L1 at *
    generalize x.lit.cells.length = L2 at *
    cases EE
    · go_enter Try.func70, Try.ntmps70
      obtain ⟨⟨g00, g01, g02, g03, g04, g05, g06⟩, -⟩ := HKW0.out _ hw0
      go_wp2_with fail
      refine (HB1.out _ hw0).mono ?_
      rintro e w1 ⟨rfl, hb1⟩
      have X1 := hide (X0.out.next hb1)
      clear hb1 g00 g01 g02 g03 g04 g05 g06
      obtain ⟨hw1, -, q0, q1, q2, q3, q4, q5, q6⟩ := X1.out
      obtain ⟨⟨g00, g01, g02, g03, g04, g05, g06⟩, -⟩ := HKW0.out _ hw1
      go_wp2_with fail
      refine (HE.out _ hw1).mono ?_
      rintro e w2 ⟨rfl, hb2⟩
      have X2 := hide (X1.out.next hb2)
      clear hb2 g00 g01 g02 g03 g04 g05 g06 q0 q1 q2 q3 q4 q5 q6
      obtain ⟨hw2, -, q0, q1, q2, q3, q4, q5, q6⟩ := X2.out
      obtain ⟨⟨g00, g01, g02, g03, g04, g05, g06⟩, -⟩ := HKW0.out _ hw2
      go_wp2
      all_goals go_ret
      all_goals exact ⟨retB (by simp), hw2⟩
    · by_cases hk : K = 22
      · subst hk
        cases U3
        · go_enter Try.func70, Try.ntmps70
          obtain ⟨⟨g00, g01, g02, g03, g04, g05, g06⟩, -⟩ := HKW0.out _ hw0
          go_wp2_with fail
          refine (HB1.out _ hw0).mono ?_
          rintro e w1 ⟨rfl, hb1⟩
          have X1 := hide (X0.out.next hb1)
          clear hb1 g00 g01 g02 g03 g04 g05 g06
          obtain ⟨hw1, -, q0, q1, q2, q3, q4, q5, q6⟩ := X1.out
          obtain ⟨⟨g00, g01, g02, g03, g04, g05, g06⟩, -⟩ := HKW0.out _ hw1
          go_wp2_with fail
          refine (HE.out _ hw1).mono ?_
          rintro e w2 ⟨rfl, hb2⟩
          have X2 := hide (X1.out.next hb2)
          clear hb2 g00 g01 g02 g03 g04 g05 g06 q0 q1 q2 q3 q4 q5 q6
          obtain ⟨hw2, -, q0, q1, q2, q3, q4, q5, q6⟩ := X2.out
          obtain ⟨⟨g00, g01, g02, g03, g04, g05, g06⟩, -⟩ := HKW0.out _ hw2
          go_wp2_with fail
          refine (HU3.out _ hw2).mono ?_
          rintro e w3 ⟨rfl, hb3⟩
          have X3 := hide (X2.out.next hb3)
          clear hb3 g00 g01 g02 g03 g04 g05 g06 q0 q1 q2 q3 q4 q5 q6
          obtain ⟨hw3, -, q0, q1, q2, q3, q4, q5, q6⟩ := X3.out
          obtain ⟨⟨g00, g01, g02, g03, g04, g05, g06⟩, -⟩ := HKW0.out _ hw3
          go_wp2
          all_goals go_ret
          all_goals exact ⟨retB (by simp), hw3⟩
        · go_enter Try.func70, Try.ntmps70
          obtain ⟨⟨g00, g01, g02, g03, g04, g05, g06⟩, -⟩ := HKW0.out _ hw0
          go_wp2_with fail
          refine (HB1.out _ hw0).mono ?_
          rintro e w1 ⟨rfl, hb1⟩
          have X1 := hide (X0.out.next hb1)
          clear hb1 g00 g01 g02 g03 g04 g05 g06
          obtain ⟨hw1, -, q0, q1, q2, q3, q4, q5, q6⟩ := X1.out
          obtain ⟨⟨g00, g01, g02, g03, g04, g05, g06⟩, -⟩ := HKW0.out _ hw1
          go_wp2_with fail
          refine (HE.out _ hw1).mono ?_
          rintro e w2 ⟨rfl, hb2⟩
          have X2 := hide (X1.out.next hb2)
          clear hb2 g00 g01 g02 g03 g04 g05 g06 q0 q1 q2 q3 q4 q5 q6
          obtain ⟨hw2, -, q0, q1, q2, q3, q4, q5, q6⟩ := X2.out
          obtain ⟨⟨g00, g01, g02, g03, g04, g05, g06⟩, -⟩ := HKW0.out _ hw2
          go_wp2_with fail
          refine (HU3.out _ hw2).mono ?_
          rintro e w3 ⟨rfl, hb3⟩
          have X3 := hide (X2.out.next hb3)
          clear hb3 g00 g01 g02 g03 g04 g05 g06 q0 q1 q2 q3 q4 q5 q6
          obtain ⟨hw3, -, q0, q1, q2, q3, q4, q5, q6⟩ := X3.out
          obtain ⟨⟨g00, g01, g02, g03, g04, g05, g06⟩, -⟩ := HKW0.out _ hw3
          go_wp2
          all_goals go_ret
          all_goals exact ⟨retB (by simp), hw3⟩
      · have hk' : (K == 22) = false := beq_eq_false_iff_ne.2 hk
        cases U3
        · go_enter Try.func70, Try.ntmps70
          obtain ⟨⟨g00, g01, g02, g03, g04, g05, g06⟩, -⟩ := HKW0.out _ hw0
          go_wp2_with fail
          refine (HB1.out _ hw0).mono ?_
          rintro e w1 ⟨rfl, hb1⟩
          have X1 := hide (X0.out.next hb1)
          clear hb1 g00 g01 g02 g03 g04 g05 g06
          obtain ⟨hw1, -, q0, q1, q2, q3, q4, q5, q6⟩ := X1.out
          obtain ⟨⟨g00, g01, g02, g03, g04, g05, g06⟩, -⟩ := HKW0.out _ hw1
          go_wp2_with fail
          refine (HE.out _ hw1).mono ?_
          rintro e w2 ⟨rfl, hb2⟩
          have X2 := hide (X1.out.next hb2)
          clear hb2 g00 g01 g02 g03 g04 g05 g06 q0 q1 q2 q3 q4 q5 q6
          obtain ⟨hw2, -, q0, q1, q2, q3, q4, q5, q6⟩ := X2.out
          obtain ⟨⟨g00, g01, g02, g03, g04, g05, g06⟩, -⟩ := HKW0.out _ hw2
          go_wp2_with fail
          refine (HU3.out _ hw2).mono ?_
          rintro e w3 ⟨rfl, hb3⟩
          have X3 := hide (X2.out.next hb3)
          clear hb3 g00 g01 g02 g03 g04 g05 g06 q0 q1 q2 q3 q4 q5 q6
          obtain ⟨hw3, -, q0, q1, q2, q3, q4, q5, q6⟩ := X3.out
          obtain ⟨⟨g00, g01, g02, g03, g04, g05, g06⟩, -⟩ := HKW0.out _ hw3
          go_wp2
          all_goals go_ret
          all_goals exact ⟨retB (by simp [hk]), hw3⟩
        · cases U4
          · go_enter Try.func70, Try.ntmps70
            obtain ⟨⟨g00, g01, g02, g03, g04, g05, g06⟩, -⟩ := HKW0.out _ hw0
            go_wp2_with fail
            refine (HB1.out _ hw0).mono ?_
            rintro e w1 ⟨rfl, hb1⟩
            have X1 := hide (X0.out.next hb1)
            clear hb1 g00 g01 g02 g03 g04 g05 g06
            obtain ⟨hw1, -, q0, q1, q2, q3, q4, q5, q6⟩ := X1.out
            obtain ⟨⟨g00, g01, g02, g03, g04, g05, g06⟩, -⟩ := HKW0.out _ hw1
            go_wp2_with fail
            refine (HE.out _ hw1).mono ?_
            rintro e w2 ⟨rfl, hb2⟩
            have X2 := hide (X1.out.next hb2)
            clear hb2 g00 g01 g02 g03 g04 g05 g06 q0 q1 q2 q3 q4 q5 q6
            obtain ⟨hw2, -, q0, q1, q2, q3, q4, q5, q6⟩ := X2.out
            obtain ⟨⟨g00, g01, g02, g03, g04, g05, g06⟩, -⟩ := HKW0.out _ hw2
            go_wp2_with fail
            refine (HU3.out _ hw2).mono ?_
            rintro e w3 ⟨rfl, hb3⟩
            have X3 := hide (X2.out.next hb3)
            clear hb3 g00 g01 g02 g03 g04 g05 g06 q0 q1 q2 q3 q4 q5 q6
            obtain ⟨hw3, -, q0, q1, q2, q3, q4, q5, q6⟩ := X3.out
            obtain ⟨⟨g00, g01, g02, g03, g04, g05, g06⟩, -⟩ := HKW0.out _ hw3
            go_wp2_with fail
            refine (HU4.out _ hw3).mono ?_
            rintro e w4 ⟨rfl, hb4⟩
            have X4 := hide (X3.out.next hb4)
            clear hb4 g00 g01 g02 g03 g04 g05 g06 q0 q1 q2 q3 q4 q5 q6
            obtain ⟨hw4, -, q0, q1, q2, q3, q4, q5, q6⟩ := X4.out
            obtain ⟨⟨g00, g01, g02, g03, g04, g05, g06⟩, -⟩ := HKW0.out _ hw4
            go_wp2
            all_goals go_ret
            all_goals exact ⟨retB (by simp [hk]), hw4⟩
          · go_enter Try.func70, Try.ntmps70
            obtain ⟨⟨g00, g01, g02, g03, g04, g05, g06⟩, -⟩ := HKW0.out _ hw0
            go_wp2_with fail
            refine (HB1.out _ hw0).mono ?_
            rintro e w1 ⟨rfl, hb1⟩
            have X1 := hide (X0.out.next hb1)
            clear hb1 g00 g01 g02 g03 g04 g05 g06
            obtain ⟨hw1, -, q0, q1, q2, q3, q4, q5, q6⟩ := X1.out
            obtain ⟨⟨g00, g01, g02, g03, g04, g05, g06⟩, -⟩ := HKW0.out _ hw1
            go_wp2_with fail
            refine (HE.out _ hw1).mono ?_
            rintro e w2 ⟨rfl, hb2⟩
            have X2 := hide (X1.out.next hb2)
            clear hb2 g00 g01 g02 g03 g04 g05 g06 q0 q1 q2 q3 q4 q5 q6
            obtain ⟨hw2, -, q0, q1, q2, q3, q4, q5, q6⟩ := X2.out
            obtain ⟨⟨g00, g01, g02, g03, g04, g05, g06⟩, -⟩ := HKW0.out _ hw2
            go_wp2_with fail
            refine (HU3.out _ hw2).mono ?_
            rintro e w3 ⟨rfl, hb3⟩
            have X3 := hide (X2.out.next hb3)
            clear hb3 g00 g01 g02 g03 g04 g05 g06 q0 q1 q2 q3 q4 q5 q6
            obtain ⟨hw3, -, q0, q1, q2, q3, q4, q5, q6⟩ := X3.out
            obtain ⟨⟨g00, g01, g02, g03, g04, g05, g06⟩, -⟩ := HKW0.out _ hw3
            go_wp2_with fail
            refine (HU4.out _ hw3).mono ?_
            rintro e w4 ⟨rfl, hb4⟩
            have X4 := hide (X3.out.next hb4)
            clear hb4 g00 g01 g02 g03 g04 g05 g06 q0 q1 q2 q3 q4 q5 q6
            obtain ⟨hw4, -, q0, q1, q2, q3, q4, q5, q6⟩ := X4.out
            obtain ⟨⟨g00, g01, g02, g03, g04, g05, g06⟩, -⟩ := HKW0.out _ hw4
            go_wp2
            all_goals go_ret
            all_goals exact ⟨retB (by simp [hk]), hw4⟩

set_option maxHeartbeats 4000000 in
theorem between71 (m : Nat) : CallB 71 (m + 1) betB := by
  intro n x lo va w hx
  have hxx := hx
  obtain ⟨m', hm', a1, c1, a2, c2, ak, ck, rfl, hA, hl, hs, hK⟩ := hx.letters
  obtain rfl : m = m' := by omega
  have X0 := hide (box7_new w x.kind x.op x.name (.slice a1 x.lit.shape.length c1) (.slice a2 x.lit.cells.length c2) (.slice ak x.kids.length ck) x.pos)
  have hw0 := X0.out.1
  have HB1 := hide (fun wr (hwr : Below w.heap.size w wr) => bare51 x.kind x.op x.name a1 x.lit.shape.length c1 a2 x.lit.cells.length c2 ak x.kids.length ck x.pos 1 false false false wr)
  change Hid (∀ wr, Below w.heap.size w wr → Calls Try.prog 51 _ wr fun e w' => e = .returned (.bool (bareB x 1 false false false)) ∧ Below wr.heap.size wr w') at HB1
  have HP := hide (fun wr (hwr : Below w.heap.size w wr) => prim69 x.kind x.op x.name a1 x.lit.shape.length c1 a2 x.lit.cells.length c2 ak x.kids.length ck x.pos 21 32 wr)
  change Hid (∀ wr, Below w.heap.size w wr → Calls Try.prog 69 _ wr fun e w' => e = .returned (.bool (primB x 21 32)) ∧ Below wr.heap.size wr w') at HP
  unfold betB
  by_cases hk : x.kind = 35
  · rw [if_pos hk]
    clear HP
    cases hB : bareB x 1 false false false with
    | false =>
      rw [hB] at HB1
      rw [hk] at HB1 X0 hw0 ⊢
      generalize x.kids.length = LK at *
      generalize x.kind = K at *
      generalize x.op = O at *
      generalize x.name = S at *
      generalize x.pos = P at *
      generalize x.lit.shape.length = L1 at *
      generalize x.lit.cells.length = L2 at *
      go_enter Try.func71, Try.ntmps71
      go_wp2_with fail
      refine (HB1.out _ hw0).mono ?_
      rintro e w1 ⟨rfl, hb1⟩
      have X1 := hide (X0.out.next hb1)
      clear hb1
      obtain ⟨hw1, -, q0, q1, q2, q3, q4, q5, q6⟩ := X1.out
      go_wp2
      all_goals go_ret
      all_goals exact ⟨retB (by simp), hw1⟩
    | true =>
      rw [hB] at HB1
      have hlen := bareB_len (k := 1) hB
      obtain ⟨b, off, rfl, hbb, hkk⟩ := kids_base hK (by omega)
      obtain ⟨K0, O0, S0, A10, L10, C10, A20, L20, C20, AK0, LK0, CK0, P0, hkw0⟩ := hkk 0 (by omega)
      simp only [Nat.zero_mul, Nat.add_zero] at hkw0
      have HKW0 := hide (fun wr hwr => And.intro (hkw0 wr hwr).1 trivial)
      have HP0 : Hid (∀ wr, Below w.heap.size w wr → Calls Try.prog 69 #[.agg #[.int .i64 K0, .int .i64 O0, .string S0, .slice A10 L10 C10, .slice A20 L20 C20, .slice AK0 LK0 CK0, .int .i64 P0], .int .i64 21, .int .i64 32] wr fun e w' => e = .returned (.bool (primB (nAt x.kids 0) 21 32)) ∧ Below wr.heap.size wr w') := by
        intro wr hwr
        obtain ⟨_, _, _, _, _, _, _, _, he, -⟩ := (hkw0 wr hwr).2.1.letters
        injection he with he
        simp only [Array.mk.injEq, List.cons.injEq, Value.int.injEq, Value.string.injEq, Value.slice.injEq, true_and, and_true] at he
        obtain ⟨e1, e2, e3, ⟨e4, e5, e6⟩, ⟨e7, e8, e9⟩, ⟨e10, e11, e12⟩, e13⟩ := he
        rw [e1, e2, e3, e4, e5, e6, e7, e8, e9, e10, e11, e12, e13]
        exact prim69 _ _ _ _ _ _ _ _ _ _ _ _ _ 21 32 wr
      rw [hk] at HB1 X0 hw0 ⊢
      clear hkk hkw0 hxx hA hK hB hm' hl hk
      rw [hlen] at *
      generalize primB (nAt x.kids 0) 21 32 = EE at *
      clear hlen
      generalize x.kind = K at *
      generalize x.op = O at *
      generalize x.name = S at *
      generalize x.pos = P at *
      generalize x.lit.shape.length = L1 at *
      generalize x.lit.cells.length = L2 at *
      cases EE
      · go_enter Try.func71, Try.ntmps71
        obtain ⟨⟨g00, g01, g02, g03, g04, g05, g06⟩, -⟩ := HKW0.out _ hw0
        go_wp2_with fail
        refine (HB1.out _ hw0).mono ?_
        rintro e w1 ⟨rfl, hb1⟩
        have X1 := hide (X0.out.next hb1)
        clear hb1 g00 g01 g02 g03 g04 g05 g06
        obtain ⟨hw1, -, q0, q1, q2, q3, q4, q5, q6⟩ := X1.out
        obtain ⟨⟨g00, g01, g02, g03, g04, g05, g06⟩, -⟩ := HKW0.out _ hw1
        go_wp2_with fail
        refine (HP0.out _ hw1).mono ?_
        rintro e w2 ⟨rfl, hb2⟩
        have X2 := hide (X1.out.next hb2)
        clear hb2 g00 g01 g02 g03 g04 g05 g06 q0 q1 q2 q3 q4 q5 q6
        obtain ⟨hw2, -, q0, q1, q2, q3, q4, q5, q6⟩ := X2.out
        obtain ⟨⟨g00, g01, g02, g03, g04, g05, g06⟩, -⟩ := HKW0.out _ hw2
        go_wp2
        all_goals go_ret
        all_goals exact ⟨retB (by simp), hw2⟩
      · go_enter Try.func71, Try.ntmps71
        obtain ⟨⟨g00, g01, g02, g03, g04, g05, g06⟩, -⟩ := HKW0.out _ hw0
        go_wp2_with fail
        refine (HB1.out _ hw0).mono ?_
        rintro e w1 ⟨rfl, hb1⟩
        have X1 := hide (X0.out.next hb1)
        clear hb1 g00 g01 g02 g03 g04 g05 g06
        obtain ⟨hw1, -, q0, q1, q2, q3, q4, q5, q6⟩ := X1.out
        obtain ⟨⟨g00, g01, g02, g03, g04, g05, g06⟩, -⟩ := HKW0.out _ hw1
        go_wp2_with fail
        refine (HP0.out _ hw1).mono ?_
        rintro e w2 ⟨rfl, hb2⟩
        have X2 := hide (X1.out.next hb2)
        clear hb2 g00 g01 g02 g03 g04 g05 g06 q0 q1 q2 q3 q4 q5 q6
        obtain ⟨hw2, -, q0, q1, q2, q3, q4, q5, q6⟩ := X2.out
        obtain ⟨⟨g00, g01, g02, g03, g04, g05, g06⟩, -⟩ := HKW0.out _ hw2
        go_wp2
        all_goals go_ret
        all_goals exact ⟨retB (by simp), hw2⟩
  · rw [if_neg hk]
    have hk' : (x.kind == 35) = false := beq_eq_false_iff_ne.2 hk
    generalize primB x 21 32 = EE at *
    clear hxx hA hK
    generalize x.kids.length = LK at *
    generalize x.kind = K at *
    generalize x.op = O at *
    generalize x.name = S at *
    generalize x.pos = P at *
    generalize x.lit.shape.length = L1 at *
    generalize x.lit.cells.length = L2 at *
    cases EE
    · go_enter Try.func71, Try.ntmps71
      go_wp2_with fail
      refine (HP.out _ hw0).mono ?_
      rintro e w1 ⟨rfl, hb1⟩
      have X1 := hide (X0.out.next hb1)
      clear hb1
      obtain ⟨hw1, -, q0, q1, q2, q3, q4, q5, q6⟩ := X1.out
      go_wp2
      all_goals go_ret
      all_goals exact ⟨retB (by simp), hw1⟩
    · go_enter Try.func71, Try.ntmps71
      go_wp2_with fail
      refine (HP.out _ hw0).mono ?_
      rintro e w1 ⟨rfl, hb1⟩
      have X1 := hide (X0.out.next hb1)
      clear hb1
      obtain ⟨hw1, -, q0, q1, q2, q3, q4, q5, q6⟩ := X1.out
      go_wp2
      all_goals go_ret
      all_goals exact ⟨retB (by simp), hw1⟩

set_option maxHeartbeats 4000000 in
theorem two73 (m : Nat) (IH : ExprC m) : CallB 73 (m + 1) (twoB (exprN m true) (usesN m)) := by
  intro n x lo va w hx
  have hxx := hx
  obtain ⟨m', hm', a1, c1, a2, c2, ak, ck, rfl, hA, hl, hs, hK⟩ := hx.letters
  obtain rfl : m = m' := by omega
  have X0 := hide (box7_new w x.kind x.op x.name (.slice a1 x.lit.shape.length c1) (.slice a2 x.lit.cells.length c2) (.slice ak x.kids.length ck) x.pos)
  have hw0 := X0.out.1
  have HP1 := hide (fun wr (hwr : Below w.heap.size w wr) => prim69 x.kind x.op x.name a1 x.lit.shape.length c1 a2 x.lit.cells.length c2 ak x.kids.length ck x.pos 21 32 wr)
  change Hid (∀ wr, Below w.heap.size w wr → Calls Try.prog 69 _ wr fun e w' => e = .returned (.bool (primB x 21 32)) ∧ Below wr.heap.size wr w') at HP1
  have HP2 := hide (fun wr (hwr : Below w.heap.size w wr) => prim69 x.kind x.op x.name a1 x.lit.shape.length c1 a2 x.lit.cells.length c2 ak x.kids.length ck x.pos 41 54 wr)
  change Hid (∀ wr, Below w.heap.size w wr → Calls Try.prog 69 _ wr fun e w' => e = .returned (.bool (primB x 41 54)) ∧ Below wr.heap.size wr w') at HP2
  have HL := hide (fun wr (hwr : Below w.heap.size w wr) => lambda70 m IH n x lo _ wr (hxx.next hwr))
  unfold twoB
  generalize lamB (exprN m true) (usesN m) x = EE at *
  generalize primB x 21 32 = E1 at *
  generalize primB x 41 54 = E2 at *
  clear hxx hA hK
  generalize x.kids.length = LK at *
  generalize x.kind = K at *
  generalize x.op = O at *
  generalize x.name = S at *
  generalize x.pos = P at *
  generalize x.lit.shape.length = L1 at *
  generalize x.lit.cells.length = L2 at *
  by_cases hk : K = 23
  · subst hk
    cases EE
    · go_enter Try.func73, Try.ntmps73
      go_wp2_with fail
      refine (HL.out _ hw0).mono ?_
      rintro e w1 ⟨rfl, hb1⟩
      have X1 := hide (X0.out.next hb1)
      clear hb1
      obtain ⟨hw1, -, q0, q1, q2, q3, q4, q5, q6⟩ := X1.out
      go_wp2
      all_goals go_ret
      all_goals exact ⟨retB (by simp), hw1⟩
    · go_enter Try.func73, Try.ntmps73
      go_wp2_with fail
      refine (HL.out _ hw0).mono ?_
      rintro e w1 ⟨rfl, hb1⟩
      have X1 := hide (X0.out.next hb1)
      clear hb1
      obtain ⟨hw1, -, q0, q1, q2, q3, q4, q5, q6⟩ := X1.out
      go_wp2
      all_goals go_ret
      all_goals exact ⟨retB (by simp), hw1⟩
  · have hk' : (K == 23) = false := beq_eq_false_iff_ne.2 hk
    cases E1
    · cases E2
      · go_enter Try.func73, Try.ntmps73
        go_wp2_with fail
        refine (HP1.out _ hw0).mono ?_
        rintro e w1 ⟨rfl, hb1⟩
        have X1 := hide (X0.out.next hb1)
        clear hb1
        obtain ⟨hw1, -, q0, q1, q2, q3, q4, q5, q6⟩ := X1.out
        go_wp2_with fail
        refine (HP2.out _ hw1).mono ?_
        rintro e w2 ⟨rfl, hb2⟩
        have X2 := hide (X1.out.next hb2)
        clear hb2 q0 q1 q2 q3 q4 q5 q6
        obtain ⟨hw2, -, q0, q1, q2, q3, q4, q5, q6⟩ := X2.out
        go_wp2
        all_goals go_ret
        all_goals exact ⟨retB (by simp [hk]), hw2⟩
      · go_enter Try.func73, Try.ntmps73
        go_wp2_with fail
        refine (HP1.out _ hw0).mono ?_
        rintro e w1 ⟨rfl, hb1⟩
        have X1 := hide (X0.out.next hb1)
        clear hb1
        obtain ⟨hw1, -, q0, q1, q2, q3, q4, q5, q6⟩ := X1.out
        go_wp2_with fail
        refine (HP2.out _ hw1).mono ?_
        rintro e w2 ⟨rfl, hb2⟩
        have X2 := hide (X1.out.next hb2)
        clear hb2 q0 q1 q2 q3 q4 q5 q6
        obtain ⟨hw2, -, q0, q1, q2, q3, q4, q5, q6⟩ := X2.out
        go_wp2
        all_goals go_ret
        all_goals exact ⟨retB (by simp [hk]), hw2⟩
    · go_enter Try.func73, Try.ntmps73
      go_wp2_with fail
      refine (HP1.out _ hw0).mono ?_
      rintro e w1 ⟨rfl, hb1⟩
      have X1 := hide (X0.out.next hb1)
      clear hb1
      obtain ⟨hw1, -, q0, q1, q2, q3, q4, q5, q6⟩ := X1.out
      go_wp2
      all_goals go_ret
      all_goals exact ⟨retB (by simp [hk]), hw1⟩

set_option maxHeartbeats 4000000 in
theorem turned72 (m : Nat) (IH : ExprC m) : CallB 72 (m + 1) (turB (exprN m true) (usesN m)) := by
  intro n x lo va w hx
  have hxx := hx
  obtain ⟨m', hm', a1, c1, a2, c2, ak, ck, rfl, hA, hl, hs, hK⟩ := hx.letters
  obtain rfl : m = m' := by omega
  have X0 := hide (box7_new w x.kind x.op x.name (.slice a1 x.lit.shape.length c1) (.slice a2 x.lit.cells.length c2) (.slice ak x.kids.length ck) x.pos)
  have hw0 := X0.out.1
  have HB1 := hide (fun wr (hwr : Below w.heap.size w wr) => bare51 x.kind x.op x.name a1 x.lit.shape.length c1 a2 x.lit.cells.length c2 ak x.kids.length ck x.pos 1 false false false wr)
  change Hid (∀ wr, Below w.heap.size w wr → Calls Try.prog 51 _ wr fun e w' => e = .returned (.bool (bareB x 1 false false false)) ∧ Below wr.heap.size wr w') at HB1
  unfold turB
  cases hB : bareB x 1 false false false with
  | false =>
    rw [hB] at HB1
    generalize x.kids.length = LK at *
    generalize x.kind = K at *
    generalize x.op = O at *
    generalize x.name = S at *
    generalize x.pos = P at *
    generalize x.lit.shape.length = L1 at *
    generalize x.lit.cells.length = L2 at *
    go_enter Try.func72, Try.ntmps72
    go_wp2_with fail
    refine (HB1.out _ hw0).mono ?_
    rintro e w1 ⟨rfl, hb1⟩
    have X1 := hide (X0.out.next hb1)
    clear hb1
    obtain ⟨hw1, -, q0, q1, q2, q3, q4, q5, q6⟩ := X1.out
    go_wp2
    all_goals go_ret
    all_goals exact ⟨retB (by simp), hw1⟩
  | true =>
    rw [hB] at HB1
    have hlen := bareB_len (k := 1) hB
    obtain ⟨b, off, rfl, hbb, hkk⟩ := kids_base hK (by omega)
    obtain ⟨K0, O0, S0, A10, L10, C10, A20, L20, C20, AK0, LK0, CK0, P0, hkw0⟩ := hkk 0 (by omega)
    simp only [Nat.zero_mul, Nat.add_zero] at hkw0
    have HKW0 := hide (fun wr hwr => And.intro (hkw0 wr hwr).1 trivial)
    have HE := hide (fun wr (hwr : Below w.heap.size w wr) => two73 m IH n _ lo _ wr (hkw0 wr hwr).2.1.deeper)
    obtain ⟨hK0, hO0⟩ := (hkw0 w (Below.refl _ _)).2.2
    rw [← hK0, ← hO0]
    clear hkk hkw0 hxx hA hK hB hm' hl IH hK0 hO0
    rw [hlen] at *
    generalize twoB (exprN m true) (usesN m) (nAt x.kids 0) = EE at *
    clear hlen
    generalize x.kind = K at *
    generalize x.op = O at *
    generalize x.name = S at *
    generalize x.pos = P at *
    generalize x.lit.shape.length = L1 at *
    generalize x.lit.cells.length = L2 at *
    cases EE
    · go_enter Try.func72, Try.ntmps72
      obtain ⟨⟨g00, g01, g02, g03, g04, g05, g06⟩, -⟩ := HKW0.out _ hw0
      go_wp2_with fail
      refine (HB1.out _ hw0).mono ?_
      rintro e w1 ⟨rfl, hb1⟩
      have X1 := hide (X0.out.next hb1)
      clear hb1 g00 g01 g02 g03 g04 g05 g06
      obtain ⟨hw1, -, q0, q1, q2, q3, q4, q5, q6⟩ := X1.out
      obtain ⟨⟨g00, g01, g02, g03, g04, g05, g06⟩, -⟩ := HKW0.out _ hw1
      go_wp2_with fail
      refine (HE.out _ hw1).mono ?_
      rintro e w2 ⟨rfl, hb2⟩
      have X2 := hide (X1.out.next hb2)
      clear hb2 g00 g01 g02 g03 g04 g05 g06 q0 q1 q2 q3 q4 q5 q6
      obtain ⟨hw2, -, q0, q1, q2, q3, q4, q5, q6⟩ := X2.out
      obtain ⟨⟨g00, g01, g02, g03, g04, g05, g06⟩, -⟩ := HKW0.out _ hw2
      go_wp2
      all_goals go_ret
      all_goals exact ⟨retB (by simp), hw2⟩
    · by_cases h1 : K0 = 23
      · subst h1
        go_enter Try.func72, Try.ntmps72
        obtain ⟨⟨g00, g01, g02, g03, g04, g05, g06⟩, -⟩ := HKW0.out _ hw0
        go_wp2_with fail
        refine (HB1.out _ hw0).mono ?_
        rintro e w1 ⟨rfl, hb1⟩
        have X1 := hide (X0.out.next hb1)
        clear hb1 g00 g01 g02 g03 g04 g05 g06
        obtain ⟨hw1, -, q0, q1, q2, q3, q4, q5, q6⟩ := X1.out
        obtain ⟨⟨g00, g01, g02, g03, g04, g05, g06⟩, -⟩ := HKW0.out _ hw1
        go_wp2_with fail
        refine (HE.out _ hw1).mono ?_
        rintro e w2 ⟨rfl, hb2⟩
        have X2 := hide (X1.out.next hb2)
        clear hb2 g00 g01 g02 g03 g04 g05 g06 q0 q1 q2 q3 q4 q5 q6
        obtain ⟨hw2, -, q0, q1, q2, q3, q4, q5, q6⟩ := X2.out
        obtain ⟨⟨g00, g01, g02, g03, g04, g05, g06⟩, -⟩ := HKW0.out _ hw2
        go_wp2
        all_goals go_ret
        all_goals exact ⟨retB (by simp), hw2⟩
      · have h1' : (K0 == 23) = false := beq_eq_false_iff_ne.2 h1
        by_cases h2 : O0 = 52
        · subst h2
          go_enter Try.func72, Try.ntmps72
          obtain ⟨⟨g00, g01, g02, g03, g04, g05, g06⟩, -⟩ := HKW0.out _ hw0
          go_wp2_with fail
          refine (HB1.out _ hw0).mono ?_
          rintro e w1 ⟨rfl, hb1⟩
          have X1 := hide (X0.out.next hb1)
          clear hb1 g00 g01 g02 g03 g04 g05 g06
          obtain ⟨hw1, -, q0, q1, q2, q3, q4, q5, q6⟩ := X1.out
          obtain ⟨⟨g00, g01, g02, g03, g04, g05, g06⟩, -⟩ := HKW0.out _ hw1
          go_wp2_with fail
          refine (HE.out _ hw1).mono ?_
          rintro e w2 ⟨rfl, hb2⟩
          have X2 := hide (X1.out.next hb2)
          clear hb2 g00 g01 g02 g03 g04 g05 g06 q0 q1 q2 q3 q4 q5 q6
          obtain ⟨hw2, -, q0, q1, q2, q3, q4, q5, q6⟩ := X2.out
          obtain ⟨⟨g00, g01, g02, g03, g04, g05, g06⟩, -⟩ := HKW0.out _ hw2
          go_wp2
          all_goals go_ret
          all_goals exact ⟨retB (by simp [h1]), hw2⟩
        · have h2' : (O0 == 52) = false := beq_eq_false_iff_ne.2 h2
          have h2'' : (O0 != 52) = true := by simp [h2]
          by_cases h3 : O0 = 53
          · subst h3
            go_enter Try.func72, Try.ntmps72
            obtain ⟨⟨g00, g01, g02, g03, g04, g05, g06⟩, -⟩ := HKW0.out _ hw0
            go_wp2_with fail
            refine (HB1.out _ hw0).mono ?_
            rintro e w1 ⟨rfl, hb1⟩
            have X1 := hide (X0.out.next hb1)
            clear hb1 g00 g01 g02 g03 g04 g05 g06
            obtain ⟨hw1, -, q0, q1, q2, q3, q4, q5, q6⟩ := X1.out
            obtain ⟨⟨g00, g01, g02, g03, g04, g05, g06⟩, -⟩ := HKW0.out _ hw1
            go_wp2_with fail
            refine (HE.out _ hw1).mono ?_
            rintro e w2 ⟨rfl, hb2⟩
            have X2 := hide (X1.out.next hb2)
            clear hb2 g00 g01 g02 g03 g04 g05 g06 q0 q1 q2 q3 q4 q5 q6
            obtain ⟨hw2, -, q0, q1, q2, q3, q4, q5, q6⟩ := X2.out
            obtain ⟨⟨g00, g01, g02, g03, g04, g05, g06⟩, -⟩ := HKW0.out _ hw2
            go_wp2
            all_goals go_ret
            all_goals exact ⟨retB (by simp [h1]), hw2⟩
          · have h3' : (O0 == 53) = false := beq_eq_false_iff_ne.2 h3
            have h3'' : (O0 != 53) = true := by simp [h3]
            go_enter Try.func72, Try.ntmps72
            obtain ⟨⟨g00, g01, g02, g03, g04, g05, g06⟩, -⟩ := HKW0.out _ hw0
            go_wp2_with fail
            refine (HB1.out _ hw0).mono ?_
            rintro e w1 ⟨rfl, hb1⟩
            have X1 := hide (X0.out.next hb1)
            clear hb1 g00 g01 g02 g03 g04 g05 g06
            obtain ⟨hw1, -, q0, q1, q2, q3, q4, q5, q6⟩ := X1.out
            obtain ⟨⟨g00, g01, g02, g03, g04, g05, g06⟩, -⟩ := HKW0.out _ hw1
            go_wp2_with fail
            refine (HE.out _ hw1).mono ?_
            rintro e w2 ⟨rfl, hb2⟩
            have X2 := hide (X1.out.next hb2)
            clear hb2 g00 g01 g02 g03 g04 g05 g06 q0 q1 q2 q3 q4 q5 q6
            obtain ⟨hw2, -, q0, q1, q2, q3, q4, q5, q6⟩ := X2.out
            obtain ⟨⟨g00, g01, g02, g03, g04, g05, g06⟩, -⟩ := HKW0.out _ hw2
            go_wp2
            all_goals go_ret
            all_goals exact ⟨retB (by simp [h1, h2, h3]), hw2⟩
end Go.Proofs.Ytkgpoibnilgaeaa
