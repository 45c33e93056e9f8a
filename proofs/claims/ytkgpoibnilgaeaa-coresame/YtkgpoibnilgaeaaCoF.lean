/-
  The document's look at a node by itself: bare, prim; the program's: parts, isZero, isBare; a node boxed in memory; for all nodes.
-/
import Derived.Test.YtkgpoibnilgaeaaCoC
import Derived.BigQuiet
import Derived.Deep.QuietTactic
namespace Go.Proofs.Ytkgpoibnilgaeaa
open Go.ChangeShapes Go.WideShapes Go.ChangeAt Go.RowKit
set_option linter.unusedVariables false
set_option linter.unusedSimpArgs false
/-- A node that was boxed, in a later world. -/
def Box7 (w : World) (B : Nat) (K O : Int) (S : ByteArray) (s1 s2 sk : Value) (P : Int) (wr : World) : Prop :=
  Below w.heap.size w wr ∧ B < wr.heap.size ∧ wr.cell? ⟨B, 0, none⟩ = some (.int .i64 K) ∧ wr.cell? ⟨B, 1, none⟩ = some (.int .i64 O) ∧ wr.cell? ⟨B, 2, none⟩ = some (.string S) ∧ wr.cell? ⟨B, 3, none⟩ = some s1 ∧ wr.cell? ⟨B, 4, none⟩ = some s2 ∧ wr.cell? ⟨B, 5, none⟩ = some sk ∧ wr.cell? ⟨B, 6, none⟩ = some (.int .i64 P)
theorem box7_new (w : World) (K O : Int) (S : ByteArray) (s1 s2 sk : Value) (P : Int) : Box7 w w.heap.size K O S s1 s2 sk P (w.alloc (.cells #[.int .i64 K, .int .i64 O, .string S, s1, s2, sk, .int .i64 P] 28)) :=
  ⟨one_alloc w _, by simp, cell_new0 w _ 28 0 _ rfl, cell_new0 w _ 28 1 _ rfl, cell_new0 w _ 28 2 _ rfl, cell_new0 w _ 28 3 _ rfl, cell_new0 w _ 28 4 _ rfl, cell_new0 w _ 28 5 _ rfl, cell_new0 w _ 28 6 _ rfl⟩
theorem Box7.next {w : World} {B : Nat} {K O : Int} {S : ByteArray} {s1 s2 sk : Value} {P : Int} {wr w' : World} (h : Box7 w B K O S s1 s2 sk P wr) (hb : Below wr.heap.size wr w') : Box7 w B K O S s1 s2 sk P w' := by
  obtain ⟨h0, hs, q0, q1, q2, q3, q4, q5, q6⟩ := h
  exact ⟨h0.trans (hb.mono h0.size), Nat.lt_of_lt_of_le hs hb.size, (hb.cell (p := ⟨B, 0, none⟩) hs).trans q0, (hb.cell (p := ⟨B, 1, none⟩) hs).trans q1, (hb.cell (p := ⟨B, 2, none⟩) hs).trans q2, (hb.cell (p := ⟨B, 3, none⟩) hs).trans q3, (hb.cell (p := ⟨B, 4, none⟩) hs).trans q4, (hb.cell (p := ⟨B, 5, none⟩) hs).trans q5, (hb.cell (p := ⟨B, 6, none⟩) hs).trans q6⟩
def noN (s : ByteArray) : Bool := s.toList == []
/-- Has a node just so many parts, and of the rest just what may be? -/
def bareL (LK : Nat) (O : Int) (S : ByteArray) (L1 L2 : Nat) (k : Int) (op nm lt : Bool) : Bool :=
  decide ((LK : Int) = k) && (decide (O = 0) || op) && (noN S || nm) && (lt || (decide (L1 = 0) && decide (L2 = 0)))
def primL (K : Int) (LK : Nat) (O : Int) (S : ByteArray) (L1 L2 : Nat) (a b : Int) : Bool := decide (K = 21) && bareL LK O S L1 L2 0 true false false && decide (a ≤ O) && decide (O ≤ b)

set_option maxHeartbeats 4000000 in
theorem bare51 (K O : Int) (S : ByteArray) (a1 : Option Addr) (L1 c1 : Nat) (a2 : Option Addr) (L2 c2 : Nat) (ak : Option Addr) (LK ck : Nat) (P k : Int) (op nm lt : Bool) (w : World) :
    Calls Try.prog 51 #[.agg #[.int .i64 K, .int .i64 O, .string S, .slice a1 L1 c1, .slice a2 L2 c2, .slice ak LK ck, .int .i64 P], .int .i64 k, .bool op, .bool nm, .bool lt] w fun e w' => e = .returned (.bool (bareL LK O S L1 L2 k op nm lt)) ∧ Below w.heap.size w w' := by
  have hb0 := one_alloc w (.cells #[.int .i64 K, .int .i64 O, .string S, .slice a1 L1 c1, .slice a2 L2 c2, .slice ak LK ck, .int .i64 P] 28)
  unfold bareL
  by_cases h1 : (LK : Int) = k
  · have h1' : ((LK : Int) == k) = true := by simp [h1]
    have h1'' : ((LK : Int) != k) = false := by simp [h1]
    by_cases h2 : O = 0
    · subst h2
      cases hn : noN S with
      | false =>
        have hn' : (S.toList == []) = false := hn
        cases nm
        · go_enter Try.func51, Try.ntmps51
          go_wp2
          go_ret
          exact ⟨retB (by simp), hb0⟩
        · cases lt
          · by_cases h4 : (L1 : Int) = 0
            · have h4' : ((L1 : Int) == 0) = true := by simp [h4]
              by_cases h5 : (L2 : Int) = 0
              · have h5' : ((L2 : Int) == 0) = true := by simp [h5]
                go_enter Try.func51, Try.ntmps51
                go_wp2
                go_ret
                exact ⟨retB (by simp [h1, h4, h5]; try omega), hb0⟩
              · have h5' : ((L2 : Int) == 0) = false := beq_eq_false_iff_ne.2 h5
                go_enter Try.func51, Try.ntmps51
                go_wp2
                go_ret
                exact ⟨retB (by simp [h1]; try omega), hb0⟩
            · have h4' : ((L1 : Int) == 0) = false := beq_eq_false_iff_ne.2 h4
              go_enter Try.func51, Try.ntmps51
              go_wp2
              go_ret
              exact ⟨retB (by simp [h1]; try omega), hb0⟩
          · go_enter Try.func51, Try.ntmps51
            go_wp2
            go_ret
            exact ⟨retB (by simp [h1]), hb0⟩
      | true =>
        have hn' : (S.toList == []) = true := hn
        cases lt
        · by_cases h4 : (L1 : Int) = 0
          · have h4' : ((L1 : Int) == 0) = true := by simp [h4]
            by_cases h5 : (L2 : Int) = 0
            · have h5' : ((L2 : Int) == 0) = true := by simp [h5]
              go_enter Try.func51, Try.ntmps51
              go_wp2
              go_ret
              exact ⟨retB (by simp [h1, h4, h5]; try omega), hb0⟩
            · have h5' : ((L2 : Int) == 0) = false := beq_eq_false_iff_ne.2 h5
              go_enter Try.func51, Try.ntmps51
              go_wp2
              go_ret
              exact ⟨retB (by simp [h1]; try omega), hb0⟩
          · have h4' : ((L1 : Int) == 0) = false := beq_eq_false_iff_ne.2 h4
            go_enter Try.func51, Try.ntmps51
            go_wp2
            go_ret
            exact ⟨retB (by simp [h1]; try omega), hb0⟩
        · go_enter Try.func51, Try.ntmps51
          go_wp2
          go_ret
          exact ⟨retB (by simp [h1]), hb0⟩
    · have h2' : (O == 0) = false := beq_eq_false_iff_ne.2 h2
      have h2'' : (O != 0) = true := by simp [h2]
      cases op
      · go_enter Try.func51, Try.ntmps51
        go_wp2
        go_ret
        exact ⟨retB (by simp [h2]), hb0⟩
      · cases hn : noN S with
        | false =>
          have hn' : (S.toList == []) = false := hn
          cases nm
          · go_enter Try.func51, Try.ntmps51
            go_wp2
            go_ret
            exact ⟨retB (by simp), hb0⟩
          · cases lt
            · by_cases h4 : (L1 : Int) = 0
              · have h4' : ((L1 : Int) == 0) = true := by simp [h4]
                by_cases h5 : (L2 : Int) = 0
                · have h5' : ((L2 : Int) == 0) = true := by simp [h5]
                  go_enter Try.func51, Try.ntmps51
                  go_wp2
                  go_ret
                  exact ⟨retB (by simp [h1, h4, h5]; try omega), hb0⟩
                · have h5' : ((L2 : Int) == 0) = false := beq_eq_false_iff_ne.2 h5
                  go_enter Try.func51, Try.ntmps51
                  go_wp2
                  go_ret
                  exact ⟨retB (by simp [h1]; try omega), hb0⟩
              · have h4' : ((L1 : Int) == 0) = false := beq_eq_false_iff_ne.2 h4
                go_enter Try.func51, Try.ntmps51
                go_wp2
                go_ret
                exact ⟨retB (by simp [h1]; try omega), hb0⟩
            · go_enter Try.func51, Try.ntmps51
              go_wp2
              go_ret
              exact ⟨retB (by simp [h1]), hb0⟩
        | true =>
          have hn' : (S.toList == []) = true := hn
          cases lt
          · by_cases h4 : (L1 : Int) = 0
            · have h4' : ((L1 : Int) == 0) = true := by simp [h4]
              by_cases h5 : (L2 : Int) = 0
              · have h5' : ((L2 : Int) == 0) = true := by simp [h5]
                go_enter Try.func51, Try.ntmps51
                go_wp2
                go_ret
                exact ⟨retB (by simp [h1, h4, h5]; try omega), hb0⟩
              · have h5' : ((L2 : Int) == 0) = false := beq_eq_false_iff_ne.2 h5
                go_enter Try.func51, Try.ntmps51
                go_wp2
                go_ret
                exact ⟨retB (by simp [h1]; try omega), hb0⟩
            · have h4' : ((L1 : Int) == 0) = false := beq_eq_false_iff_ne.2 h4
              go_enter Try.func51, Try.ntmps51
              go_wp2
              go_ret
              exact ⟨retB (by simp [h1]; try omega), hb0⟩
          · go_enter Try.func51, Try.ntmps51
            go_wp2
            go_ret
            exact ⟨retB (by simp [h1]), hb0⟩
  · have h1' : ((LK : Int) == k) = false := beq_eq_false_iff_ne.2 h1
    have h1'' : ((LK : Int) != k) = true := by simp [h1]
    go_enter Try.func51, Try.ntmps51
    go_wp2
    go_ret
    exact ⟨retB (by simp [h1]), hb0⟩

set_option maxHeartbeats 2000000 in
theorem prim69 (K O : Int) (S : ByteArray) (a1 : Option Addr) (L1 c1 : Nat) (a2 : Option Addr) (L2 c2 : Nat) (ak : Option Addr) (LK ck : Nat) (P : Int) (a b : Int) (w : World) :
    Calls Try.prog 69 #[.agg #[.int .i64 K, .int .i64 O, .string S, .slice a1 L1 c1, .slice a2 L2 c2, .slice ak LK ck, .int .i64 P], .int .i64 a, .int .i64 b] w fun e w' => e = .returned (.bool (primL K LK O S L1 L2 a b)) ∧ Below w.heap.size w w' := by
  have X0 := box7_new w K O S (.slice a1 L1 c1) (.slice a2 L2 c2) (.slice ak LK ck) P
  have CB := bare51 K O S a1 L1 c1 a2 L2 c2 ak LK ck P 0 true false false
  have HX0 := hide X0
  have HCB := hide CB
  have hb0 := X0.1
  clear X0 CB
  unfold primL
  generalize bareL LK O S L1 L2 0 true false false = BB at *
  by_cases h1 : K = 21
  · subst h1
    cases BB
    · go_enter Try.func69, Try.ntmps69
      go_wp2_with fail
      refine (HCB.out _).mono ?_
      rintro e w1 ⟨rfl, hb1⟩
      clear HCB
      go_wp2
      go_ret
      exact ⟨retB (by simp), hb0.trans (hb1.mono hb0.size)⟩
    · by_cases h2 : a ≤ O
      · have h2' : decide (a ≤ O) = true := by simp [h2]
        by_cases h3 : O ≤ b
        · go_enter Try.func69, Try.ntmps69
          go_wp2_with fail
          refine (HCB.out _).mono ?_
          rintro e w1 ⟨rfl, hb1⟩
          clear HCB
          obtain ⟨-, -, -, q1, -⟩ := HX0.out.next hb1
          go_wp2
          go_ret
          exact ⟨retB (by first | (simp_all; done) | (simp_all; omega)), hb0.trans (hb1.mono hb0.size)⟩
        · have h3' : decide (O ≤ b) = false := by simp; omega
          go_enter Try.func69, Try.ntmps69
          go_wp2_with fail
          refine (HCB.out _).mono ?_
          rintro e w1 ⟨rfl, hb1⟩
          clear HCB
          obtain ⟨-, -, -, q1, -⟩ := HX0.out.next hb1
          go_wp2
          go_ret
          exact ⟨retB (by first | (simp_all; done) | (simp_all; omega)), hb0.trans (hb1.mono hb0.size)⟩
      · have h2' : decide (a ≤ O) = false := by simp; omega
        go_enter Try.func69, Try.ntmps69
        go_wp2_with fail
        refine (HCB.out _).mono ?_
        rintro e w1 ⟨rfl, hb1⟩
        clear HCB
        obtain ⟨-, -, -, q1, -⟩ := HX0.out.next hb1
        go_wp2
        go_ret
        exact ⟨retB (by first | (simp_all; done) | (simp_all; omega)), hb0.trans (hb1.mono hb0.size)⟩
  · have h1' : (K == 21) = false := beq_eq_false_iff_ne.2 h1
    go_enter Try.func69, Try.ntmps69
    go_wp2
    go_ret
    exact ⟨retB (by simp [h1]), hb0⟩

def partsZ (K : Int) : Int := if K = 5 then 2 else if K = 6 then 3 else if K = 22 ∨ K = 23 ∨ K = 31 ∨ K = 32 ∨ K = 33 ∨ K = 34 ∨ K = 35 ∨ K = 25 ∨ K = 26 then 1 else 0
set_option maxHeartbeats 2000000 in
theorem parts63 (K : Int) (w : World) : Calls Try.prog 63 #[.int .i64 K] w fun e w' => e = .returned (.int .i64 (partsZ K)) ∧ w' = w := by
  by_cases h5 : K = 5
  · subst h5
    go_enter Try.func63, Try.ntmps63
    go_wp2
    go_ret
    exact ⟨rfl, rfl⟩
  by_cases h6 : K = 6
  · subst h6
    go_enter Try.func63, Try.ntmps63
    go_wp2
    go_ret
    exact ⟨rfl, rfl⟩
  by_cases h22 : K = 22
  · subst h22
    go_enter Try.func63, Try.ntmps63
    go_wp2
    go_ret
    exact ⟨rfl, rfl⟩
  by_cases h23 : K = 23
  · subst h23
    go_enter Try.func63, Try.ntmps63
    go_wp2
    go_ret
    exact ⟨rfl, rfl⟩
  by_cases h31 : K = 31
  · subst h31
    go_enter Try.func63, Try.ntmps63
    go_wp2
    go_ret
    exact ⟨rfl, rfl⟩
  by_cases h32 : K = 32
  · subst h32
    go_enter Try.func63, Try.ntmps63
    go_wp2
    go_ret
    exact ⟨rfl, rfl⟩
  by_cases h33 : K = 33
  · subst h33
    go_enter Try.func63, Try.ntmps63
    go_wp2
    go_ret
    exact ⟨rfl, rfl⟩
  by_cases h34 : K = 34
  · subst h34
    go_enter Try.func63, Try.ntmps63
    go_wp2
    go_ret
    exact ⟨rfl, rfl⟩
  by_cases h35 : K = 35
  · subst h35
    go_enter Try.func63, Try.ntmps63
    go_wp2
    go_ret
    exact ⟨rfl, rfl⟩
  by_cases h25 : K = 25
  · subst h25
    go_enter Try.func63, Try.ntmps63
    go_wp2
    go_ret
    exact ⟨rfl, rfl⟩
  by_cases h26 : K = 26
  · subst h26
    go_enter Try.func63, Try.ntmps63
    go_wp2
    go_ret
    exact ⟨rfl, rfl⟩
  have k5 : (K == 5) = false := beq_eq_false_iff_ne.2 h5
  have k6 : (K == 6) = false := beq_eq_false_iff_ne.2 h6
  have k22 : (K == 22) = false := beq_eq_false_iff_ne.2 h22
  have k23 : (K == 23) = false := beq_eq_false_iff_ne.2 h23
  have k31 : (K == 31) = false := beq_eq_false_iff_ne.2 h31
  have k32 : (K == 32) = false := beq_eq_false_iff_ne.2 h32
  have k33 : (K == 33) = false := beq_eq_false_iff_ne.2 h33
  have k34 : (K == 34) = false := beq_eq_false_iff_ne.2 h34
  have k35 : (K == 35) = false := beq_eq_false_iff_ne.2 h35
  have k25 : (K == 25) = false := beq_eq_false_iff_ne.2 h25
  have k26 : (K == 26) = false := beq_eq_false_iff_ne.2 h26
  go_enter Try.func63, Try.ntmps63
  go_wp2
  go_ret
  exact ⟨retI (by unfold partsZ; simp [h5, h6, h22, h23, h31, h32, h33, h34, h35, h25, h26]), rfl⟩

set_option maxHeartbeats 1000000 in
theorem zero81 (a1 : Option Addr) (L1 c1 : Nat) (a2 : Option Addr) (L2 c2 : Nat) (w : World) : Calls Try.prog 81 #[.agg #[.slice a1 L1 c1, .slice a2 L2 c2]] w fun e w' => e = .returned (.bool (decide (L1 = 0) && decide (L2 = 0))) ∧ Below w.heap.size w w' := by
  have hb0 := one_alloc w (.cells #[.slice a1 L1 c1, .slice a2 L2 c2] 25)
  by_cases h4 : (L1 : Int) = 0
  · have h4' : ((L1 : Int) == 0) = true := by simp [h4]
    by_cases h5 : (L2 : Int) = 0
    · have h5' : ((L2 : Int) == 0) = true := by simp [h5]
      go_enter Try.func81, Try.ntmps81
      go_wp2
      go_ret
      exact ⟨retB (by simp [h4, h5]; try omega), hb0⟩
    · have h5' : ((L2 : Int) == 0) = false := beq_eq_false_iff_ne.2 h5
      go_enter Try.func81, Try.ntmps81
      go_wp2
      go_ret
      exact ⟨retB (by simp; try omega), hb0⟩
  · have h4' : ((L1 : Int) == 0) = false := beq_eq_false_iff_ne.2 h4
    go_enter Try.func81, Try.ntmps81
    go_wp2
    go_ret
    exact ⟨retB (by simp; try omega), hb0⟩

/-- Has a node no number, name or literal that its kind does not name? -/
def nakedL (K O : Int) (S : ByteArray) (L1 L2 : Nat) : Bool := (decide (O = 0) || decide (K = 21) || decide (K = 26)) && (noN S || decide (K = 2)) && ((decide (L1 = 0) && decide (L2 = 0)) || decide (K = 1))
set_option maxHeartbeats 4000000 in
theorem naked64 (K O : Int) (S : ByteArray) (a1 : Option Addr) (L1 c1 : Nat) (a2 : Option Addr) (L2 c2 : Nat) (ak : Option Addr) (LK ck : Nat) (P : Int) (w : World) : Calls Try.prog 64 #[.agg #[.int .i64 K, .int .i64 O, .string S, .slice a1 L1 c1, .slice a2 L2 c2, .slice ak LK ck, .int .i64 P]] w fun e w' => e = .returned (.bool (nakedL K O S L1 L2)) ∧ Below w.heap.size w w' := by
  have X0 := box7_new w K O S (.slice a1 L1 c1) (.slice a2 L2 c2) (.slice ak LK ck) P
  have CB := zero81 a1 L1 c1 a2 L2 c2
  have HX0 := hide X0
  have HCB := hide CB
  have hb0 := X0.1
  clear X0 CB
  unfold nakedL
  generalize (decide (L1 = 0) && decide (L2 = 0)) = ZZ at *
  have kk : K = 1 ∨ K = 2 ∨ K = 21 ∨ K = 26 ∨ (¬ K = 1 ∧ ¬ K = 2 ∧ ¬ K = 21 ∧ ¬ K = 26) := by omega
  rcases kk with rfl | rfl | rfl | rfl | ⟨k1, k2, k3, k4⟩
  · by_cases h1 : O = 0
    · subst h1
      cases hn : noN S with
      | true =>
        have hn' : (S.toList == []) = true := hn
        cases ZZ
        · go_enter Try.func64, Try.ntmps64
          first
          | (go_wp2_with fail
             refine (HCB.out _).mono ?_
             rintro e w1 ⟨rfl, hb1⟩
             clear HCB
             obtain ⟨-, -, q0, -⟩ := HX0.out.next hb1
             go_wp2
             go_ret
             exact ⟨retB (by simp_all), hb0.trans (hb1.mono hb0.size)⟩)
          | (go_wp2
             go_ret
             exact ⟨retB (by simp_all), hb0⟩)
        · go_enter Try.func64, Try.ntmps64
          first
          | (go_wp2_with fail
             refine (HCB.out _).mono ?_
             rintro e w1 ⟨rfl, hb1⟩
             clear HCB
             obtain ⟨-, -, q0, -⟩ := HX0.out.next hb1
             go_wp2
             go_ret
             exact ⟨retB (by simp_all), hb0.trans (hb1.mono hb0.size)⟩)
          | (go_wp2
             go_ret
             exact ⟨retB (by simp_all), hb0⟩)
      | false =>
        have hn' : (S.toList == []) = false := hn
        cases ZZ
        · go_enter Try.func64, Try.ntmps64
          first
          | (go_wp2_with fail
             refine (HCB.out _).mono ?_
             rintro e w1 ⟨rfl, hb1⟩
             clear HCB
             obtain ⟨-, -, q0, -⟩ := HX0.out.next hb1
             go_wp2
             go_ret
             exact ⟨retB (by simp_all), hb0.trans (hb1.mono hb0.size)⟩)
          | (go_wp2
             go_ret
             exact ⟨retB (by simp_all), hb0⟩)
        · go_enter Try.func64, Try.ntmps64
          first
          | (go_wp2_with fail
             refine (HCB.out _).mono ?_
             rintro e w1 ⟨rfl, hb1⟩
             clear HCB
             obtain ⟨-, -, q0, -⟩ := HX0.out.next hb1
             go_wp2
             go_ret
             exact ⟨retB (by simp_all), hb0.trans (hb1.mono hb0.size)⟩)
          | (go_wp2
             go_ret
             exact ⟨retB (by simp_all), hb0⟩)
    · have h1' : (O == 0) = false := beq_eq_false_iff_ne.2 h1
      cases hn : noN S with
      | true =>
        have hn' : (S.toList == []) = true := hn
        cases ZZ
        · go_enter Try.func64, Try.ntmps64
          first
          | (go_wp2_with fail
             refine (HCB.out _).mono ?_
             rintro e w1 ⟨rfl, hb1⟩
             clear HCB
             obtain ⟨-, -, q0, -⟩ := HX0.out.next hb1
             go_wp2
             go_ret
             exact ⟨retB (by simp_all), hb0.trans (hb1.mono hb0.size)⟩)
          | (go_wp2
             go_ret
             exact ⟨retB (by simp_all), hb0⟩)
        · go_enter Try.func64, Try.ntmps64
          first
          | (go_wp2_with fail
             refine (HCB.out _).mono ?_
             rintro e w1 ⟨rfl, hb1⟩
             clear HCB
             obtain ⟨-, -, q0, -⟩ := HX0.out.next hb1
             go_wp2
             go_ret
             exact ⟨retB (by simp_all), hb0.trans (hb1.mono hb0.size)⟩)
          | (go_wp2
             go_ret
             exact ⟨retB (by simp_all), hb0⟩)
      | false =>
        have hn' : (S.toList == []) = false := hn
        cases ZZ
        · go_enter Try.func64, Try.ntmps64
          first
          | (go_wp2_with fail
             refine (HCB.out _).mono ?_
             rintro e w1 ⟨rfl, hb1⟩
             clear HCB
             obtain ⟨-, -, q0, -⟩ := HX0.out.next hb1
             go_wp2
             go_ret
             exact ⟨retB (by simp_all), hb0.trans (hb1.mono hb0.size)⟩)
          | (go_wp2
             go_ret
             exact ⟨retB (by simp_all), hb0⟩)
        · go_enter Try.func64, Try.ntmps64
          first
          | (go_wp2_with fail
             refine (HCB.out _).mono ?_
             rintro e w1 ⟨rfl, hb1⟩
             clear HCB
             obtain ⟨-, -, q0, -⟩ := HX0.out.next hb1
             go_wp2
             go_ret
             exact ⟨retB (by simp_all), hb0.trans (hb1.mono hb0.size)⟩)
          | (go_wp2
             go_ret
             exact ⟨retB (by simp_all), hb0⟩)
  · by_cases h1 : O = 0
    · subst h1
      cases hn : noN S with
      | true =>
        have hn' : (S.toList == []) = true := hn
        cases ZZ
        · go_enter Try.func64, Try.ntmps64
          first
          | (go_wp2_with fail
             refine (HCB.out _).mono ?_
             rintro e w1 ⟨rfl, hb1⟩
             clear HCB
             obtain ⟨-, -, q0, -⟩ := HX0.out.next hb1
             go_wp2
             go_ret
             exact ⟨retB (by simp_all), hb0.trans (hb1.mono hb0.size)⟩)
          | (go_wp2
             go_ret
             exact ⟨retB (by simp_all), hb0⟩)
        · go_enter Try.func64, Try.ntmps64
          first
          | (go_wp2_with fail
             refine (HCB.out _).mono ?_
             rintro e w1 ⟨rfl, hb1⟩
             clear HCB
             obtain ⟨-, -, q0, -⟩ := HX0.out.next hb1
             go_wp2
             go_ret
             exact ⟨retB (by simp_all), hb0.trans (hb1.mono hb0.size)⟩)
          | (go_wp2
             go_ret
             exact ⟨retB (by simp_all), hb0⟩)
      | false =>
        have hn' : (S.toList == []) = false := hn
        cases ZZ
        · go_enter Try.func64, Try.ntmps64
          first
          | (go_wp2_with fail
             refine (HCB.out _).mono ?_
             rintro e w1 ⟨rfl, hb1⟩
             clear HCB
             obtain ⟨-, -, q0, -⟩ := HX0.out.next hb1
             go_wp2
             go_ret
             exact ⟨retB (by simp_all), hb0.trans (hb1.mono hb0.size)⟩)
          | (go_wp2
             go_ret
             exact ⟨retB (by simp_all), hb0⟩)
        · go_enter Try.func64, Try.ntmps64
          first
          | (go_wp2_with fail
             refine (HCB.out _).mono ?_
             rintro e w1 ⟨rfl, hb1⟩
             clear HCB
             obtain ⟨-, -, q0, -⟩ := HX0.out.next hb1
             go_wp2
             go_ret
             exact ⟨retB (by simp_all), hb0.trans (hb1.mono hb0.size)⟩)
          | (go_wp2
             go_ret
             exact ⟨retB (by simp_all), hb0⟩)
    · have h1' : (O == 0) = false := beq_eq_false_iff_ne.2 h1
      cases hn : noN S with
      | true =>
        have hn' : (S.toList == []) = true := hn
        cases ZZ
        · go_enter Try.func64, Try.ntmps64
          first
          | (go_wp2_with fail
             refine (HCB.out _).mono ?_
             rintro e w1 ⟨rfl, hb1⟩
             clear HCB
             obtain ⟨-, -, q0, -⟩ := HX0.out.next hb1
             go_wp2
             go_ret
             exact ⟨retB (by simp_all), hb0.trans (hb1.mono hb0.size)⟩)
          | (go_wp2
             go_ret
             exact ⟨retB (by simp_all), hb0⟩)
        · go_enter Try.func64, Try.ntmps64
          first
          | (go_wp2_with fail
             refine (HCB.out _).mono ?_
             rintro e w1 ⟨rfl, hb1⟩
             clear HCB
             obtain ⟨-, -, q0, -⟩ := HX0.out.next hb1
             go_wp2
             go_ret
             exact ⟨retB (by simp_all), hb0.trans (hb1.mono hb0.size)⟩)
          | (go_wp2
             go_ret
             exact ⟨retB (by simp_all), hb0⟩)
      | false =>
        have hn' : (S.toList == []) = false := hn
        cases ZZ
        · go_enter Try.func64, Try.ntmps64
          first
          | (go_wp2_with fail
             refine (HCB.out _).mono ?_
             rintro e w1 ⟨rfl, hb1⟩
             clear HCB
             obtain ⟨-, -, q0, -⟩ := HX0.out.next hb1
             go_wp2
             go_ret
             exact ⟨retB (by simp_all), hb0.trans (hb1.mono hb0.size)⟩)
          | (go_wp2
             go_ret
             exact ⟨retB (by simp_all), hb0⟩)
        · go_enter Try.func64, Try.ntmps64
          first
          | (go_wp2_with fail
             refine (HCB.out _).mono ?_
             rintro e w1 ⟨rfl, hb1⟩
             clear HCB
             obtain ⟨-, -, q0, -⟩ := HX0.out.next hb1
             go_wp2
             go_ret
             exact ⟨retB (by simp_all), hb0.trans (hb1.mono hb0.size)⟩)
          | (go_wp2
             go_ret
             exact ⟨retB (by simp_all), hb0⟩)
  · by_cases h1 : O = 0
    · subst h1
      cases hn : noN S with
      | true =>
        have hn' : (S.toList == []) = true := hn
        cases ZZ
        · go_enter Try.func64, Try.ntmps64
          first
          | (go_wp2_with fail
             refine (HCB.out _).mono ?_
             rintro e w1 ⟨rfl, hb1⟩
             clear HCB
             obtain ⟨-, -, q0, -⟩ := HX0.out.next hb1
             go_wp2
             go_ret
             exact ⟨retB (by simp_all), hb0.trans (hb1.mono hb0.size)⟩)
          | (go_wp2
             go_ret
             exact ⟨retB (by simp_all), hb0⟩)
        · go_enter Try.func64, Try.ntmps64
          first
          | (go_wp2_with fail
             refine (HCB.out _).mono ?_
             rintro e w1 ⟨rfl, hb1⟩
             clear HCB
             obtain ⟨-, -, q0, -⟩ := HX0.out.next hb1
             go_wp2
             go_ret
             exact ⟨retB (by simp_all), hb0.trans (hb1.mono hb0.size)⟩)
          | (go_wp2
             go_ret
             exact ⟨retB (by simp_all), hb0⟩)
      | false =>
        have hn' : (S.toList == []) = false := hn
        cases ZZ
        · go_enter Try.func64, Try.ntmps64
          first
          | (go_wp2_with fail
             refine (HCB.out _).mono ?_
             rintro e w1 ⟨rfl, hb1⟩
             clear HCB
             obtain ⟨-, -, q0, -⟩ := HX0.out.next hb1
             go_wp2
             go_ret
             exact ⟨retB (by simp_all), hb0.trans (hb1.mono hb0.size)⟩)
          | (go_wp2
             go_ret
             exact ⟨retB (by simp_all), hb0⟩)
        · go_enter Try.func64, Try.ntmps64
          first
          | (go_wp2_with fail
             refine (HCB.out _).mono ?_
             rintro e w1 ⟨rfl, hb1⟩
             clear HCB
             obtain ⟨-, -, q0, -⟩ := HX0.out.next hb1
             go_wp2
             go_ret
             exact ⟨retB (by simp_all), hb0.trans (hb1.mono hb0.size)⟩)
          | (go_wp2
             go_ret
             exact ⟨retB (by simp_all), hb0⟩)
    · have h1' : (O == 0) = false := beq_eq_false_iff_ne.2 h1
      cases hn : noN S with
      | true =>
        have hn' : (S.toList == []) = true := hn
        cases ZZ
        · go_enter Try.func64, Try.ntmps64
          first
          | (go_wp2_with fail
             refine (HCB.out _).mono ?_
             rintro e w1 ⟨rfl, hb1⟩
             clear HCB
             obtain ⟨-, -, q0, -⟩ := HX0.out.next hb1
             go_wp2
             go_ret
             exact ⟨retB (by simp_all), hb0.trans (hb1.mono hb0.size)⟩)
          | (go_wp2
             go_ret
             exact ⟨retB (by simp_all), hb0⟩)
        · go_enter Try.func64, Try.ntmps64
          first
          | (go_wp2_with fail
             refine (HCB.out _).mono ?_
             rintro e w1 ⟨rfl, hb1⟩
             clear HCB
             obtain ⟨-, -, q0, -⟩ := HX0.out.next hb1
             go_wp2
             go_ret
             exact ⟨retB (by simp_all), hb0.trans (hb1.mono hb0.size)⟩)
          | (go_wp2
             go_ret
             exact ⟨retB (by simp_all), hb0⟩)
      | false =>
        have hn' : (S.toList == []) = false := hn
        cases ZZ
        · go_enter Try.func64, Try.ntmps64
          first
          | (go_wp2_with fail
             refine (HCB.out _).mono ?_
             rintro e w1 ⟨rfl, hb1⟩
             clear HCB
             obtain ⟨-, -, q0, -⟩ := HX0.out.next hb1
             go_wp2
             go_ret
             exact ⟨retB (by simp_all), hb0.trans (hb1.mono hb0.size)⟩)
          | (go_wp2
             go_ret
             exact ⟨retB (by simp_all), hb0⟩)
        · go_enter Try.func64, Try.ntmps64
          first
          | (go_wp2_with fail
             refine (HCB.out _).mono ?_
             rintro e w1 ⟨rfl, hb1⟩
             clear HCB
             obtain ⟨-, -, q0, -⟩ := HX0.out.next hb1
             go_wp2
             go_ret
             exact ⟨retB (by simp_all), hb0.trans (hb1.mono hb0.size)⟩)
          | (go_wp2
             go_ret
             exact ⟨retB (by simp_all), hb0⟩)
  · by_cases h1 : O = 0
    · subst h1
      cases hn : noN S with
      | true =>
        have hn' : (S.toList == []) = true := hn
        cases ZZ
        · go_enter Try.func64, Try.ntmps64
          first
          | (go_wp2_with fail
             refine (HCB.out _).mono ?_
             rintro e w1 ⟨rfl, hb1⟩
             clear HCB
             obtain ⟨-, -, q0, -⟩ := HX0.out.next hb1
             go_wp2
             go_ret
             exact ⟨retB (by simp_all), hb0.trans (hb1.mono hb0.size)⟩)
          | (go_wp2
             go_ret
             exact ⟨retB (by simp_all), hb0⟩)
        · go_enter Try.func64, Try.ntmps64
          first
          | (go_wp2_with fail
             refine (HCB.out _).mono ?_
             rintro e w1 ⟨rfl, hb1⟩
             clear HCB
             obtain ⟨-, -, q0, -⟩ := HX0.out.next hb1
             go_wp2
             go_ret
             exact ⟨retB (by simp_all), hb0.trans (hb1.mono hb0.size)⟩)
          | (go_wp2
             go_ret
             exact ⟨retB (by simp_all), hb0⟩)
      | false =>
        have hn' : (S.toList == []) = false := hn
        cases ZZ
        · go_enter Try.func64, Try.ntmps64
          first
          | (go_wp2_with fail
             refine (HCB.out _).mono ?_
             rintro e w1 ⟨rfl, hb1⟩
             clear HCB
             obtain ⟨-, -, q0, -⟩ := HX0.out.next hb1
             go_wp2
             go_ret
             exact ⟨retB (by simp_all), hb0.trans (hb1.mono hb0.size)⟩)
          | (go_wp2
             go_ret
             exact ⟨retB (by simp_all), hb0⟩)
        · go_enter Try.func64, Try.ntmps64
          first
          | (go_wp2_with fail
             refine (HCB.out _).mono ?_
             rintro e w1 ⟨rfl, hb1⟩
             clear HCB
             obtain ⟨-, -, q0, -⟩ := HX0.out.next hb1
             go_wp2
             go_ret
             exact ⟨retB (by simp_all), hb0.trans (hb1.mono hb0.size)⟩)
          | (go_wp2
             go_ret
             exact ⟨retB (by simp_all), hb0⟩)
    · have h1' : (O == 0) = false := beq_eq_false_iff_ne.2 h1
      cases hn : noN S with
      | true =>
        have hn' : (S.toList == []) = true := hn
        cases ZZ
        · go_enter Try.func64, Try.ntmps64
          first
          | (go_wp2_with fail
             refine (HCB.out _).mono ?_
             rintro e w1 ⟨rfl, hb1⟩
             clear HCB
             obtain ⟨-, -, q0, -⟩ := HX0.out.next hb1
             go_wp2
             go_ret
             exact ⟨retB (by simp_all), hb0.trans (hb1.mono hb0.size)⟩)
          | (go_wp2
             go_ret
             exact ⟨retB (by simp_all), hb0⟩)
        · go_enter Try.func64, Try.ntmps64
          first
          | (go_wp2_with fail
             refine (HCB.out _).mono ?_
             rintro e w1 ⟨rfl, hb1⟩
             clear HCB
             obtain ⟨-, -, q0, -⟩ := HX0.out.next hb1
             go_wp2
             go_ret
             exact ⟨retB (by simp_all), hb0.trans (hb1.mono hb0.size)⟩)
          | (go_wp2
             go_ret
             exact ⟨retB (by simp_all), hb0⟩)
      | false =>
        have hn' : (S.toList == []) = false := hn
        cases ZZ
        · go_enter Try.func64, Try.ntmps64
          first
          | (go_wp2_with fail
             refine (HCB.out _).mono ?_
             rintro e w1 ⟨rfl, hb1⟩
             clear HCB
             obtain ⟨-, -, q0, -⟩ := HX0.out.next hb1
             go_wp2
             go_ret
             exact ⟨retB (by simp_all), hb0.trans (hb1.mono hb0.size)⟩)
          | (go_wp2
             go_ret
             exact ⟨retB (by simp_all), hb0⟩)
        · go_enter Try.func64, Try.ntmps64
          first
          | (go_wp2_with fail
             refine (HCB.out _).mono ?_
             rintro e w1 ⟨rfl, hb1⟩
             clear HCB
             obtain ⟨-, -, q0, -⟩ := HX0.out.next hb1
             go_wp2
             go_ret
             exact ⟨retB (by simp_all), hb0.trans (hb1.mono hb0.size)⟩)
          | (go_wp2
             go_ret
             exact ⟨retB (by simp_all), hb0⟩)
  · have k1' : (K == 1) = false := beq_eq_false_iff_ne.2 k1
    have k2' : (K == 2) = false := beq_eq_false_iff_ne.2 k2
    have k3' : (K == 21) = false := beq_eq_false_iff_ne.2 k3
    have k4' : (K == 26) = false := beq_eq_false_iff_ne.2 k4
    by_cases h1 : O = 0
    · subst h1
      cases hn : noN S with
      | true =>
        have hn' : (S.toList == []) = true := hn
        cases ZZ
        · go_enter Try.func64, Try.ntmps64
          first
          | (go_wp2_with fail
             refine (HCB.out _).mono ?_
             rintro e w1 ⟨rfl, hb1⟩
             clear HCB
             obtain ⟨-, -, q0, -⟩ := HX0.out.next hb1
             go_wp2
             go_ret
             exact ⟨retB (by simp_all), hb0.trans (hb1.mono hb0.size)⟩)
          | (go_wp2
             go_ret
             exact ⟨retB (by simp_all), hb0⟩)
        · go_enter Try.func64, Try.ntmps64
          first
          | (go_wp2_with fail
             refine (HCB.out _).mono ?_
             rintro e w1 ⟨rfl, hb1⟩
             clear HCB
             obtain ⟨-, -, q0, -⟩ := HX0.out.next hb1
             go_wp2
             go_ret
             exact ⟨retB (by simp_all), hb0.trans (hb1.mono hb0.size)⟩)
          | (go_wp2
             go_ret
             exact ⟨retB (by simp_all), hb0⟩)
      | false =>
        have hn' : (S.toList == []) = false := hn
        cases ZZ
        · go_enter Try.func64, Try.ntmps64
          first
          | (go_wp2_with fail
             refine (HCB.out _).mono ?_
             rintro e w1 ⟨rfl, hb1⟩
             clear HCB
             obtain ⟨-, -, q0, -⟩ := HX0.out.next hb1
             go_wp2
             go_ret
             exact ⟨retB (by simp_all), hb0.trans (hb1.mono hb0.size)⟩)
          | (go_wp2
             go_ret
             exact ⟨retB (by simp_all), hb0⟩)
        · go_enter Try.func64, Try.ntmps64
          first
          | (go_wp2_with fail
             refine (HCB.out _).mono ?_
             rintro e w1 ⟨rfl, hb1⟩
             clear HCB
             obtain ⟨-, -, q0, -⟩ := HX0.out.next hb1
             go_wp2
             go_ret
             exact ⟨retB (by simp_all), hb0.trans (hb1.mono hb0.size)⟩)
          | (go_wp2
             go_ret
             exact ⟨retB (by simp_all), hb0⟩)
    · have h1' : (O == 0) = false := beq_eq_false_iff_ne.2 h1
      cases hn : noN S with
      | true =>
        have hn' : (S.toList == []) = true := hn
        cases ZZ
        · go_enter Try.func64, Try.ntmps64
          first
          | (go_wp2_with fail
             refine (HCB.out _).mono ?_
             rintro e w1 ⟨rfl, hb1⟩
             clear HCB
             obtain ⟨-, -, q0, -⟩ := HX0.out.next hb1
             go_wp2
             go_ret
             exact ⟨retB (by simp_all), hb0.trans (hb1.mono hb0.size)⟩)
          | (go_wp2
             go_ret
             exact ⟨retB (by simp_all), hb0⟩)
        · go_enter Try.func64, Try.ntmps64
          first
          | (go_wp2_with fail
             refine (HCB.out _).mono ?_
             rintro e w1 ⟨rfl, hb1⟩
             clear HCB
             obtain ⟨-, -, q0, -⟩ := HX0.out.next hb1
             go_wp2
             go_ret
             exact ⟨retB (by simp_all), hb0.trans (hb1.mono hb0.size)⟩)
          | (go_wp2
             go_ret
             exact ⟨retB (by simp_all), hb0⟩)
      | false =>
        have hn' : (S.toList == []) = false := hn
        cases ZZ
        · go_enter Try.func64, Try.ntmps64
          first
          | (go_wp2_with fail
             refine (HCB.out _).mono ?_
             rintro e w1 ⟨rfl, hb1⟩
             clear HCB
             obtain ⟨-, -, q0, -⟩ := HX0.out.next hb1
             go_wp2
             go_ret
             exact ⟨retB (by simp_all), hb0.trans (hb1.mono hb0.size)⟩)
          | (go_wp2
             go_ret
             exact ⟨retB (by simp_all), hb0⟩)
        · go_enter Try.func64, Try.ntmps64
          first
          | (go_wp2_with fail
             refine (HCB.out _).mono ?_
             rintro e w1 ⟨rfl, hb1⟩
             clear HCB
             obtain ⟨-, -, q0, -⟩ := HX0.out.next hb1
             go_wp2
             go_ret
             exact ⟨retB (by simp_all), hb0.trans (hb1.mono hb0.size)⟩)
          | (go_wp2
             go_ret
             exact ⟨retB (by simp_all), hb0⟩)
end Go.Proofs.Ytkgpoibnilgaeaa
