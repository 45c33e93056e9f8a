/-
  Whether two programs are the same, by both; for all programs.
-/
import Derived.Test.YtkgpoibnilgaeaaCoF
import Derived.Deep.LoopGhost
import Derived.Deep.RegionHeld3
import Derived.Deep.Cut
import Derived.Deep.CutRange
namespace Go.Proofs.Ytkgpoibnilgaeaa
open Go.ChangeShapes Go.WideShapes Go.ChangeAt Go.RowKit
set_option linter.unusedVariables false
set_option linter.unusedSimpArgs false
/-- Are two programs the same, as far as so many boxes are gone into? -/
def sameN (n : Nat) : Nat → Nd → Nd → Bool
  | 0, _, _ => false
  | m + 1, x, y => decide (x.kind = y.kind) && decide (x.op = y.op) && (x.name.toList == y.name.toList) && decide (cmpA n x.lit y.lit = 0) && (decide (x.kids.length = y.kids.length) && !anyUp (fun i => !sameN n m (nAt x.kids i) (nAt y.kids i)) x.kids.length)
def SameC (k m : Nat) : Prop := ∀ n x y lo lo' va vb w, NdIn m n lo w x va → NdIn m n lo' w y vb → Calls Try.prog k #[va, vb] w fun e w' => e = .returned (.bool (sameN n m x y)) ∧ Below w.heap.size w w'

set_option maxHeartbeats 4000000 in
theorem eq45 (m : Nat) (IH : SameC 21 m) (n : Nat) (ks ls : List Nd) (lo lo' : Nat) (a b : Option Addr) (ca cb : Nat) (w : World) (h1 : KidsIn m n lo w ks a) (h2 : KidsIn m n lo' w ls b) (hl1 : ks.length ≤ 1256584717421) (hl2 : ls.length ≤ 1256584717421) :
    Calls Try.prog 45 #[.slice a ks.length ca, .slice b ls.length cb, .func (.func 21) #[] #[]] w fun e w' => e = .returned (.bool (decide (ks.length = ls.length) && !anyUp (fun i => !sameN n m (nAt ks i) (nAt ls i)) ks.length)) ∧ Below w.heap.size w w' := by
  by_cases hlen : ks.length = ls.length
  · rw [decide_eq_true hlen, Bool.true_and]
    have HKS : Hid (∀ j, j < ks.length → ∃ b1 off K O S A1 L1 C1 A2 L2 C2 AK LK CK P b2 off' K' O' S' A1' L1' C1' A2' L2' C2' AK' LK' CK' P', a = some ⟨b1, off, none⟩ ∧ b = some ⟨b2, off', none⟩ ∧ ∀ wr, Below w.heap.size w wr → (wr.cell? ⟨b1, off + j * 7, none⟩ = some (.int .i64 K) ∧ wr.cell? ⟨b1, off + j * 7 + 1, none⟩ = some (.int .i64 O) ∧ wr.cell? ⟨b1, off + j * 7 + 2, none⟩ = some (.string S) ∧ wr.cell? ⟨b1, off + j * 7 + 3, none⟩ = some (.slice A1 L1 C1) ∧ wr.cell? ⟨b1, off + j * 7 + 4, none⟩ = some (.slice A2 L2 C2) ∧ wr.cell? ⟨b1, off + j * 7 + 5, none⟩ = some (.slice AK LK CK) ∧ wr.cell? ⟨b1, off + j * 7 + 6, none⟩ = some (.int .i64 P)) ∧
        (wr.cell? ⟨b2, off' + j * 7, none⟩ = some (.int .i64 K') ∧ wr.cell? ⟨b2, off' + j * 7 + 1, none⟩ = some (.int .i64 O') ∧ wr.cell? ⟨b2, off' + j * 7 + 2, none⟩ = some (.string S') ∧ wr.cell? ⟨b2, off' + j * 7 + 3, none⟩ = some (.slice A1' L1' C1') ∧ wr.cell? ⟨b2, off' + j * 7 + 4, none⟩ = some (.slice A2' L2' C2') ∧ wr.cell? ⟨b2, off' + j * 7 + 5, none⟩ = some (.slice AK' LK' CK') ∧ wr.cell? ⟨b2, off' + j * 7 + 6, none⟩ = some (.int .i64 P')) ∧
        Calls Try.prog 21 #[.agg #[.int .i64 K, .int .i64 O, .string S, .slice A1 L1 C1, .slice A2 L2 C2, .slice AK LK CK, .int .i64 P], .agg #[.int .i64 K', .int .i64 O', .string S', .slice A1' L1' C1', .slice A2' L2' C2', .slice AK' LK' CK', .int .i64 P']] wr fun e w' => e = .returned (.bool (sameN n m (nAt ks j) (nAt ls j))) ∧ Below wr.heap.size wr w') := by
      intro j hj
      obtain ⟨b1, off, K, O, S, A1, L1, C1, A2, L2, C2, AK, LK, CK, P, ha, -, hw⟩ := kid_cells h1 hj
      obtain ⟨b2, off', K', O', S', A1', L1', C1', A2', L2', C2', AK', LK', CK', P', hb, -, hw'⟩ := kid_cells h2 (j := j) (by omega)
      exact ⟨b1, off, K, O, S, A1, L1, C1, A2, L2, C2, AK, LK, CK, P, b2, off', K', O', S', A1', L1', C1', A2', L2', C2', AK', LK', CK', P', ha, hb, fun wr hwr => ⟨(hw wr hwr).1, (hw' wr hwr).1, IH n _ _ lo lo' _ _ wr (hw wr hwr).2 (hw' wr hwr).2⟩⟩
    clear h1 h2 IH
    rw [← hlen]
    have HHIT : Hid (∀ j, j < ks.length → sameN n m (nAt ks j) (nAt ls j) = false → (!anyUp (fun i => !sameN n m (nAt ks i) (nAt ls i)) ks.length) = false) := fun j hj h => by
      rw [anyUp_hit hj (by simp [h])]
      rfl
    have HNO : Hid ((∀ j, j < ks.length → sameN n m (nAt ks j) (nAt ls j) = true) → (!anyUp (fun i => !sameN n m (nAt ks i) (nAt ls i)) ks.length) = true) := fun h => by
      rw [anyUp_none.2 fun i hi => by simp [h i hi]]
      rfl
    generalize (!anyUp (fun i => !sameN n m (nAt ks i) (nAt ls i)) ks.length) = Z at *
    generalize hF : (fun i => sameN n m (nAt ks i) (nAt ls i)) = F at *
    have HF : Hid (∀ j, sameN n m (nAt ks j) (nAt ls j) = F j) := fun j => by rw [← hF]
    clear hF hlen hl2
    generalize ks.length = L at *
    go_enter Try.func45, Try.ntmps45
    go_wp2
    go_loopg [17] L (fun g i wr => ∃ (j : Nat), g + j = L ∧ i = .int .i64 (j : Int) ∧ (∀ i, i < j → F i = true) ∧ Below w.heap.size w wr)
    case atStart => exact ⟨0, rfl, rfl, (by intro i hi; omega), Below.refl _ _⟩
    case round =>
      obtain ⟨j, hj, rfl, hno, hnx⟩ := hrel
      have HN := hide hno
      clear hno
      by_cases hlt : j < L
      · obtain ⟨b1, off, K, O, S, A1, L1, C1, A2, L2, C2, AK, LK, CK, P, b2, off', K', O', S', A1', L1', C1', A2', L2', C2', AK', LK', CK', P', rfl, rfl, hw⟩ := HKS.out j hlt
        obtain ⟨⟨g0, g1, g2, g3, g4, g5, g6⟩, ⟨f0, f1, f2, f3, f4, f5, f6⟩, -⟩ := hw wr hnx
        have hb1 : Below w.heap.size w (wr.alloc (.cells #[.int .i64 K, .int .i64 O, .string S, .slice A1 L1 C1, .slice A2 L2 C2, .slice AK LK CK, .int .i64 P] 28)) := hnx.alloc hnx.size _
        obtain ⟨-, ⟨e0, e1, e2, e3, e4, e5, e6⟩, -⟩ := hw _ hb1
        have hb2 : Below w.heap.size w ((wr.alloc (.cells #[.int .i64 K, .int .i64 O, .string S, .slice A1 L1 C1, .slice A2 L2 C2, .slice AK LK CK, .int .i64 P] 28)).alloc (.cells #[.int .i64 K', .int .i64 O', .string S', .slice A1' L1' C1', .slice A2' L2' C2', .slice AK' LK' CK', .int .i64 P'] 28)) := hb1.alloc hb1.size _
        obtain ⟨-, -, C⟩ := hw _ hb2
        rw [HF.out j] at C
        have HB2 := hide hb2
        have HC := hide C
        have HH := hide (HHIT.out j hlt)
        rw [HF.out j] at HH
        clear C hw HKS HHIT HNO HF hb1 hb2
        cases hFJ : F j with
        | true =>
          rw [hFJ] at HC
          have HFJ := hide hFJ
          clear hFJ HH
          go_wp2_with fail
          refine HC.out.mono ?_
          rintro e w1 ⟨rfl, hb1⟩
          clear HC
          go_wp2
          go_roundg (L - (j + 1))
          case rel =>
            refine ⟨j + 1, by omega, by go_num, fun i hi => ?_, HB2.out.trans (hb1.mono HB2.out.size)⟩
            rcases Nat.lt_succ_iff_lt_or_eq.1 hi with hi | rfl
            · exact HN.out i hi
            · exact HFJ.out
          case measure => omega
        | false =>
          rw [hFJ] at HC
          have HZ := hide (HH.out hFJ)
          clear hFJ HH HN
          go_wp2_with fail
          refine HC.out.mono ?_
          rintro e w1 ⟨rfl, hb1⟩
          clear HC
          go_wp2
          go_ret
          exact ⟨retB HZ.out.symm, HB2.out.trans (hb1.mono HB2.out.size)⟩
      · have hje : j = L := by omega
        subst hje
        have HZ := hide (HNO.out fun i hi => by rw [HF.out i]; exact HN.out i hi)
        clear HKS HHIT HNO HN HF
        go_wp2
        go_ret
        exact ⟨retB HZ.out.symm, hnx⟩
  · rw [decide_eq_false hlen, Bool.false_and]
    have h' : ((ks.length : Int) == (ls.length : Int)) = false := beq_eq_false_iff_ne.2 (by omega)
    have h'' : ((ks.length : Int) != (ls.length : Int)) = true := by simp; omega
    generalize ks.length = L at *
    generalize ls.length = L' at *
    go_enter Try.func45, Try.ntmps45
    go_wp2
    go_ret
    exact ⟨rfl, Below.refl _ _⟩

set_option maxHeartbeats 4000000 in
theorem same21_step (m : Nat) (IH : SameC 21 m) : SameC 21 (m + 1) := by
  intro n x y lo lo' va vb w hx hy
  obtain ⟨m', hm', a1, c1, a2, c2, ak, ck, rfl, hA, hl, hs, hK⟩ := hx.letters
  obtain rfl : m = m' := by omega
  obtain ⟨m'', hm'', a1', c1', a2', c2', ak', ck', rfl, hA', hl', hs', hK'⟩ := hy.letters
  obtain rfl : m = m'' := by omega
  have X0 := hide ((box7_new w x.kind x.op x.name (.slice a1 x.lit.shape.length c1) (.slice a2 x.lit.cells.length c2) (.slice ak x.kids.length ck) x.pos).next (one_alloc _ (.cells #[.int .i64 y.kind, .int .i64 y.op, .string y.name, .slice a1' y.lit.shape.length c1', .slice a2' y.lit.cells.length c2', .slice ak' y.kids.length ck', .int .i64 y.pos] 28)))
  have Y0 : Hid (Box7 w (w.heap.size + 1) y.kind y.op y.name (.slice a1' y.lit.shape.length c1') (.slice a2' y.lit.cells.length c2') (.slice ak' y.kids.length ck') y.pos ((w.alloc (.cells #[.int .i64 x.kind, .int .i64 x.op, .string x.name, .slice a1 x.lit.shape.length c1, .slice a2 x.lit.cells.length c2, .slice ak x.kids.length ck, .int .i64 x.pos] 28)).alloc (.cells #[.int .i64 y.kind, .int .i64 y.op, .string y.name, .slice a1' y.lit.shape.length c1', .slice a2' y.lit.cells.length c2', .slice ak' y.kids.length ck', .int .i64 y.pos] 28))) := by
    have h := box7_new (w.alloc (.cells #[.int .i64 x.kind, .int .i64 x.op, .string x.name, .slice a1 x.lit.shape.length c1, .slice a2 x.lit.cells.length c2, .slice ak x.kids.length ck, .int .i64 x.pos] 28)) y.kind y.op y.name (.slice a1' y.lit.shape.length c1') (.slice a2' y.lit.cells.length c2') (.slice ak' y.kids.length ck') y.pos
    have hsz : (w.alloc (.cells #[.int .i64 x.kind, .int .i64 x.op, .string x.name, .slice a1 x.lit.shape.length c1, .slice a2 x.lit.cells.length c2, .slice ak x.kids.length ck, .int .i64 x.pos] 28)).heap.size = w.heap.size + 1 := by simp
    generalize w.alloc (.cells #[.int .i64 x.kind, .int .i64 x.op, .string x.name, .slice a1 x.lit.shape.length c1, .slice a2 x.lit.cells.length c2, .slice ak x.kids.length ck, .int .i64 x.pos] 28) = W1 at *
    rw [hsz] at h
    exact ⟨X0.out.1, h.2⟩
  have hw0 := X0.out.1
  have HCM := hide (fun wr (hwr : Below w.heap.size w wr) => cmp_any n x.lit y.lit lo lo' _ _ wr (hA.next hwr) (hA'.next hwr))
  have HEQ := hide (fun wr (hwr : Below w.heap.size w wr) => eq45 m IH n x.kids y.kids lo lo' ak ak' ck ck' wr (hK.mono (Nat.le_refl _) hwr) (hK'.mono (Nat.le_refl _) hwr) hl hl')
  simp only [sameN]
  generalize (decide (x.kids.length = y.kids.length) && !anyUp (fun i => !sameN n m (nAt x.kids i) (nAt y.kids i)) x.kids.length) = EE at *
  generalize cmpA n x.lit y.lit = CM at *
  clear hA hA' hK hK' hx hy IH
  generalize x.kind = K at *
  generalize x.op = O at *
  generalize x.name = S at *
  generalize x.pos = P at *
  generalize x.lit.shape.length = L1 at *
  generalize x.lit.cells.length = L2 at *
  generalize x.kids.length = LK at *
  generalize y.kind = K' at *
  generalize y.op = O' at *
  generalize y.name = S' at *
  generalize y.pos = P' at *
  generalize y.lit.shape.length = L1' at *
  generalize y.lit.cells.length = L2' at *
  generalize y.kids.length = LK' at *
  by_cases h1 : K = K'
  · subst h1
    by_cases h2 : O = O'
    · subst h2
      cases h3 : S.toList == S'.toList with
      | false =>
        go_enter Try.func21, Try.ntmps21
        go_wp2
        all_goals go_ret
        all_goals exact ⟨retB (by simp_all), hw0⟩
      | true =>
        by_cases h4 : CM = 0
        · subst h4
          cases EE
          · go_enter Try.func21, Try.ntmps21
            go_wp2_with fail
            refine (HCM.out _ hw0).mono ?_
            rintro e w1 ⟨rfl, hb1⟩
            have X1 := hide (X0.out.next hb1)
            have Y1 := hide (Y0.out.next hb1)
            clear hb1
            obtain ⟨hw1, -, q0, q1, q2, q3, q4, q5, q6⟩ := X1.out
            obtain ⟨-, -, r0, r1, r2, r3, r4, r5, r6⟩ := Y1.out
            go_wp2_with fail
            refine (HEQ.out _ hw1).mono ?_
            rintro e w2 ⟨rfl, hb2⟩
            have X2 := hide (X1.out.next hb2)
            have Y2 := hide (Y1.out.next hb2)
            clear hb2 q0 q1 q2 q3 q4 q5 q6 r0 r1 r2 r3 r4 r5 r6
            obtain ⟨hw2, -, q0, q1, q2, q3, q4, q5, q6⟩ := X2.out
            obtain ⟨-, -, r0, r1, r2, r3, r4, r5, r6⟩ := Y2.out
            go_wp2
            all_goals go_ret
            all_goals exact ⟨retB (by simp_all), hw2⟩
          · go_enter Try.func21, Try.ntmps21
            go_wp2_with fail
            refine (HCM.out _ hw0).mono ?_
            rintro e w1 ⟨rfl, hb1⟩
            have X1 := hide (X0.out.next hb1)
            have Y1 := hide (Y0.out.next hb1)
            clear hb1
            obtain ⟨hw1, -, q0, q1, q2, q3, q4, q5, q6⟩ := X1.out
            obtain ⟨-, -, r0, r1, r2, r3, r4, r5, r6⟩ := Y1.out
            go_wp2_with fail
            refine (HEQ.out _ hw1).mono ?_
            rintro e w2 ⟨rfl, hb2⟩
            have X2 := hide (X1.out.next hb2)
            have Y2 := hide (Y1.out.next hb2)
            clear hb2 q0 q1 q2 q3 q4 q5 q6 r0 r1 r2 r3 r4 r5 r6
            obtain ⟨hw2, -, q0, q1, q2, q3, q4, q5, q6⟩ := X2.out
            obtain ⟨-, -, r0, r1, r2, r3, r4, r5, r6⟩ := Y2.out
            go_wp2
            all_goals go_ret
            all_goals exact ⟨retB (by simp_all), hw2⟩
        · have h4' : (CM == 0) = false := beq_eq_false_iff_ne.2 h4
          go_enter Try.func21, Try.ntmps21
          go_wp2_with fail
          refine (HCM.out _ hw0).mono ?_
          rintro e w1 ⟨rfl, hb1⟩
          have X1 := hide (X0.out.next hb1)
          have Y1 := hide (Y0.out.next hb1)
          clear hb1
          obtain ⟨hw1, -, q0, q1, q2, q3, q4, q5, q6⟩ := X1.out
          obtain ⟨-, -, r0, r1, r2, r3, r4, r5, r6⟩ := Y1.out
          go_wp2
          all_goals go_ret
          all_goals exact ⟨retB (by simp_all), hw1⟩
    · have h2' : (O == O') = false := beq_eq_false_iff_ne.2 h2
      go_enter Try.func21, Try.ntmps21
      go_wp2
      all_goals go_ret
      all_goals exact ⟨retB (by simp_all), hw0⟩
  · have h1' : (K == K') = false := beq_eq_false_iff_ne.2 h1
    go_enter Try.func21, Try.ntmps21
    go_wp2
    all_goals go_ret
    all_goals exact ⟨retB (by simp_all), hw0⟩
theorem same21 (m : Nat) : SameC 21 m := by
  induction m with
  | zero => exact fun n x y lo lo' va vb w hx => hx.elim
  | succ m ih => exact same21_step m ih

set_option maxHeartbeats 8000000 in
theorem rsame22_step (m : Nat) (IH : SameC 22 m) : SameC 22 (m + 1) := by
  intro n x y lo lo' va vb w hx hy
  obtain ⟨m', hm', a1, c1, a2, c2, ak, ck, rfl, hA, hl, hs, hK⟩ := hx.letters
  obtain rfl : m = m' := by omega
  obtain ⟨m'', hm'', a1', c1', a2', c2', ak', ck', rfl, hA', hl', hs', hK'⟩ := hy.letters
  obtain rfl : m = m'' := by omega
  have X0 := hide ((box7_new w x.kind x.op x.name (.slice a1 x.lit.shape.length c1) (.slice a2 x.lit.cells.length c2) (.slice ak x.kids.length ck) x.pos).next (one_alloc _ (.cells #[.int .i64 y.kind, .int .i64 y.op, .string y.name, .slice a1' y.lit.shape.length c1', .slice a2' y.lit.cells.length c2', .slice ak' y.kids.length ck', .int .i64 y.pos] 28)))
  have Y0 : Hid (Box7 w (w.heap.size + 1) y.kind y.op y.name (.slice a1' y.lit.shape.length c1') (.slice a2' y.lit.cells.length c2') (.slice ak' y.kids.length ck') y.pos ((w.alloc (.cells #[.int .i64 x.kind, .int .i64 x.op, .string x.name, .slice a1 x.lit.shape.length c1, .slice a2 x.lit.cells.length c2, .slice ak x.kids.length ck, .int .i64 x.pos] 28)).alloc (.cells #[.int .i64 y.kind, .int .i64 y.op, .string y.name, .slice a1' y.lit.shape.length c1', .slice a2' y.lit.cells.length c2', .slice ak' y.kids.length ck', .int .i64 y.pos] 28))) := by
    have h := box7_new (w.alloc (.cells #[.int .i64 x.kind, .int .i64 x.op, .string x.name, .slice a1 x.lit.shape.length c1, .slice a2 x.lit.cells.length c2, .slice ak x.kids.length ck, .int .i64 x.pos] 28)) y.kind y.op y.name (.slice a1' y.lit.shape.length c1') (.slice a2' y.lit.cells.length c2') (.slice ak' y.kids.length ck') y.pos
    have hsz : (w.alloc (.cells #[.int .i64 x.kind, .int .i64 x.op, .string x.name, .slice a1 x.lit.shape.length c1, .slice a2 x.lit.cells.length c2, .slice ak x.kids.length ck, .int .i64 x.pos] 28)).heap.size = w.heap.size + 1 := by simp
    generalize w.alloc (.cells #[.int .i64 x.kind, .int .i64 x.op, .string x.name, .slice a1 x.lit.shape.length c1, .slice a2 x.lit.cells.length c2, .slice ak x.kids.length ck, .int .i64 x.pos] 28) = W1 at *
    rw [hsz] at h
    exact ⟨X0.out.1, h.2⟩
  have hw0 := X0.out.1
  have HCM := hide (fun wr (hwr : Below w.heap.size w wr) => rcmp_any n x.lit y.lit lo lo' _ _ wr (hA.next hwr) (hA'.next hwr))
  simp only [sameN]
  by_cases h1 : x.kind = y.kind
  · by_cases h2 : x.op = y.op
    · cases h3 : x.name.toList == y.name.toList with
      | false =>
        clear hA hA' hK hK' hx hy IH HCM
        generalize cmpA n x.lit y.lit = CM
        generalize (decide (x.kids.length = y.kids.length) && !anyUp (fun i => !sameN n m (nAt x.kids i) (nAt y.kids i)) x.kids.length) = EE
        generalize x.kind = K at *
        generalize x.op = O at *
        generalize x.name = S at *
        generalize x.pos = P at *
        generalize x.lit.shape.length = L1 at *
        generalize x.lit.cells.length = L2 at *
        generalize x.kids.length = LK at *
        generalize y.kind = K' at *
        generalize y.op = O' at *
        generalize y.name = S' at *
        generalize y.pos = P' at *
        generalize y.lit.shape.length = L1' at *
        generalize y.lit.cells.length = L2' at *
        generalize y.kids.length = LK' at *
        subst h1 h2
        go_enter Try.func22, Try.ntmps22
        go_wp2
        all_goals go_ret
        all_goals exact ⟨retB (by simp_all), hw0⟩
      | true =>
        by_cases h5 : x.kids.length = y.kids.length
        · by_cases h4 : cmpA n x.lit y.lit = 0
          · have HKS : Hid (∀ j, j < x.kids.length → ∃ b1 off KK OO SS AA1 LL1 CC1 AA2 LL2 CC2 AAK LLK CCK PP b2 off' KK' OO' SS' AA1' LL1' CC1' AA2' LL2' CC2' AAK' LLK' CCK' PP', ak = some ⟨b1, off, none⟩ ∧ ak' = some ⟨b2, off', none⟩ ∧ ∀ wr, Below w.heap.size w wr → (wr.cell? ⟨b1, off + j * 7, none⟩ = some (.int .i64 KK) ∧ wr.cell? ⟨b1, off + j * 7 + 1, none⟩ = some (.int .i64 OO) ∧ wr.cell? ⟨b1, off + j * 7 + 2, none⟩ = some (.string SS) ∧ wr.cell? ⟨b1, off + j * 7 + 3, none⟩ = some (.slice AA1 LL1 CC1) ∧ wr.cell? ⟨b1, off + j * 7 + 4, none⟩ = some (.slice AA2 LL2 CC2) ∧ wr.cell? ⟨b1, off + j * 7 + 5, none⟩ = some (.slice AAK LLK CCK) ∧ wr.cell? ⟨b1, off + j * 7 + 6, none⟩ = some (.int .i64 PP)) ∧ (wr.cell? ⟨b2, off' + j * 7, none⟩ = some (.int .i64 KK') ∧ wr.cell? ⟨b2, off' + j * 7 + 1, none⟩ = some (.int .i64 OO') ∧ wr.cell? ⟨b2, off' + j * 7 + 2, none⟩ = some (.string SS') ∧ wr.cell? ⟨b2, off' + j * 7 + 3, none⟩ = some (.slice AA1' LL1' CC1') ∧ wr.cell? ⟨b2, off' + j * 7 + 4, none⟩ = some (.slice AA2' LL2' CC2') ∧ wr.cell? ⟨b2, off' + j * 7 + 5, none⟩ = some (.slice AAK' LLK' CCK') ∧ wr.cell? ⟨b2, off' + j * 7 + 6, none⟩ = some (.int .i64 PP')) ∧
                Calls Try.prog 22 #[.agg #[.int .i64 KK, .int .i64 OO, .string SS, .slice AA1 LL1 CC1, .slice AA2 LL2 CC2, .slice AAK LLK CCK, .int .i64 PP], .agg #[.int .i64 KK', .int .i64 OO', .string SS', .slice AA1' LL1' CC1', .slice AA2' LL2' CC2', .slice AAK' LLK' CCK', .int .i64 PP']] wr fun e w' => e = .returned (.bool (sameN n m (nAt x.kids j) (nAt y.kids j))) ∧ Below wr.heap.size wr w') := by
              intro j hj
              obtain ⟨b1, off, KK, OO, SS, AA1, LL1, CC1, AA2, LL2, CC2, AAK, LLK, CCK, PP, ha, -, hw⟩ := kid_cells hK hj
              obtain ⟨b2, off', KK', OO', SS', AA1', LL1', CC1', AA2', LL2', CC2', AAK', LLK', CCK', PP', hb, -, hw'⟩ := kid_cells hK' (j := j) (by omega)
              exact ⟨b1, off, KK, OO, SS, AA1, LL1, CC1, AA2, LL2, CC2, AAK, LLK, CCK, PP, b2, off', KK', OO', SS', AA1', LL1', CC1', AA2', LL2', CC2', AAK', LLK', CCK', PP', ha, hb, fun wr hwr => ⟨(hw wr hwr).1, (hw' wr hwr).1, IH n _ _ lo lo' _ _ wr (hw wr hwr).2 (hw' wr hwr).2⟩⟩
            have HHIT : Hid (∀ j, j < x.kids.length → sameN n m (nAt x.kids j) (nAt y.kids j) = false → (!anyUp (fun i => !sameN n m (nAt x.kids i) (nAt y.kids i)) x.kids.length) = false) := fun j hj h => by
              rw [anyUp_hit hj (by simp [h])]
              rfl
            have HNO : Hid ((∀ j, j < x.kids.length → sameN n m (nAt x.kids j) (nAt y.kids j) = true) → (!anyUp (fun i => !sameN n m (nAt x.kids i) (nAt y.kids i)) x.kids.length) = true) := fun h => by
              rw [anyUp_none.2 fun i hi => by simp [h i hi]]
              rfl
            rw [decide_eq_true h1, decide_eq_true h2, decide_eq_true h4, decide_eq_true h5]
            simp only [Bool.true_and]
            generalize (!anyUp (fun i => !sameN n m (nAt x.kids i) (nAt y.kids i)) x.kids.length) = Z at *
            generalize hF : (fun i => sameN n m (nAt x.kids i) (nAt y.kids i)) = F at *
            have HF : Hid (∀ j, sameN n m (nAt x.kids j) (nAt y.kids j) = F j) := fun j => by rw [← hF]
            rw [h4] at HCM
            clear hF hA hA' hK hK' hx hy IH h4
            generalize x.kind = K at *
            generalize x.op = O at *
            generalize x.name = S at *
            generalize x.pos = P at *
            generalize x.lit.shape.length = L1 at *
            generalize x.lit.cells.length = L2 at *
            generalize x.kids.length = L at *
            generalize y.kind = K' at *
            generalize y.op = O' at *
            generalize y.name = S' at *
            generalize y.pos = P' at *
            generalize y.lit.shape.length = L1' at *
            generalize y.lit.cells.length = L2' at *
            generalize y.kids.length = LK' at *
            subst h1 h2 h5
            clear hl'
            go_enter Try.func22, Try.ntmps22
            go_wp2_with fail
            refine (HCM.out _ hw0).mono ?_
            rintro e w1 ⟨rfl, hb1⟩
            have X1 := hide (X0.out.next hb1)
            have Y1 := hide (Y0.out.next hb1)
            clear hb1
            obtain ⟨hw1, -, q0, q1, q2, q3, q4, q5, q6⟩ := X1.out
            obtain ⟨-, -, r0, r1, r2, r3, r4, r5, r6⟩ := Y1.out
            go_wp2
            go_loopg [5] L (fun g i wr => ∃ (j : Nat), g + j = L ∧ i = .int .i64 (j : Int) ∧ (∀ i, i < j → F i = true) ∧ Box7 w w.heap.size K O S (.slice a1 L1 c1) (.slice a2 L2 c2) (.slice ak L ck) P wr ∧ Box7 w (w.heap.size + 1) K O S' (.slice a1' L1' c1') (.slice a2' L2' c2') (.slice ak' L ck') P' wr)
            case atStart => exact ⟨0, rfl, rfl, (by intro i hi; omega), X1.out, Y1.out⟩
            case round =>
              clear q0 q1 q2 q3 q4 q5 q6 r0 r1 r2 r3 r4 r5 r6 hw1 X1 Y1 X0 Y0 hw0
              obtain ⟨j, hj, rfl, hno, hX, hY⟩ := hrel
              have HN := hide hno
              have HX := hide hX
              have HY := hide hY
              clear hno
              obtain ⟨hnx, -, q0, q1, q2, q3, q4, q5, q6⟩ := hX
              obtain ⟨-, -, r0, r1, r2, r3, r4, r5, r6⟩ := hY
              clear q0 q1 q2 q3 q4 q6 r0 r1 r2 r3 r4 r6
              by_cases hlt : j < L
              · obtain ⟨b1, off, KK, OO, SS, AA1, LL1, CC1, AA2, LL2, CC2, AAK, LLK, CCK, PP, b2, off', KK', OO', SS', AA1', LL1', CC1', AA2', LL2', CC2', AAK', LLK', CCK', PP', rfl, rfl, hw⟩ := HKS.out j hlt
                have HH := hide (HHIT.out j hlt)
                rw [HF.out j] at HH
                have HFJ0 := hide (HF.out j)
                clear HKS HHIT HNO HF
                have KS : Hid (∀ W, Below wr.heap.size wr W → Below wr.heap.size wr W ∧ W.cell? ⟨w.heap.size, 5, none⟩ = some (.slice (some ⟨b1, off, none⟩) L ck) ∧ W.cell? ⟨w.heap.size + 1, 5, none⟩ = some (.slice (some ⟨b2, off', none⟩) L ck') ∧ (W.cell? ⟨b1, off + j * 7, none⟩ = some (.int .i64 KK) ∧ W.cell? ⟨b1, off + j * 7 + 1, none⟩ = some (.int .i64 OO) ∧ W.cell? ⟨b1, off + j * 7 + 2, none⟩ = some (.string SS) ∧ W.cell? ⟨b1, off + j * 7 + 3, none⟩ = some (.slice AA1 LL1 CC1) ∧ W.cell? ⟨b1, off + j * 7 + 4, none⟩ = some (.slice AA2 LL2 CC2) ∧ W.cell? ⟨b1, off + j * 7 + 5, none⟩ = some (.slice AAK LLK CCK) ∧ W.cell? ⟨b1, off + j * 7 + 6, none⟩ = some (.int .i64 PP)) ∧
                    (W.cell? ⟨b2, off' + j * 7, none⟩ = some (.int .i64 KK') ∧ W.cell? ⟨b2, off' + j * 7 + 1, none⟩ = some (.int .i64 OO') ∧ W.cell? ⟨b2, off' + j * 7 + 2, none⟩ = some (.string SS') ∧ W.cell? ⟨b2, off' + j * 7 + 3, none⟩ = some (.slice AA1' LL1' CC1') ∧ W.cell? ⟨b2, off' + j * 7 + 4, none⟩ = some (.slice AA2' LL2' CC2') ∧ W.cell? ⟨b2, off' + j * 7 + 5, none⟩ = some (.slice AAK' LLK' CCK') ∧ W.cell? ⟨b2, off' + j * 7 + 6, none⟩ = some (.int .i64 PP'))) := fun W h => ⟨h, (HX.out.next h).2.2.2.2.2.2.2.1, (HY.out.next h).2.2.2.2.2.2.2.1, (hw W (hnx.trans (h.mono hnx.size))).1, (hw W (hnx.trans (h.mono hnx.size))).2.1⟩
                have HCC : Hid (∀ W, Below wr.heap.size wr W → Calls Try.prog 22 #[.agg #[.int .i64 KK, .int .i64 OO, .string SS, .slice AA1 LL1 CC1, .slice AA2 LL2 CC2, .slice AAK LLK CCK, .int .i64 PP], .agg #[.int .i64 KK', .int .i64 OO', .string SS', .slice AA1' LL1' CC1', .slice AA2' LL2' CC2', .slice AAK' LLK' CCK', .int .i64 PP']] W fun e w' => e = .returned (.bool (F j)) ∧ Below wr.heap.size wr w') := fun W h => (hw W (hnx.trans (h.mono hnx.size))).2.2.mono fun e w' ⟨he, hb⟩ => ⟨by rw [he, HFJ0.out], h.trans (hb.mono h.size)⟩
                have HD0 : Hid (Below wr.heap.size wr wr.drew) := (Below.refl _ _).drew
                clear hw HFJ0
                cases hFJ : F j with
                | true =>
                  rw [hFJ] at HCC
                  have HFJ := hide hFJ
                  clear hFJ HH
                  go_upto_region 6 with fail
                  go_region_held3 (fun W => Below wr.heap.size wr W ∧ W.cell? ⟨w.heap.size, 5, none⟩ = some (.slice (some ⟨b1, off, none⟩) L ck) ∧ W.cell? ⟨w.heap.size + 1, 5, none⟩ = some (.slice (some ⟨b2, off', none⟩) L ck') ∧ (W.cell? ⟨b1, off + j * 7, none⟩ = some (.int .i64 KK) ∧ W.cell? ⟨b1, off + j * 7 + 1, none⟩ = some (.int .i64 OO) ∧ W.cell? ⟨b1, off + j * 7 + 2, none⟩ = some (.string SS) ∧ W.cell? ⟨b1, off + j * 7 + 3, none⟩ = some (.slice AA1 LL1 CC1) ∧ W.cell? ⟨b1, off + j * 7 + 4, none⟩ = some (.slice AA2 LL2 CC2) ∧ W.cell? ⟨b1, off + j * 7 + 5, none⟩ = some (.slice AAK LLK CCK) ∧ W.cell? ⟨b1, off + j * 7 + 6, none⟩ = some (.int .i64 PP)) ∧ (W.cell? ⟨b2, off' + j * 7, none⟩ = some (.int .i64 KK') ∧ W.cell? ⟨b2, off' + j * 7 + 1, none⟩ = some (.int .i64 OO') ∧ W.cell? ⟨b2, off' + j * 7 + 2, none⟩ = some (.string SS') ∧ W.cell? ⟨b2, off' + j * 7 + 3, none⟩ = some (.slice AA1' LL1' CC1') ∧ W.cell? ⟨b2, off' + j * 7 + 4, none⟩ = some (.slice AA2' LL2' CC2') ∧ W.cell? ⟨b2, off' + j * 7 + 5, none⟩ = some (.slice AAK' LLK' CCK') ∧ W.cell? ⟨b2, off' + j * 7 + 6, none⟩ = some (.int .i64 PP'))) (first | with_reducible exact KS.out _ HD0.out | with_reducible exact KS.out _ (by with_reducible assumption)) (first | (go_at_call 22; refine (HCC.out _ HD0.out).mono ?_; rintro e w9 ⟨rfl, hb9⟩))
                  go_wp2
                  go_roundg (L - (j + 1))
                  case rel =>
                    refine ⟨j + 1, by omega, by go_num, fun i hi => ?_, HX.out.next hb9, HY.out.next hb9⟩
                    rcases Nat.lt_succ_iff_lt_or_eq.1 hi with hi | rfl
                    · exact HN.out i hi
                    · exact HFJ.out
                  case measure => omega
                | false =>
                  rw [hFJ] at HCC
                  have HZ := hide (HH.out hFJ)
                  clear hFJ HH HN
                  go_upto_region 6 with fail
                  go_region_held3 (fun W => Below wr.heap.size wr W ∧ W.cell? ⟨w.heap.size, 5, none⟩ = some (.slice (some ⟨b1, off, none⟩) L ck) ∧ W.cell? ⟨w.heap.size + 1, 5, none⟩ = some (.slice (some ⟨b2, off', none⟩) L ck') ∧ (W.cell? ⟨b1, off + j * 7, none⟩ = some (.int .i64 KK) ∧ W.cell? ⟨b1, off + j * 7 + 1, none⟩ = some (.int .i64 OO) ∧ W.cell? ⟨b1, off + j * 7 + 2, none⟩ = some (.string SS) ∧ W.cell? ⟨b1, off + j * 7 + 3, none⟩ = some (.slice AA1 LL1 CC1) ∧ W.cell? ⟨b1, off + j * 7 + 4, none⟩ = some (.slice AA2 LL2 CC2) ∧ W.cell? ⟨b1, off + j * 7 + 5, none⟩ = some (.slice AAK LLK CCK) ∧ W.cell? ⟨b1, off + j * 7 + 6, none⟩ = some (.int .i64 PP)) ∧ (W.cell? ⟨b2, off' + j * 7, none⟩ = some (.int .i64 KK') ∧ W.cell? ⟨b2, off' + j * 7 + 1, none⟩ = some (.int .i64 OO') ∧ W.cell? ⟨b2, off' + j * 7 + 2, none⟩ = some (.string SS') ∧ W.cell? ⟨b2, off' + j * 7 + 3, none⟩ = some (.slice AA1' LL1' CC1') ∧ W.cell? ⟨b2, off' + j * 7 + 4, none⟩ = some (.slice AA2' LL2' CC2') ∧ W.cell? ⟨b2, off' + j * 7 + 5, none⟩ = some (.slice AAK' LLK' CCK') ∧ W.cell? ⟨b2, off' + j * 7 + 6, none⟩ = some (.int .i64 PP'))) (first | with_reducible exact KS.out _ HD0.out | with_reducible exact KS.out _ (by with_reducible assumption)) (first | (go_at_call 22; refine (HCC.out _ HD0.out).mono ?_; rintro e w9 ⟨rfl, hb9⟩))
                  go_wp2
                  go_ret
                  exact ⟨retB HZ.out.symm, (HX.out.next hb9).1⟩
              · have hje : j = L := by omega
                subst hje
                have HZ := hide (HNO.out fun i hi => by rw [HF.out i]; exact HN.out i hi)
                clear HKS HHIT HNO HN HF
                go_wp2
                go_ret
                exact ⟨retB HZ.out.symm, HX.out.1⟩
          · have h4' : (cmpA n x.lit y.lit == 0) = false := beq_eq_false_iff_ne.2 h4
            have h4'' : (cmpA n x.lit y.lit != 0) = true := by simp [h4]
            clear hA hA' hK hK' hx hy IH
            generalize (decide (x.kids.length = y.kids.length) && !anyUp (fun i => !sameN n m (nAt x.kids i) (nAt y.kids i)) x.kids.length) = EE
            generalize cmpA n x.lit y.lit = CM at *
            generalize x.kind = K at *
            generalize x.op = O at *
            generalize x.name = S at *
            generalize x.pos = P at *
            generalize x.lit.shape.length = L1 at *
            generalize x.lit.cells.length = L2 at *
            generalize x.kids.length = LK at *
            generalize y.kind = K' at *
            generalize y.op = O' at *
            generalize y.name = S' at *
            generalize y.pos = P' at *
            generalize y.lit.shape.length = L1' at *
            generalize y.lit.cells.length = L2' at *
            generalize y.kids.length = LK' at *
            subst h1 h2 h5
            go_enter Try.func22, Try.ntmps22
            go_wp2_with fail
            refine (HCM.out _ hw0).mono ?_
            rintro e w1 ⟨rfl, hb1⟩
            have X1 := hide (X0.out.next hb1)
            have Y1 := hide (Y0.out.next hb1)
            clear hb1
            obtain ⟨hw1, -, q0, q1, q2, q3, q4, q5, q6⟩ := X1.out
            obtain ⟨-, -, r0, r1, r2, r3, r4, r5, r6⟩ := Y1.out
            go_wp2
            all_goals go_ret
            all_goals exact ⟨retB (by simp_all), hw1⟩
        · have h5' : ((x.kids.length : Int) == (y.kids.length : Int)) = false := beq_eq_false_iff_ne.2 (by omega)
          have h5'' : ((x.kids.length : Int) != (y.kids.length : Int)) = true := by simp; omega
          clear hA hA' hK hK' hx hy IH HCM
          rw [decide_eq_false h5]
          generalize cmpA n x.lit y.lit = CM
          generalize x.kind = K at *
          generalize x.op = O at *
          generalize x.name = S at *
          generalize x.pos = P at *
          generalize x.lit.shape.length = L1 at *
          generalize x.lit.cells.length = L2 at *
          generalize x.kids.length = LK at *
          generalize y.kind = K' at *
          generalize y.op = O' at *
          generalize y.name = S' at *
          generalize y.pos = P' at *
          generalize y.lit.shape.length = L1' at *
          generalize y.lit.cells.length = L2' at *
          generalize y.kids.length = LK' at *
          subst h1 h2
          go_enter Try.func22, Try.ntmps22
          go_wp2
          all_goals go_ret
          all_goals exact ⟨retB (by simp_all), hw0⟩
    · clear hA hA' hK hK' hx hy IH HCM
      generalize cmpA n x.lit y.lit = CM
      generalize (decide (x.kids.length = y.kids.length) && !anyUp (fun i => !sameN n m (nAt x.kids i) (nAt y.kids i)) x.kids.length) = EE
      generalize x.kind = K at *
      generalize x.op = O at *
      generalize x.name = S at *
      generalize x.pos = P at *
      generalize x.lit.shape.length = L1 at *
      generalize x.lit.cells.length = L2 at *
      generalize x.kids.length = LK at *
      generalize y.kind = K' at *
      generalize y.op = O' at *
      generalize y.name = S' at *
      generalize y.pos = P' at *
      generalize y.lit.shape.length = L1' at *
      generalize y.lit.cells.length = L2' at *
      generalize y.kids.length = LK' at *
      subst h1
      have h2' : (O == O') = false := beq_eq_false_iff_ne.2 h2
      have h2'' : (O != O') = true := by simp [h2]
      go_enter Try.func22, Try.ntmps22
      go_wp2
      all_goals go_ret
      all_goals exact ⟨retB (by simp_all), hw0⟩
  · clear hA hA' hK hK' hx hy IH HCM
    generalize cmpA n x.lit y.lit = CM
    generalize (decide (x.kids.length = y.kids.length) && !anyUp (fun i => !sameN n m (nAt x.kids i) (nAt y.kids i)) x.kids.length) = EE
    generalize x.kind = K at *
    generalize x.op = O at *
    generalize x.name = S at *
    generalize x.pos = P at *
    generalize x.lit.shape.length = L1 at *
    generalize x.lit.cells.length = L2 at *
    generalize x.kids.length = LK at *
    generalize y.kind = K' at *
    generalize y.op = O' at *
    generalize y.name = S' at *
    generalize y.pos = P' at *
    generalize y.lit.shape.length = L1' at *
    generalize y.lit.cells.length = L2' at *
    generalize y.kids.length = LK' at *
    have h1' : (K == K') = false := beq_eq_false_iff_ne.2 h1
    have h1'' : (K != K') = true := by simp [h1]
    go_enter Try.func22, Try.ntmps22
    go_wp2
    all_goals go_ret
    all_goals exact ⟨retB (by simp_all), hw0⟩
theorem rsame22 (m : Nat) : SameC 22 m := by
  induction m with
  | zero => exact fun n x y lo lo' va vb w hx => hx.elim
  | succ m ih => exact rsame22_step m ih
end Go.Proofs.Ytkgpoibnilgaeaa
