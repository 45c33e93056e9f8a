/-
  Check of both, and what is light: a program of no more than so many nodes; for all programs.
-/
import Derived.Test.YtkgpoibnilgaeaaCoO
import Derived.Test.YtkgpoibnilgaeaaCoI
import Derived.Deep.LoopGhost
namespace Go.Proofs.Ytkgpoibnilgaeaa
open Go.ChangeShapes Go.WideShapes Go.ChangeAt Go.RowKit
set_option linter.unusedVariables false
set_option linter.unusedSimpArgs false
/-- Whether a program may be. -/
def gdB (m : Nat) (x : Nd) : Bool := decide (sizeN m x ≤ 2048) && decide (deepN m x ≤ 24) && exprN m false x
def errN (m : Nat) (x : Nd) : Int := if gdB m x = true then 0 else 1
theorem gd_gdB (m : Nat) (x : Nd) : Gd (exprN m false x) 0 0 m x ↔ gdB m x = true := by
  simp only [Gd, gdB, Bool.and_eq_true, decide_eq_true_eq]
  constructor
  · rintro ⟨a, b, c⟩; exact ⟨⟨by omega, by omega⟩, a⟩
  · rintro ⟨⟨b, c⟩, a⟩; exact ⟨a, by omega, by omega⟩

set_option maxHeartbeats 4000000 in
theorem check10 (m : Nat) : ∀ n x lo va w, NdIn m n lo w x va → Calls Try.prog 10 #[va] w fun e w' => e = .returned (.int .i64 (errN m x)) ∧ Below w.heap.size w w' := by
  intro n x lo va w hx
  have hxx := hx
  obtain ⟨m', hm', a1, c1, a2, c2, ak, ck, rfl, hA, hl, hs, hK⟩ := hx.letters
  have X0 := box7_new w x.kind x.op x.name (.slice a1 x.lit.shape.length c1) (.slice a2 x.lit.cells.length c2) (.slice ak x.kids.length ck) x.pos
  obtain ⟨W1, hW1⟩ : ∃ W1, w.alloc (.cells #[.int .i64 x.kind, .int .i64 x.op, .string x.name, .slice a1 x.lit.shape.length c1, .slice a2 x.lit.cells.length c2, .slice ak x.kids.length ck, .int .i64 x.pos] 28) = W1 := ⟨_, rfl⟩
  rw [hW1] at X0
  have hsz1 : W1.heap.size = w.heap.size + 1 := by rw [← hW1]; simp
  obtain ⟨W2, hW2⟩ : ∃ W2, W1.alloc (.cells #[.int .i64 0] 50) = W2 := ⟨_, rfl⟩
  have hb12 : Below W1.heap.size W1 W2 := by rw [← hW2]; exact one_alloc _ _
  have X2 := X0.next hb12
  have hct : Ctr W2 (w.heap.size + 1) 0 := by
    rw [← hW2, ← hsz1]
    show ((W1.heap.push _)[W1.heap.size]?) = _
    simp
  have C := exE m n x lo _ w W2 (w.heap.size + 1) 0 0 none 0 0 hxx X2.1 (by omega) (by rintro r h; cases h) hct (by rintro r h; cases h) (by omega) (by omega) (by omega) (by omega)
  have HIFF : Hid (Gd (exprN m (none : Option Nat).isSome x) 0 0 m x ↔ gdB m x = true) := gd_gdB m x
  have HB : Hid (Below w.heap.size w W2) := X2.1
  have HW1 := hide hW1
  have HW2 := hide hW2
  have HX := hide X2
  have HER1 : Hid (gdB m x = true → errN m x = 0) := fun h => by unfold errN; rw [if_pos h]
  have HER2 : Hid (¬ gdB m x = true → errN m x = 1) := fun h => by unfold errN; rw [if_neg h]
  have HC := hide C
  clear C hxx hA hK X0 hW1 hW2 hb12 hct hsz1 X2 hx
  generalize Gd (exprN m (none : Option Nat).isSome x) 0 0 m x = GD at *
  generalize gdB m x = GB at *
  generalize errN m x = ER at *
  generalize (0 : Int) + (sizeN m x : Int) = CE at *
  generalize (0 : Int) + (cntN m 3 x : Int) = N3 at *
  generalize (0 : Int) + (cntN m 4 x : Int) = N4 at *
  generalize x.kids.length = LK at *
  generalize x.kind = K at *
  generalize x.op = O at *
  generalize x.name = S at *
  generalize x.pos = P at *
  generalize x.lit.shape.length = L1 at *
  generalize x.lit.cells.length = L2 at *
  go_enter Try.func10, Try.ntmps10
  go_upto_region 2 with fail
  rw [HW1.out, HW2.out]
  obtain ⟨-, -, q0, q1, q2, q3, q4, q5, q6⟩ := HX.out
  go_wp2_with fail
  refine HC.out.mono ?_
  rintro e w3 ⟨ok, rfl, hok, hbt, -⟩
  have hbb : Below w.heap.size w w3 := HB.out.trans (hbt.below HB.out.size (fun k h => h.elim (fun e => by omega) (fun e => by cases e)))
  have HBB := hide hbb
  have HOK := hide hok
  clear hbb hok hbt q0 q1 q2 q3 q4 q5 q6 HX HC
  cases ok
  · go_wp2
    go_ret
    exact ⟨retI (HER2.out (fun h => by have := HOK.out.2 (HIFF.out.2 h); cases this)).symm, HBB.out⟩
  · go_wp2
    go_ret
    exact ⟨retI (HER1.out (HIFF.out.1 (HOK.out.1 (by first | rfl | trivial)))).symm, HBB.out⟩

set_option maxHeartbeats 4000000 in
theorem rcheck11 (m : Nat) : ∀ n x lo va w, NdIn m n lo w x va → sizeN m x ≤ 4000 → Calls Try.prog 11 #[va] w fun e w' => e = .returned (.int .i64 (errN m x)) ∧ Below w.heap.size w w' := by
  intro n x lo va w hx hsz
  have hxx := hx
  obtain ⟨m', hm', a1, c1, a2, c2, ak, ck, rfl, hA, hl, hs, hK⟩ := hx.letters
  have X0 := hide (box7_new w x.kind x.op x.name (.slice a1 x.lit.shape.length c1) (.slice a2 x.lit.cells.length c2) (.slice ak x.kids.length ck) x.pos)
  have hw0 := X0.out.1
  have HS := hide (fun wr (hwr : Below w.heap.size w wr) => size13 m n x lo _ wr (hxx.next hwr) hsz)
  have HD := hide (fun wr (hwr : Below w.heap.size w wr) => deep28 m n x lo _ wr (hxx.next hwr) hsz)
  have HE := hide (fun wr (hwr : Below w.heap.size w wr) => expr33 m false n x lo _ wr (hxx.next hwr))
  have HE0 : Hid (errN m x = if (decide (sizeN m x ≤ 2048) && decide (deepN m x ≤ 24) && exprN m false x) = true then 0 else 1) := rfl
  generalize errN m x = ER at *
  have hd0 := deepN_nonneg m x
  have hd1 := deepN_size m x
  generalize sizeN m x = SZ at *
  generalize deepN m x = DP at *
  generalize exprN m false x = EE at *
  clear hxx hA hK hx
  generalize x.kids.length = LK at *
  generalize x.kind = K at *
  generalize x.op = O at *
  generalize x.name = S at *
  generalize x.pos = P at *
  generalize x.lit.shape.length = L1 at *
  generalize x.lit.cells.length = L2 at *
  by_cases h1 : 2048 < (SZ : Int)
  · have h1' : decide (2048 < (SZ : Int)) = true := by simp; omega
    go_enter Try.func11, Try.ntmps11
    go_wp2_with fail
    refine (HS.out _ hw0).mono ?_
    rintro e w1 ⟨rfl, hb1⟩
    have X1 := hide (X0.out.next hb1)
    clear hb1
    obtain ⟨hw1, -, q0, q1, q2, q3, q4, q5, q6⟩ := X1.out
    go_wp2
    all_goals go_ret
    all_goals exact ⟨retI (by rw [HE0.out, if_neg]; simp; omega), hw1⟩
  · have h1' : decide (2048 < (SZ : Int)) = false := by simp; omega
    by_cases h2 : 24 < DP
    · have h2' : decide (24 < DP) = true := by simp [h2]
      go_enter Try.func11, Try.ntmps11
      go_wp2_with fail
      refine (HS.out _ hw0).mono ?_
      rintro e w1 ⟨rfl, hb1⟩
      have X1 := hide (X0.out.next hb1)
      clear hb1
      obtain ⟨hw1, -, q0, q1, q2, q3, q4, q5, q6⟩ := X1.out
      go_wp2_with fail
      refine (HD.out _ hw1).mono ?_
      rintro e w2 ⟨rfl, hb2⟩
      have X2 := hide (X1.out.next hb2)
      clear hb2 q0 q1 q2 q3 q4 q5 q6
      obtain ⟨hw2, -, q0, q1, q2, q3, q4, q5, q6⟩ := X2.out
      go_wp2
      all_goals go_ret
      all_goals exact ⟨retI (by rw [HE0.out, if_neg]; simp; omega), hw2⟩
    · have h2' : decide (24 < DP) = false := by simp; omega
      cases EE
      · go_enter Try.func11, Try.ntmps11
        go_wp2_with fail
        refine (HS.out _ hw0).mono ?_
        rintro e w1 ⟨rfl, hb1⟩
        have X1 := hide (X0.out.next hb1)
        clear hb1
        obtain ⟨hw1, -, q0, q1, q2, q3, q4, q5, q6⟩ := X1.out
        go_wp2_with fail
        refine (HD.out _ hw1).mono ?_
        rintro e w2 ⟨rfl, hb2⟩
        have X2 := hide (X1.out.next hb2)
        clear hb2 q0 q1 q2 q3 q4 q5 q6
        obtain ⟨hw2, -, q0, q1, q2, q3, q4, q5, q6⟩ := X2.out
        go_wp2_with fail
        refine (HE.out _ hw2).mono ?_
        rintro e w3 ⟨rfl, hb3⟩
        have X3 := hide (X2.out.next hb3)
        clear hb3 q0 q1 q2 q3 q4 q5 q6
        obtain ⟨hw3, -, q0, q1, q2, q3, q4, q5, q6⟩ := X3.out
        go_wp2
        all_goals go_ret
        all_goals exact ⟨retI (by first | (rw [HE0.out, if_neg]; simp; done) | (rw [HE0.out, if_pos]; simp; omega)), hw3⟩
      · go_enter Try.func11, Try.ntmps11
        go_wp2_with fail
        refine (HS.out _ hw0).mono ?_
        rintro e w1 ⟨rfl, hb1⟩
        have X1 := hide (X0.out.next hb1)
        clear hb1
        obtain ⟨hw1, -, q0, q1, q2, q3, q4, q5, q6⟩ := X1.out
        go_wp2_with fail
        refine (HD.out _ hw1).mono ?_
        rintro e w2 ⟨rfl, hb2⟩
        have X2 := hide (X1.out.next hb2)
        clear hb2 q0 q1 q2 q3 q4 q5 q6
        obtain ⟨hw2, -, q0, q1, q2, q3, q4, q5, q6⟩ := X2.out
        go_wp2_with fail
        refine (HE.out _ hw2).mono ?_
        rintro e w3 ⟨rfl, hb3⟩
        have X3 := hide (X2.out.next hb3)
        clear hb3 q0 q1 q2 q3 q4 q5 q6
        obtain ⟨hw3, -, q0, q1, q2, q3, q4, q5, q6⟩ := X3.out
        go_wp2
        all_goals go_ret
        all_goals exact ⟨retI (by first | (rw [HE0.out, if_neg]; simp; done) | (rw [HE0.out, if_pos]; simp; omega)), hw3⟩

set_option maxHeartbeats 1000000 in
theorem weight14 {n lo : Nat} {x : Ar} {va : Value} {w : World} (M : Int) (hM0 : 0 ≤ M) (hM : M ≤ 4000) (hx : ArIn n lo w x va) : Calls Try.prog 14 #[va, .int .i64 M] w fun e w' => (∃ r : Int, e = .returned (.int .i64 r) ∧ 0 ≤ r ∧ r ≤ 147000000080000) ∧ Below w.heap.size w w' := by
  have C := fun w' hb => weigh_any 16 (Nat.le_refl _) n x lo va w' M (hx.next hb) hM0 hM
  cases n with
  | zero => exact hx.elim
  | succ n =>
    obtain ⟨a1, c1, a2, c2, rfl, -⟩ := hx
    generalize x.shape.length = SA at *
    generalize x.cells.length = CA at *
    have C1 := C _ (one_alloc w (.cells #[.slice a1 SA c1, .slice a2 CA c2] 25))
    clear C
    go_enter Try.func14, Try.ntmps14
    go_wp2_with fail
    refine C1.mono ?_
    rintro e w1 ⟨⟨r, rfl, hr0, hr1, -⟩, hb1⟩
    go_wp2
    go_ret
    exact ⟨⟨r, rfl, hr0, by omega⟩, (one_alloc _ _).trans (hb1.mono (one_alloc _ _).size)⟩
/-- What the weighing of a program promises. -/
def WeighN (D : Nat) : Prop := ∀ m n x lo va w (M : Int), NdIn m n lo w x va → 0 ≤ M → M ≤ 3000 → Calls Try.prog 47 #[va, .int .i64 M, .int .i64 (D : Int)] w fun e w' => (∃ r : Int, e = .returned (.int .i64 r) ∧ 0 ≤ r ∧ r ≤ 147000000090000 + 5000 * (D : Int) ∧ (r ≤ M → (sizeN m x : Int) ≤ r)) ∧ Below w.heap.size w w'
set_option maxHeartbeats 4000000 in
theorem weighN_step (D : Nat) (hD : D ≤ 40) (IH : ∀ D', D = D' + 1 → WeighN D') : WeighN D := by
  intro m n x lo va w M hx hM0 hM
  obtain ⟨m, rfl, a1, c1, a2, c2, ak, ck, rfl, hA, hl, hs, hK⟩ := hx.letters
  have X0 := box7_new w x.kind x.op x.name (.slice a1 x.lit.shape.length c1) (.slice a2 x.lit.cells.length c2) (.slice ak x.kids.length ck) x.pos
  have CW := weight14 M hM0 (by omega) (hA.next X0.1)
  have HKS := hide (fun j (hj : j < x.kids.length) => kid_cells hK (j := j) hj)
  have hF0 : (sizeN (m + 1) x : Int) = 1 + (sumUp (fun i => sizeN m (nAt x.kids i)) x.kids.length : Int) := by simp only [sizeN]; omega
  rw [hF0]
  generalize hF : (fun i => sizeN m (nAt x.kids i)) = F at *
  have HF : Hid (∀ j, sizeN m (nAt x.kids j) = F j) := fun j => by rw [← hF]
  have HU : Hid (∀ j, sumUp F (j + 1) = sumUp F j + F j) := fun j => rfl
  have HU0 : Hid (sumUp F 0 = 0) := rfl
  have HX0 := hide X0
  have q5 := X0.2.2.2.2.2.2.2.1
  clear hF hF0 hA hK hx X0
  generalize x.kids.length = L at *
  generalize x.kind = K0 at *
  generalize x.op = O0 at *
  generalize x.name = S0 at *
  generalize x.pos = P0 at *
  generalize x.lit.shape.length = L10 at *
  generalize x.lit.cells.length = L20 at *
  go_enter Try.func47, Try.ntmps47
  go_wp2_with fail
  refine CW.mono ?_
  rintro e w1 ⟨⟨r0, rfl, hr0, hr1⟩, hb1⟩
  have X1 := HX0.out.next hb1
  have HX1 := hide X1
  clear X1 hb1 q5 HX0 CW
  go_wp2
  go_loopg [7, 8] L (fun g nv i wr => ∃ (j : Nat) (N : Int), g + j = L ∧ i = .int .i64 (j : Int) ∧ nv = .int .i64 N ∧ 0 ≤ N ∧ N ≤ 147000000090000 + 5000 * (D : Int) ∧ (N ≤ M → (1 : Int) + (sumUp F j : Int) ≤ N) ∧ Below w.heap.size w wr ∧ wr.cell? ⟨w.heap.size, 5, none⟩ = some (.slice ak L ck) ∧ w.heap.size < wr.heap.size)
  case atStart => exact ⟨0, 1 + r0, rfl, rfl, by go_num, by omega, by omega, by intro _; rw [HU0.out]; omega, HX1.out.1, HX1.out.2.2.2.2.2.2.2.1, HX1.out.2.1⟩
  case round =>
    clear HX1 hr0 hr1
    obtain ⟨j, N, hj, rfl, rfl, hN0, hN1, hsum, hnx, hcl, hsz⟩ := hrel
    have HSZ := hide hsz
    have HSUM := hide hsum
    clear hsz hsum
    by_cases hlt : j < L
    · by_cases hNM : N ≤ M
      · by_cases hd0 : D = 0
        · subst hd0
          clear HKS
          go_wp2
          go_ret
          exact ⟨⟨M + 1, by go_num, by omega, by omega, fun h => absurd h (by omega)⟩, hnx⟩
        · obtain ⟨D', rfl⟩ : ∃ D', D = D' + 1 := ⟨D - 1, by omega⟩
          obtain ⟨b, off, K, O, S, A1, L1, C1, A2, L2, C2, AK, LK, CK, P, rfl, hbb, hw⟩ := HKS.out j hlt
          obtain ⟨⟨g0, g1, g2, g3, g4, g5, g6⟩, hkid⟩ := hw _ hnx
          have C : Hid (∀ DD : Int, DD = (D' : Int) → Calls Try.prog 47 #[.agg #[.int .i64 K, .int .i64 O, .string S, .slice A1 L1 C1, .slice A2 L2 C2, .slice AK LK CK, .int .i64 P], .int .i64 (M - N), .int .i64 DD] wr fun e w' => (∃ r : Int, e = .returned (.int .i64 r) ∧ 0 ≤ r ∧ r ≤ 147000000090000 + 5000 * (D' : Int) ∧ (r ≤ M - N → (F j : Int) ≤ r)) ∧ Below wr.heap.size wr w') := by
            rintro DD rfl
            rw [← HF.out j]
            exact IH D' rfl m n _ lo _ wr (M - N) hkid (by omega) (by omega)
          have hd1 : ((D' + 1 : Nat) : Int) ≠ 0 := by omega
          have HUJ := hide (HU.out j)
          clear hw hkid HKS hd0 HF HU
          go_wp2_with fail
          refine (C.out _ (by omega)).mono ?_
          rintro e w1 ⟨⟨r, rfl, hr0, hr1, hrt⟩, hb1⟩
          have HRT := hide hrt
          clear hrt C
          go_wp2
          go_roundg (L - (j + 1))
          case rel =>
            refine ⟨j + 1, N + r, by omega, by go_num, by go_num, by omega, by omega, ?_, hnx.trans (hb1.mono hnx.size), (hb1.cell (p := ⟨w.heap.size, 5, none⟩) HSZ.out).trans hcl, Nat.lt_of_lt_of_le HSZ.out hb1.size⟩
            intro hle
            have := HSUM.out hNM
            have := HRT.out (by omega)
            rw [HUJ.out]
            omega
          case measure => omega
      · clear HKS
        have hNM' : decide (N ≤ M) = false := by simp; omega
        go_wp2
        go_ret
        exact ⟨⟨N, rfl, hN0, hN1, fun h => absurd h (by omega)⟩, hnx⟩
    · have hje : j = L := by omega
      subst hje
      clear HKS
      go_wp2
      go_ret
      exact ⟨⟨N, rfl, hN0, hN1, HSUM.out⟩, hnx⟩
theorem weighN (D : Nat) (hD : D ≤ 40) : WeighN D := by
  induction D with
  | zero => exact weighN_step 0 hD fun D' h => absurd h (by omega)
  | succ D ih =>
    refine weighN_step (D + 1) hD fun D' h => ?_
    have : D' = D := by omega
    subst this
    exact ih (by omega)

set_option maxHeartbeats 1000000 in
theorem weight29 {m n lo : Nat} {x : Nd} {va : Value} {w : World} (hx : NdIn m n lo w x va) : Calls Try.prog 29 #[va, .int .i64 3000] w fun e w' => (∃ r : Int, e = .returned (.int .i64 r) ∧ (r ≤ 3000 → sizeN m x ≤ 3000)) ∧ Below w.heap.size w w' := by
  have hxx := hx
  obtain ⟨m', hm', a1, c1, a2, c2, ak, ck, rfl, hA, hl, hs, hK⟩ := hx.letters
  have X0 := box7_new w x.kind x.op x.name (.slice a1 x.lit.shape.length c1) (.slice a2 x.lit.cells.length c2) (.slice ak x.kids.length ck) x.pos
  have C := weighN 40 (Nat.le_refl _) m n x lo _ _ 3000 (hxx.next X0.1) (by omega) (by omega)
  have HB := hide X0.1
  clear X0 hxx hA hK hx
  generalize sizeN m x = SZ at *
  generalize x.kids.length = LK at *
  generalize x.kind = K at *
  generalize x.op = O at *
  generalize x.name = S at *
  generalize x.pos = P at *
  generalize x.lit.shape.length = L1 at *
  generalize x.lit.cells.length = L2 at *
  go_enter Try.func29, Try.ntmps29
  go_wp2_with fail
  refine C.mono ?_
  rintro e w1 ⟨⟨r, rfl, hr0, hr1, hr⟩, hb1⟩
  have HR := hide hr
  clear hr
  go_wp2
  go_ret
  exact ⟨⟨r, rfl, fun h => by have := HR.out h; omega⟩, HB.out.trans (hb1.mono HB.out.size)⟩

def GivesL (m : Nat) (x : Nd) (w : World) (e : Ending) (w' : World) : Prop := ∃ ok : Bool, e = .returned (.bool ok) ∧ (ok = true → sizeN m x ≤ 3000) ∧ Below w.heap.size w w'
set_option maxHeartbeats 1000000 in
theorem light8 {m n lo : Nat} {x : Nd} {va : Value} {w : World} (hx : NdIn m n lo w x va) : Calls Try.prog 8 #[va] w fun e w' => GivesL m x w e w' := by
  have hxx := hx
  obtain ⟨m', hm', a1, c1, a2, c2, ak, ck, rfl, hA, hl, hs, hK⟩ := hx.letters
  have X0 := box7_new w x.kind x.op x.name (.slice a1 x.lit.shape.length c1) (.slice a2 x.lit.cells.length c2) (.slice ak x.kids.length ck) x.pos
  have C := weight29 (hxx.next X0.1)
  have HB := hide X0.1
  clear X0 hxx hA hK hx
  generalize hSZ : (sizeN m x ≤ 3000) = SZ at *
  have HSZ := hide hSZ
  clear hSZ
  generalize x.kids.length = LK at *
  generalize x.kind = K at *
  generalize x.op = O at *
  generalize x.name = S at *
  generalize x.pos = P at *
  generalize x.lit.shape.length = L1 at *
  generalize x.lit.cells.length = L2 at *
  go_enter Try.func8, Try.ntmps8
  go_wp2_with fail
  refine C.mono ?_
  rintro e w1 ⟨⟨r, rfl, hr⟩, hb1⟩
  have HR := hide hr
  have HB1 := hide (HB.out.trans (hb1.mono HB.out.size))
  clear hr hb1 C
  go_wp2
  go_ret
  exact ⟨decide (r ≤ 3000), rfl, (fun h => by rw [HSZ.out]; exact HR.out (of_decide_eq_true h)), HB1.out⟩
end Go.Proofs.Ytkgpoibnilgaeaa
