/-
  The contracts of the document's answer for layer 4: a function of one cell, of two cells; for all cells of 64 bits.
-/
import Derived.Test.YtkigfmfegldhcaaDoorAtC
namespace Go.Proofs.YtkigfmfegldhcaaDoor
open Go.ChangeShapes Go.WideShapes Go.ChangeAt Go.RowKit
open Num (resV resE In64 sgnI absI)
set_option linter.unusedVariables false
theorem rtruth_any (b : Bool) (w : World) : Calls Tryd.prog 38 #[.bool b] w fun r w' => r = .returned (.agg #[.int .i64 0, .int .i64 (tr b), .slice none 0 0]) ∧ Below w.heap.size w w' := by
  cases b with
  | true =>
    go_enter Tryd.func38, Tryd.ntmps38
    go_wp2
    exact bodyPost_ret (v := .agg #[.int .i64 0, .int .i64 1, .slice none 0 0]) (by simp [results, Tryd.results38, go_sem]) rfl ⟨rfl, one_alloc _ _⟩
  | false =>
    go_enter Tryd.func38, Tryd.ntmps38
    go_wp2
    exact bodyPost_ret (v := .agg #[.int .i64 0, .int .i64 0, .slice none 0 0]) (by simp [results, Tryd.results38, go_sem]) rfl ⟨rfl, one_alloc _ _⟩
set_option maxHeartbeats 2000000 in
theorem rone_any (op k n : Int) (ab : Option Addr) (nb cb : Nat) (hn : In64 n) (c : Ce) (hc : c.1 = k ∧ c.2.1 = n) (w : World) :
    Calls Tryd.prog 32 #[.int .i64 op, .agg #[.int .i64 k, .int .i64 n, .slice ab nb cb]] w fun r w' => r = .returned (.tuple #[.agg #[.int .i64 0, .int .i64 (c1V op c), .slice none 0 0], .int .i64 (c1E op c)]) ∧ Below w.heap.size w w' := by
  obtain ⟨h1, h2⟩ := hc
  unfold c1V c1E
  rw [h1, h2]
  clear h1 h2
  by_cases h : k = 0
  case neg =>
    rw [if_neg h, if_neg h]
    have hk : (k == 0) = false := beq_eq_false_iff_ne.2 h
    clear h hn
    go_enter Tryd.func32, Tryd.ntmps32
    go_wp2
    exact bodyPost_ret (v := .tuple #[.agg #[.int .i64 0, .int .i64 0, .slice none 0 0], .int .i64 5]) (by simp [results, Tryd.results32, go_sem]) rfl ⟨rfl, two_allocs _ _ _⟩
  case pos =>
  rw [if_pos h, if_pos h]
  subst h
  have C1 := hide (fun W => Num.rsub_any 0 n ⟨by decide, by decide⟩ hn W)
  rw [show (0 : Int) - n = -n by omega] at C1
  have C2 := hide (fun W => Num.rsgn_any n W)
  have C3 := hide (fun W => Num.rabs_any n hn W)
  unfold oneV oneE
  clear hn
  by_cases o1 : op = 1
  case pos =>
    subst o1
    rw [if_pos rfl, if_pos rfl]
    generalize resV (-n) = v at *
    generalize resE (-n) = u at *
    go_enter Tryd.func32, Tryd.ntmps32
    go_wp2_with fail
    refine (C1.out _).mono ?_
    rintro e w1 ⟨rfl, hb1⟩
    obtain ⟨hc, hf⟩ := Num.bcell hb1
    go_wp2
    exact bodyPost_ret (v := .tuple #[.agg #[.int .i64 0, .int .i64 v, .slice none 0 0], .int .i64 u]) (by simp [results, Tryd.results32, go_sem, hc]) rfl ⟨rfl, below_set3 (after2 hb1) (by omega)⟩
  case neg =>
  rw [if_neg o1, if_neg o1]
  have g1 : (op == 1) = false := beq_eq_false_iff_ne.2 o1
  by_cases o2 : op = 2
  case pos =>
    subst o2
    rw [if_pos rfl, if_pos rfl]
    generalize sgnI n = v at *
    go_enter Tryd.func32, Tryd.ntmps32
    go_wp2_with fail
    refine (C2.out _).mono ?_
    rintro e w1 ⟨rfl, hw⟩
    rw [hw]
    clear hw
    go_wp2
    exact bodyPost_ret (v := .tuple #[.agg #[.int .i64 0, .int .i64 v, .slice none 0 0], .int .i64 0]) (by simp [results, Tryd.results32, go_sem]) rfl ⟨rfl, two_allocs _ _ _⟩
  case neg =>
  rw [if_neg o2, if_neg o2]
  have g2 : (op == 2) = false := beq_eq_false_iff_ne.2 o2
  by_cases o3 : op = 3
  case pos =>
    subst o3
    rw [if_pos rfl, if_pos rfl]
    generalize resV (absI n) = v at *
    generalize resE (absI n) = u at *
    go_enter Tryd.func32, Tryd.ntmps32
    go_wp2_with fail
    refine (C3.out _).mono ?_
    rintro e w1 ⟨rfl, hb1⟩
    obtain ⟨hc, hf⟩ := Num.bcell hb1
    go_wp2
    exact bodyPost_ret (v := .tuple #[.agg #[.int .i64 0, .int .i64 v, .slice none 0 0], .int .i64 u]) (by simp [results, Tryd.results32, go_sem, hc]) rfl ⟨rfl, below_set3 (after2 hb1) (by omega)⟩
  case neg =>
  rw [if_neg o3, if_neg o3]
  have g3 : (op == 3) = false := beq_eq_false_iff_ne.2 o3
  clear o1 o2 o3 C1 C2 C3
  by_cases n0 : n = 0
  · subst n0
    go_enter Tryd.func32, Tryd.ntmps32
    go_wp2
    exact bodyPost_ret (v := .tuple #[.agg #[.int .i64 0, .int .i64 1, .slice none 0 0], .int .i64 0]) (by simp [results, Tryd.results32, go_sem]) rfl ⟨rfl, two_allocs _ _ _⟩
  · by_cases n1 : n = 1
    · subst n1
      go_enter Tryd.func32, Tryd.ntmps32
      go_wp2
      exact bodyPost_ret (v := .tuple #[.agg #[.int .i64 0, .int .i64 0, .slice none 0 0], .int .i64 0]) (by simp [results, Tryd.results32, go_sem]) rfl ⟨rfl, two_allocs _ _ _⟩
    · have e1 : notV n = 0 := by simp [notV, n0]
      have e2 : notE n = 5 := by simp [notE, n0, n1]
      rw [e1, e2]
      have k0 : (n == 0) = false := beq_eq_false_iff_ne.2 n0
      have k1 : (n == 1) = false := beq_eq_false_iff_ne.2 n1
      clear e1 e2 n0 n1
      go_enter Tryd.func32, Tryd.ntmps32
      go_wp2
      exact bodyPost_ret (v := .tuple #[.agg #[.int .i64 0, .int .i64 0, .slice none 0 0], .int .i64 5]) (by simp [results, Tryd.results32, go_sem]) rfl ⟨rfl, two_allocs _ _ _⟩
set_option maxHeartbeats 4000000 in
theorem rcellN_any (op n1 n2 : Int) (a b : Option Addr) (na ca nb cb : Nat) (h1 : In64 n1) (h2 : In64 n2) (h : op = 21 ∨ op = 22 ∨ op = 23 ∨ op = 24 ∨ op = 25 ∨ op = 26 ∨ op = 29 ∨ op = 30 ∨ op = 31 ∨ op = 32) (w : World) :
    Calls Tryd.prog 15 #[.int .i64 op, .agg #[.int .i64 0, .int .i64 n1, .slice a na ca], .agg #[.int .i64 0, .int .i64 n2, .slice b nb cb]] w fun r w' => r = .returned (.tuple #[.agg #[.int .i64 0, .int .i64 (twoV op n1 n2), .slice none 0 0], .int .i64 (twoE op n1 n2)]) ∧ Below w.heap.size w w' := by
  rcases h with rfl | rfl | rfl | rfl | rfl | rfl | rfl | rfl | rfl | rfl
  · have eV : twoV 21 n1 n2 = resV (n1 + n2) := by simp [twoV]
    have eE : twoE 21 n1 n2 = resE (n1 + n2) := by simp [twoE]
    rw [eV, eE]
    have C := hide (fun W => Num.radd_any n1 n2 h1 h2 W)
    generalize resV (n1 + n2) = v at *
    generalize resE (n1 + n2) = u at *
    clear h1 h2 eV eE
    go_enter Tryd.func15, Tryd.ntmps15
    go_wp2_with fail
    refine (C.out _).mono ?_
    rintro e w1 ⟨rfl, hb1⟩
    obtain ⟨hc, hf⟩ := Num.bcell hb1
    go_wp2
    exact bodyPost_ret (v := .tuple #[.agg #[.int .i64 0, .int .i64 v, .slice none 0 0], .int .i64 u]) (by simp [results, Tryd.results15, go_sem, hc]) rfl ⟨rfl, below_set3 (after3 hb1) (by omega)⟩
  · have eV : twoV 22 n1 n2 = resV (n1 - n2) := by simp [twoV]
    have eE : twoE 22 n1 n2 = resE (n1 - n2) := by simp [twoE]
    rw [eV, eE]
    have C := hide (fun W => Num.rsub_any n1 n2 h1 h2 W)
    generalize resV (n1 - n2) = v at *
    generalize resE (n1 - n2) = u at *
    clear h1 h2 eV eE
    go_enter Tryd.func15, Tryd.ntmps15
    go_wp2_with fail
    refine (C.out _).mono ?_
    rintro e w1 ⟨rfl, hb1⟩
    obtain ⟨hc, hf⟩ := Num.bcell hb1
    go_wp2
    exact bodyPost_ret (v := .tuple #[.agg #[.int .i64 0, .int .i64 v, .slice none 0 0], .int .i64 u]) (by simp [results, Tryd.results15, go_sem, hc]) rfl ⟨rfl, below_set3 (after3 hb1) (by omega)⟩
  · have eV : twoV 23 n1 n2 = resV (n1 * n2) := by simp [twoV]
    have eE : twoE 23 n1 n2 = resE (n1 * n2) := by simp [twoE]
    rw [eV, eE]
    have C := hide (fun W => Num.rmul_any n1 n2 h1 h2 W)
    generalize resV (n1 * n2) = v at *
    generalize resE (n1 * n2) = u at *
    clear h1 h2 eV eE
    go_enter Tryd.func15, Tryd.ntmps15
    go_wp2_with fail
    refine (C.out _).mono ?_
    rintro e w1 ⟨rfl, hb1⟩
    obtain ⟨hc, hf⟩ := Num.bcell hb1
    go_wp2
    exact bodyPost_ret (v := .tuple #[.agg #[.int .i64 0, .int .i64 v, .slice none 0 0], .int .i64 u]) (by simp [results, Tryd.results15, go_sem, hc]) rfl ⟨rfl, below_set3 (after3 hb1) (by omega)⟩
  · have eV : twoV 24 n1 n2 = min n1 n2 := by simp [twoV]
    have eE : twoE 24 n1 n2 = 0 := by simp [twoE]
    rw [eV, eE, min_if]
    clear h1 h2 eV eE
    by_cases h : n2 < n1
    · rw [if_pos h]
      go_enter Tryd.func15, Tryd.ntmps15
      go_wp2
      exact bodyPost_ret (v := .tuple #[.agg #[.int .i64 0, .int .i64 n2, .slice none 0 0], .int .i64 0]) (by simp [results, Tryd.results15, go_sem]) rfl ⟨rfl, three_allocs _ _ _ _⟩
    · rw [if_neg h]
      go_enter Tryd.func15, Tryd.ntmps15
      go_wp2
      exact bodyPost_ret (v := .tuple #[.agg #[.int .i64 0, .int .i64 n1, .slice none 0 0], .int .i64 0]) (by simp [results, Tryd.results15, go_sem]) rfl ⟨rfl, three_allocs _ _ _ _⟩
  · have eV : twoV 25 n1 n2 = max n1 n2 := by simp [twoV]
    have eE : twoE 25 n1 n2 = 0 := by simp [twoE]
    rw [eV, eE, max_if]
    clear h1 h2 eV eE
    by_cases h : n1 < n2
    · rw [if_pos h]
      go_enter Tryd.func15, Tryd.ntmps15
      go_wp2
      exact bodyPost_ret (v := .tuple #[.agg #[.int .i64 0, .int .i64 n2, .slice none 0 0], .int .i64 0]) (by simp [results, Tryd.results15, go_sem]) rfl ⟨rfl, three_allocs _ _ _ _⟩
    · rw [if_neg h]
      go_enter Tryd.func15, Tryd.ntmps15
      go_wp2
      exact bodyPost_ret (v := .tuple #[.agg #[.int .i64 0, .int .i64 n1, .slice none 0 0], .int .i64 0]) (by simp [results, Tryd.results15, go_sem]) rfl ⟨rfl, three_allocs _ _ _ _⟩
  · have eV : twoV 26 n1 n2 = n2.fmod n1 := by simp [twoV]
    have eE : twoE 26 n1 n2 = 0 := by simp [twoE]
    rw [eV, eE]
    have C := hide (fun W => Num.rres_any n1 n2 h1 W)
    generalize n2.fmod n1 = v at *
    clear h1 h2 eV eE
    go_enter Tryd.func15, Tryd.ntmps15
    go_wp2_with fail
    refine (C.out _).mono ?_
    rintro e w1 ⟨rfl, hw⟩
    rw [hw]
    clear hw
    go_wp2
    exact bodyPost_ret (v := .tuple #[.agg #[.int .i64 0, .int .i64 v, .slice none 0 0], .int .i64 0]) (by simp [results, Tryd.results15, go_sem]) rfl ⟨rfl, three_allocs _ _ _ _⟩
  · have eV : twoV 29 n1 n2 = tr (decide (n1 < n2)) := by simp [twoV]
    have eE : twoE 29 n1 n2 = 0 := by simp [twoE]
    have eT : (decide (n1 < n2)) = (decide (n1 < n2)) := by first | rfl | (rw [← decide_not]; exact decide_eq_decide.2 (by omega))
    rw [eV, eE, eT]
    have C := hide (fun W => rtruth_any (decide (n1 < n2)) W)
    generalize hv : tr (decide (n1 < n2)) = v at *
    clear hv h1 h2 eV eE eT
    go_enter Tryd.func15, Tryd.ntmps15
    go_wp2_with fail
    refine (C.out _).mono ?_
    rintro e w1 ⟨rfl, hb1⟩
    obtain ⟨hc, hf⟩ := Num.bcell hb1
    go_wp2
    exact bodyPost_ret (v := .tuple #[.agg #[.int .i64 0, .int .i64 v, .slice none 0 0], .int .i64 0]) (by simp [results, Tryd.results15, go_sem, hc]) rfl ⟨rfl, below_set3 (after3 hb1) (by omega)⟩
  · have eV : twoV 30 n1 n2 = tr (decide (n2 < n1)) := by simp [twoV]
    have eE : twoE 30 n1 n2 = 0 := by simp [twoE]
    have eT : (decide (n2 < n1)) = (decide (n2 < n1)) := by first | rfl | (rw [← decide_not]; exact decide_eq_decide.2 (by omega))
    rw [eV, eE, eT]
    have C := hide (fun W => rtruth_any (decide (n2 < n1)) W)
    generalize hv : tr (decide (n2 < n1)) = v at *
    clear hv h1 h2 eV eE eT
    go_enter Tryd.func15, Tryd.ntmps15
    go_wp2_with fail
    refine (C.out _).mono ?_
    rintro e w1 ⟨rfl, hb1⟩
    obtain ⟨hc, hf⟩ := Num.bcell hb1
    go_wp2
    exact bodyPost_ret (v := .tuple #[.agg #[.int .i64 0, .int .i64 v, .slice none 0 0], .int .i64 0]) (by simp [results, Tryd.results15, go_sem, hc]) rfl ⟨rfl, below_set3 (after3 hb1) (by omega)⟩
  · have eV : twoV 31 n1 n2 = tr (decide (n1 ≤ n2)) := by simp [twoV]
    have eE : twoE 31 n1 n2 = 0 := by simp [twoE]
    have eT : (decide (n1 ≤ n2)) = (!decide (n2 < n1)) := by first | rfl | (rw [← decide_not]; exact decide_eq_decide.2 (by omega))
    rw [eV, eE, eT]
    have C := hide (fun W => rtruth_any (!decide (n2 < n1)) W)
    generalize hv : tr (!decide (n2 < n1)) = v at *
    clear hv h1 h2 eV eE eT
    go_enter Tryd.func15, Tryd.ntmps15
    go_wp2_with fail
    refine (C.out _).mono ?_
    rintro e w1 ⟨rfl, hb1⟩
    obtain ⟨hc, hf⟩ := Num.bcell hb1
    go_wp2
    exact bodyPost_ret (v := .tuple #[.agg #[.int .i64 0, .int .i64 v, .slice none 0 0], .int .i64 0]) (by simp [results, Tryd.results15, go_sem, hc]) rfl ⟨rfl, below_set3 (after3 hb1) (by omega)⟩
  · have eV : twoV 32 n1 n2 = tr (decide (n2 ≤ n1)) := by simp [twoV]
    have eE : twoE 32 n1 n2 = 0 := by simp [twoE]
    have eT : (decide (n2 ≤ n1)) = (!decide (n1 < n2)) := by first | rfl | (rw [← decide_not]; exact decide_eq_decide.2 (by omega))
    rw [eV, eE, eT]
    have C := hide (fun W => rtruth_any (!decide (n1 < n2)) W)
    generalize hv : tr (!decide (n1 < n2)) = v at *
    clear hv h1 h2 eV eE eT
    go_enter Tryd.func15, Tryd.ntmps15
    go_wp2_with fail
    refine (C.out _).mono ?_
    rintro e w1 ⟨rfl, hb1⟩
    obtain ⟨hc, hf⟩ := Num.bcell hb1
    go_wp2
    exact bodyPost_ret (v := .tuple #[.agg #[.int .i64 0, .int .i64 v, .slice none 0 0], .int .i64 0]) (by simp [results, Tryd.results15, go_sem, hc]) rfl ⟨rfl, below_set3 (after3 hb1) (by omega)⟩
end Go.Proofs.YtkigfmfegldhcaaDoor
