/-
  The contract of the document's Cell of layer 4 (a function of two cells); for all cells of 64 bits.
-/
import Derived.Test.YtkigfmfegldhcaaDoorAtL
namespace Go.Proofs.YtkigfmfegldhcaaDoor
open Go.ChangeShapes Go.WideShapes Go.ChangeAt Go.RowKit
open Num (resV resE In64 sgnI absI)
set_option linter.unusedVariables false
set_option maxRecDepth 20000 in
set_option maxHeartbeats 4000000 in
theorem rcell2_any (op k1 n1 k2 n2 : Int) (a b : Option Addr) (na ca nb cb : Nat) (c d : Ce) (hc : c.1 = k1 ∧ c.2.1 = n1) (hd : d.1 = k2 ∧ d.2.1 = n2) (h1 : In64 n1) (h2 : In64 n2) (w : World) :
    Calls Tryd.prog 15 #[.int .i64 op, .agg #[.int .i64 k1, .int .i64 n1, .slice a na ca], .agg #[.int .i64 k2, .int .i64 n2, .slice b nb cb]] w fun r w' => r = .returned (.tuple #[.agg #[.int .i64 0, .int .i64 (c2V op c d), .slice none 0 0], .int .i64 (c2E op c d)]) ∧ Below w.heap.size w w' := by
  by_cases hop : isOp op = true
  case neg =>
    have hop' : isOp op = false := by simpa using hop
    have eV : c2V op c d = 0 := by simp [c2V, hop']
    have eE : c2E op c d = 1 := by simp [c2E, hop']
    have hr : ¬ (21 ≤ op ∧ op ≤ 32) := by simpa [isOp] using hop'
    rw [eV, eE]
    clear eV eE hop hop' hc hd h1 h2
    by_cases hlo : op < 21
    · go_enter Tryd.func15, Tryd.ntmps15
      go_wp2
      exact bodyPost_ret (v := .tuple #[.agg #[.int .i64 0, .int .i64 0, .slice none 0 0], .int .i64 1]) (by simp [results, Tryd.results15, go_sem]) rfl ⟨rfl, three_allocs _ _ _ _⟩
    · have hhi : 32 < op := by omega
      go_enter Tryd.func15, Tryd.ntmps15
      go_wp2
      exact bodyPost_ret (v := .tuple #[.agg #[.int .i64 0, .int .i64 0, .slice none 0 0], .int .i64 1]) (by simp [results, Tryd.results15, go_sem]) rfl ⟨rfl, three_allocs _ _ _ _⟩
  case pos =>
  have hrg : 21 ≤ op ∧ op ≤ 32 := by simpa [isOp] using hop
  have eV : c2V op c d = if op = 27 ∨ op = 28 then eqV op c d else if c.1 = 0 ∧ d.1 = 0 then twoV op c.2.1 d.2.1 else 0 := by simp [c2V, hop]
  have eE : c2E op c d = if op = 27 ∨ op = 28 then eqE c d else if c.1 = 0 ∧ d.1 = 0 then twoE op c.2.1 d.2.1 else 5 := by simp [c2E, hop]
  rw [eV, eE]
  clear eV eE hop
  by_cases heq : op = 27 ∨ op = 28
  · rw [if_pos heq, if_pos heq]
    unfold eqV eqE
    rw [hc.1, hd.1, hc.2, hd.2]
    clear hc hd h1 h2 hrg
    by_cases hbx : k1 = 2 ∨ k2 = 2
    · rw [if_pos hbx, if_pos hbx]
      by_cases hk : k1 = 2
      · subst hk
        rcases heq with rfl | rfl
        all_goals
          go_enter Tryd.func15, Tryd.ntmps15
          go_wp2
          exact bodyPost_ret (v := .tuple #[.agg #[.int .i64 0, .int .i64 0, .slice none 0 0], .int .i64 5]) (by simp [results, Tryd.results15, go_sem]) rfl ⟨rfl, three_allocs _ _ _ _⟩
      · have hk2 : k2 = 2 := by omega
        subst hk2
        clear hbx
        rcases heq with rfl | rfl
        all_goals
          go_enter Tryd.func15, Tryd.ntmps15
          go_wp2
          exact bodyPost_ret (v := .tuple #[.agg #[.int .i64 0, .int .i64 0, .slice none 0 0], .int .i64 5]) (by simp [results, Tryd.results15, go_sem]) rfl ⟨rfl, three_allocs _ _ _ _⟩
    · rw [if_neg hbx, if_neg hbx]
      have g1 : (k1 == 2) = false := beq_eq_false_iff_ne.2 fun h => hbx (Or.inl h)
      have g2 : (k2 == 2) = false := beq_eq_false_iff_ne.2 fun h => hbx (Or.inr h)
      clear hbx
      have CT := hide (fun b W => rtruth_any b W)
      by_cases hk : k1 = k2
      · subst hk
        by_cases hn : n1 = n2
        · subst hn
          rcases heq with rfl | rfl
          · have e : (if (27 : Int) = 27 then tr (decide (k1 = k1 ∧ n1 = n1)) else tr (!decide (k1 = k1 ∧ n1 = n1))) = 1 := by simp [tr]
            rw [e]
            clear e
            have C : Hid (∀ W : World, Calls Tryd.prog 38 #[.bool true] W fun r w' => r = .returned (.agg #[.int .i64 0, .int .i64 1, .slice none 0 0]) ∧ Below W.heap.size W w') := fun W => CT.out _ W
            clear CT
            go_enter Tryd.func15, Tryd.ntmps15
            go_wp2_with fail
            refine (C.out _).mono ?_
            rintro e w1 ⟨rfl, hb1⟩
            obtain ⟨hcl, hf⟩ := Num.bcell hb1
            go_wp2
            exact bodyPost_ret (v := .tuple #[.agg #[.int .i64 0, .int .i64 1, .slice none 0 0], .int .i64 0]) (by simp [results, Tryd.results15, go_sem, hcl]) rfl ⟨rfl, below_set3 (after3 hb1) (by omega)⟩
          · have e : (if (28 : Int) = 27 then tr (decide (k1 = k1 ∧ n1 = n1)) else tr (!decide (k1 = k1 ∧ n1 = n1))) = 0 := by simp [tr]
            rw [e]
            clear e
            have C : Hid (∀ W : World, Calls Tryd.prog 38 #[.bool false] W fun r w' => r = .returned (.agg #[.int .i64 0, .int .i64 0, .slice none 0 0]) ∧ Below W.heap.size W w') := fun W => CT.out _ W
            clear CT
            go_enter Tryd.func15, Tryd.ntmps15
            go_wp2_with fail
            refine (C.out _).mono ?_
            rintro e w1 ⟨rfl, hb1⟩
            obtain ⟨hcl, hf⟩ := Num.bcell hb1
            go_wp2
            exact bodyPost_ret (v := .tuple #[.agg #[.int .i64 0, .int .i64 0, .slice none 0 0], .int .i64 0]) (by simp [results, Tryd.results15, go_sem, hcl]) rfl ⟨rfl, below_set3 (after3 hb1) (by omega)⟩
        · have gn : (n1 == n2) = false := beq_eq_false_iff_ne.2 hn
          rcases heq with rfl | rfl
          · have e : (if (27 : Int) = 27 then tr (decide (k1 = k1 ∧ n1 = n2)) else tr (!decide (k1 = k1 ∧ n1 = n2))) = 0 := by simp [tr, hn]
            rw [e]
            clear e hn
            have C : Hid (∀ W : World, Calls Tryd.prog 38 #[.bool false] W fun r w' => r = .returned (.agg #[.int .i64 0, .int .i64 0, .slice none 0 0]) ∧ Below W.heap.size W w') := fun W => CT.out _ W
            clear CT
            go_enter Tryd.func15, Tryd.ntmps15
            go_wp2_with fail
            refine (C.out _).mono ?_
            rintro e w1 ⟨rfl, hb1⟩
            obtain ⟨hcl, hf⟩ := Num.bcell hb1
            go_wp2
            exact bodyPost_ret (v := .tuple #[.agg #[.int .i64 0, .int .i64 0, .slice none 0 0], .int .i64 0]) (by simp [results, Tryd.results15, go_sem, hcl]) rfl ⟨rfl, below_set3 (after3 hb1) (by omega)⟩
          · have e : (if (28 : Int) = 27 then tr (decide (k1 = k1 ∧ n1 = n2)) else tr (!decide (k1 = k1 ∧ n1 = n2))) = 1 := by simp [tr, hn]
            rw [e]
            clear e hn
            have C : Hid (∀ W : World, Calls Tryd.prog 38 #[.bool true] W fun r w' => r = .returned (.agg #[.int .i64 0, .int .i64 1, .slice none 0 0]) ∧ Below W.heap.size W w') := fun W => CT.out _ W
            clear CT
            go_enter Tryd.func15, Tryd.ntmps15
            go_wp2_with fail
            refine (C.out _).mono ?_
            rintro e w1 ⟨rfl, hb1⟩
            obtain ⟨hcl, hf⟩ := Num.bcell hb1
            go_wp2
            exact bodyPost_ret (v := .tuple #[.agg #[.int .i64 0, .int .i64 1, .slice none 0 0], .int .i64 0]) (by simp [results, Tryd.results15, go_sem, hcl]) rfl ⟨rfl, below_set3 (after3 hb1) (by omega)⟩
      · have gk : (k1 == k2) = false := beq_eq_false_iff_ne.2 hk
        rcases heq with rfl | rfl
        · have e : (if (27 : Int) = 27 then tr (decide (k1 = k2 ∧ n1 = n2)) else tr (!decide (k1 = k2 ∧ n1 = n2))) = 0 := by simp [tr, hk]
          rw [e]
          clear e hk
          have C : Hid (∀ W : World, Calls Tryd.prog 38 #[.bool false] W fun r w' => r = .returned (.agg #[.int .i64 0, .int .i64 0, .slice none 0 0]) ∧ Below W.heap.size W w') := fun W => CT.out _ W
          clear CT
          go_enter Tryd.func15, Tryd.ntmps15
          go_wp2_with fail
          refine (C.out _).mono ?_
          rintro e w1 ⟨rfl, hb1⟩
          obtain ⟨hcl, hf⟩ := Num.bcell hb1
          go_wp2
          exact bodyPost_ret (v := .tuple #[.agg #[.int .i64 0, .int .i64 0, .slice none 0 0], .int .i64 0]) (by simp [results, Tryd.results15, go_sem, hcl]) rfl ⟨rfl, below_set3 (after3 hb1) (by omega)⟩
        · have e : (if (28 : Int) = 27 then tr (decide (k1 = k2 ∧ n1 = n2)) else tr (!decide (k1 = k2 ∧ n1 = n2))) = 1 := by simp [tr, hk]
          rw [e]
          clear e hk
          have C : Hid (∀ W : World, Calls Tryd.prog 38 #[.bool true] W fun r w' => r = .returned (.agg #[.int .i64 0, .int .i64 1, .slice none 0 0]) ∧ Below W.heap.size W w') := fun W => CT.out _ W
          clear CT
          go_enter Tryd.func15, Tryd.ntmps15
          go_wp2_with fail
          refine (C.out _).mono ?_
          rintro e w1 ⟨rfl, hb1⟩
          obtain ⟨hcl, hf⟩ := Num.bcell hb1
          go_wp2
          exact bodyPost_ret (v := .tuple #[.agg #[.int .i64 0, .int .i64 1, .slice none 0 0], .int .i64 0]) (by simp [results, Tryd.results15, go_sem, hcl]) rfl ⟨rfl, below_set3 (after3 hb1) (by omega)⟩
  · rw [if_neg heq, if_neg heq]
    by_cases hk : c.1 = 0 ∧ d.1 = 0
    · rw [if_pos hk, if_pos hk, hc.2, hd.2]
      obtain ⟨e1, e2⟩ := hk
      obtain rfl : k1 = 0 := hc.1.symm.trans e1
      obtain rfl : k2 = 0 := hd.1.symm.trans e2
      exact rcellN_any op n1 n2 a b na ca nb cb h1 h2 (by omega) w
    · rw [if_neg hk, if_neg hk]
      rw [hc.1, hd.1] at hk
      have g1 : (op == 27) = false := beq_eq_false_iff_ne.2 fun h => heq (Or.inl h)
      have g2 : (op == 28) = false := beq_eq_false_iff_ne.2 fun h => heq (Or.inr h)
      obtain ⟨r1, r2⟩ := hrg
      clear hc hd h1 h2 heq
      by_cases hk1 : k1 = 0
      · subst hk1
        have hk2 : (k2 == 0) = false := beq_eq_false_iff_ne.2 fun h => hk ⟨rfl, h⟩
        clear hk
        go_enter Tryd.func15, Tryd.ntmps15
        go_wp2
        exact bodyPost_ret (v := .tuple #[.agg #[.int .i64 0, .int .i64 0, .slice none 0 0], .int .i64 5]) (by simp [results, Tryd.results15, go_sem]) rfl ⟨rfl, three_allocs _ _ _ _⟩
      · have hk1' : (k1 == 0) = false := beq_eq_false_iff_ne.2 hk1
        clear hk
        go_enter Tryd.func15, Tryd.ntmps15
        go_wp2
        exact bodyPost_ret (v := .tuple #[.agg #[.int .i64 0, .int .i64 0, .slice none 0 0], .int .i64 5]) (by simp [results, Tryd.results15, go_sem]) rfl ⟨rfl, three_allocs _ _ _ _⟩
end Go.Proofs.YtkigfmfegldhcaaDoor
