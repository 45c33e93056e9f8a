/-
  The contract of layer 4's Cell (a function of two cells), and what it calls; for all cells of 64 bits, the table of layer 4 in its place.
-/
import Derived.Test.YtkigfmfegldhcaaDoorAtB
namespace Go.Proofs.YtkigfmfegldhcaaDoor
open Go.ChangeShapes Go.WideShapes Go.ChangeAt Go.RowKit
open Num (resV resE In64 sgnI absI)
set_option linter.unusedVariables false
def ordC (c d : Ce) : Int := if cmp3 c.1 d.1 ≠ 0 then cmp3 c.1 d.1 else cmp3 c.2.1 d.2.1
theorem cmp3_rng (a b : Int) : -1 ≤ cmp3 a b ∧ cmp3 a b ≤ 1 := by unfold cmp3; split <;> (try split) <;> omega
theorem ordC_rng (c d : Ce) : -1 ≤ ordC c d ∧ ordC c d ≤ 1 := by
  unfold ordC
  split
  · exact cmp3_rng _ _
  · exact cmp3_rng _ _
theorem ordC_zero (c d : Ce) : ordC c d = 0 ↔ c.1 = d.1 ∧ c.2.1 = d.2.1 := by
  unfold ordC
  by_cases h : c.1 = d.1
  · rw [h, cmp3_self, if_neg (by simp)]
    constructor
    · intro h'
      exact ⟨rfl, Decidable.byContradiction fun hn => cmp3_ne.2 hn h'⟩
    · rintro ⟨-, h'⟩
      rw [h']; exact cmp3_self _
  · rw [if_pos (cmp3_ne.2 h)]
    constructor
    · intro h'; exact absurd h' (cmp3_ne.2 h)
    · rintro ⟨h', -⟩; exact absurd h' h
theorem ans_eq (op : Int) (c d : Ce) (h : op = 27 ∨ op = 28) (hb : ¬ (c.1 = 2 ∨ d.1 = 2)) : ansV op (ordC c d) = eqV op c d := by
  unfold ansV eqV
  rw [if_neg hb]
  have hz := ordC_zero c d
  rcases h with rfl | rfl
  · rw [if_pos rfl, if_pos rfl]
    congr 1
    exact decide_eq_decide.2 hz
  · rw [if_neg (by decide), if_pos rfl, if_neg (by decide)]
    congr 1
    rw [← decide_not]
    exact decide_eq_decide.2 (not_congr hz)
theorem ans_two (op a b : Int) (h : op = 29 ∨ op = 30 ∨ op = 31 ∨ op = 32) : ansV op (cmp3 a b) = twoV op a b := by
  have hc : (a < b ∧ cmp3 a b = -1) ∨ (b < a ∧ cmp3 a b = 1) ∨ (a = b ∧ cmp3 a b = 0) := by
    unfold cmp3
    split
    · left; exact ⟨‹_›, rfl⟩
    · split
      · right; left; exact ⟨‹_›, rfl⟩
      · right; right; exact ⟨by omega, rfl⟩
  unfold ansV twoV
  rcases h with rfl | rfl | rfl | rfl <;> simp <;> congr 1 <;> apply decide_eq_decide.2 <;> rcases hc with ⟨h1, h2⟩ | ⟨h1, h2⟩ | ⟨h1, h2⟩ <;> rw [h2] <;> constructor <;> intro h <;> omega
set_option maxHeartbeats 400000 in
theorem order_any (k1 n1 k2 n2 : Int) (a b : Option Addr) (na ca nb cb : Nat) (c d : Ce) (hc : c.1 = k1 ∧ c.2.1 = n1) (hd : d.1 = k2 ∧ d.2.1 = n2) (w : World) :
    Calls Tryd.prog 36 #[.agg #[.int .i64 k1, .int .i64 n1, .slice a na ca], .agg #[.int .i64 k2, .int .i64 n2, .slice b nb cb]] w fun e w' => e = .returned (.int .i64 (ordC c d)) ∧ Below w.heap.size w w' := by
  unfold ordC
  rw [hc.1, hc.2, hd.1, hd.2]
  clear hc hd
  have C1 := hide (fun w => compare_any k1 k2 w)
  have C2 := hide (fun w => compare64_any n1 n2 w)
  generalize cmp3 k1 k2 = u at *
  generalize cmp3 n1 n2 = v at *
  by_cases h : u = 0
  · subst h
    rw [if_neg (by simp)]
    go_enter Tryd.func36, Tryd.ntmps36
    go_wp2_with fail
    refine (C1.out _).mono ?_
    rintro e w1 ⟨rfl, hw⟩
    rw [hw]
    clear hw
    go_wp2_with fail
    refine (C2.out _).mono ?_
    rintro e w1 ⟨rfl, hw⟩
    rw [hw]
    clear hw
    go_wp2
    go_ret
    exact ⟨rfl, two_allocs _ _ _⟩
  · rw [if_pos h]
    go_enter Tryd.func36, Tryd.ntmps36
    go_wp2_with fail
    refine (C1.out _).mono ?_
    rintro e w1 ⟨rfl, hw⟩
    rw [hw]
    clear hw
    go_wp2
    go_ret
    exact ⟨rfl, two_allocs _ _ _⟩
set_option maxHeartbeats 2000000 in
theorem ofTwo_any (op a b : Int) (h : op = 21 ∨ op = 22 ∨ op = 23 ∨ op = 24 ∨ op = 25 ∨ op = 26 ∨ op = 29 ∨ op = 30 ∨ op = 31 ∨ op = 32) (ha : In64 a) (hb : In64 b) (w : World) (T : Tab w) :
    Calls Tryd.prog 37 #[.int .i64 op, .int .i64 a, .int .i64 b] w fun e w' => e = .returned (.tuple #[.int .i64 (twoV op a b), .int .i64 (twoE op a b)]) ∧ w' = w := by
  rcases h with rfl | rfl | rfl | rfl | rfl | rfl | h
  · have eV : twoV 21 a b = resV (a + b) := by simp [twoV]
    have eE : twoE 21 a b = resE (a + b) := by simp [twoE]
    rw [eV, eE]
    clear eV eE
    have C := hide (Num.add_any a b ha hb w)
    generalize resV (a + b) = v at *
    generalize resE (a + b) = u at *
    clear ha hb T
    go_enter Tryd.func37, Tryd.ntmps37
    go_wp2_with fail
    refine C.out.mono ?_
    rintro e w1 ⟨rfl, rfl⟩
    go_wp2
    go_ret2
    exact ⟨rfl, rfl⟩
  · have eV : twoV 22 a b = resV (a - b) := by simp [twoV]
    have eE : twoE 22 a b = resE (a - b) := by simp [twoE]
    rw [eV, eE]
    clear eV eE
    have C := hide (Num.sub_any a b ha hb w)
    generalize resV (a - b) = v at *
    generalize resE (a - b) = u at *
    clear ha hb T
    go_enter Tryd.func37, Tryd.ntmps37
    go_wp2_with fail
    refine C.out.mono ?_
    rintro e w1 ⟨rfl, rfl⟩
    go_wp2
    go_ret2
    exact ⟨rfl, rfl⟩
  · have eV : twoV 23 a b = resV (a * b) := by simp [twoV]
    have eE : twoE 23 a b = resE (a * b) := by simp [twoE]
    rw [eV, eE]
    clear eV eE
    have C := hide (Num.mul_any a b ha hb w)
    generalize resV (a * b) = v at *
    generalize resE (a * b) = u at *
    clear ha hb T
    go_enter Tryd.func37, Tryd.ntmps37
    go_wp2_with fail
    refine C.out.mono ?_
    rintro e w1 ⟨rfl, rfl⟩
    go_wp2
    go_ret2
    exact ⟨rfl, rfl⟩
  · have eV : twoV 24 a b = min a b := by simp [twoV]
    have eE : twoE 24 a b = 0 := by simp [twoE]
    rw [eV, eE, min_if]
    clear eV eE ha hb T
    by_cases h : b < a
    · rw [if_pos h]
      go_enter Tryd.func37, Tryd.ntmps37
      go_wp2
      go_ret2
      exact ⟨rfl, rfl⟩
    · rw [if_neg h]
      go_enter Tryd.func37, Tryd.ntmps37
      go_wp2
      go_ret2
      exact ⟨rfl, rfl⟩
  · have eV : twoV 25 a b = max a b := by simp [twoV]
    have eE : twoE 25 a b = 0 := by simp [twoE]
    rw [eV, eE, max_if]
    clear eV eE ha hb T
    by_cases h : a < b
    · rw [if_pos h]
      go_enter Tryd.func37, Tryd.ntmps37
      go_wp2
      go_ret2
      exact ⟨rfl, rfl⟩
    · rw [if_neg h]
      go_enter Tryd.func37, Tryd.ntmps37
      go_wp2
      go_ret2
      exact ⟨rfl, rfl⟩
  · have eV : twoV 26 a b = b.fmod a := by simp [twoV]
    have eE : twoE 26 a b = 0 := by simp [twoE]
    rw [eV, eE]
    clear eV eE
    have C := hide (Num.res_any a b ha w)
    generalize b.fmod a = v at *
    clear ha hb T
    go_enter Tryd.func37, Tryd.ntmps37
    go_wp2_with fail
    refine C.out.mono ?_
    rintro e w1 ⟨rfl, rfl⟩
    go_wp2
    go_ret2
    exact ⟨rfl, rfl⟩
  · have C1 := hide (compare64_any a b w)
    have hr := cmp3_rng a b
    have C2 := hide (answer_any op (cmp3 a b) (by omega) (by omega) hr.1 hr.2 w T)
    have eE : twoE op a b = 0 := by rcases h with rfl | rfl | rfl | rfl <;> simp [twoE]
    rw [← ans_two op a b h, eE]
    generalize ansV op (cmp3 a b) = v at *
    generalize cmp3 a b = u at *
    clear eE ha hb T hr
    rcases h with rfl | rfl | rfl | rfl
    all_goals
      go_enter Tryd.func37, Tryd.ntmps37
      go_wp2_with fail
      refine C1.out.mono ?_
      rintro e w1 ⟨rfl, hw⟩
      rw [hw]
      clear hw
      go_wp2_with fail
      refine C2.out.mono ?_
      rintro e w1 ⟨rfl, hw⟩
      rw [hw]
      clear hw
      go_wp2
      go_ret2
      exact ⟨rfl, rfl⟩
set_option maxHeartbeats 2000000 in
theorem cell2_any (op k1 n1 k2 n2 : Int) (a b : Option Addr) (na ca nb cb : Nat) (c d : Ce) (hc : c.1 = k1 ∧ c.2.1 = n1) (hd : d.1 = k2 ∧ d.2.1 = n2) (h1 : In64 n1) (h2 : In64 n2) (w : World) (T : Tab w) :
    Calls Tryd.prog 14 #[.int .i64 op, .agg #[.int .i64 k1, .int .i64 n1, .slice a na ca], .agg #[.int .i64 k2, .int .i64 n2, .slice b nb cb]] w fun r w' => r = .returned (.tuple #[.agg #[.int .i64 0, .int .i64 (c2V op c d), .slice none 0 0], .int .i64 (c2E op c d)]) ∧ Below w.heap.size w w' := by
  have CI := hide (fun w => is_any op w)
  by_cases hop : isOp op = false
  · have eV : c2V op c d = 0 := by simp [c2V, hop]
    have eE : c2E op c d = 1 := by simp [c2E, hop]
    rw [eV, eE]
    rw [hop] at CI
    clear eV eE hop hc hd h1 h2 T
    go_enter Tryd.func14, Tryd.ntmps14
    go_wp2_with fail
    refine (CI.out _).mono ?_
    rintro e w1 ⟨rfl, hw⟩
    rw [hw]
    clear hw
    go_wp2
    exact bodyPost_ret (v := .tuple #[.agg #[.int .i64 0, .int .i64 0, .slice none 0 0], .int .i64 1]) (by simp [results, Tryd.results14, go_sem]) rfl ⟨rfl, three_allocs _ _ _ _⟩
  · have hop' : isOp op = true := by simpa using hop
    have hrg : 21 ≤ op ∧ op ≤ 32 := by simpa [isOp] using hop'
    have eV : c2V op c d = if op = 27 ∨ op = 28 then eqV op c d else if c.1 = 0 ∧ d.1 = 0 then twoV op c.2.1 d.2.1 else 0 := by simp [c2V, hop']
    have eE : c2E op c d = if op = 27 ∨ op = 28 then eqE c d else if c.1 = 0 ∧ d.1 = 0 then twoE op c.2.1 d.2.1 else 5 := by simp [c2E, hop']
    rw [eV, eE]
    rw [hop'] at CI
    clear eV eE hop hop'
    have HT := hide (fun (W : World) (hb : Below w.heap.size w W) => T.next hb)
    clear T
    by_cases heq : op = 27 ∨ op = 28
    · rw [if_pos heq, if_pos heq]
      by_cases hbx : c.1 = 2 ∨ d.1 = 2
      · have e1 : eqV op c d = 0 := by simp [eqV, hbx]
        have e2 : eqE c d = 5 := by simp [eqE, hbx]
        rw [e1, e2]
        rw [hc.1, hd.1] at hbx
        clear e1 e2 hc hd h1 h2 hrg HT
        by_cases hk : k1 = 2
        · subst hk
          rcases heq with rfl | rfl
          all_goals
            go_enter Tryd.func14, Tryd.ntmps14
            go_wp2_with fail
            refine (CI.out _).mono ?_
            rintro e w1 ⟨rfl, hw⟩
            rw [hw]
            clear hw
            go_wp2
            exact bodyPost_ret (v := .tuple #[.agg #[.int .i64 0, .int .i64 0, .slice none 0 0], .int .i64 5]) (by simp [results, Tryd.results14, go_sem]) rfl ⟨rfl, three_allocs _ _ _ _⟩
        · have hk2 : k2 = 2 := by omega
          subst hk2
          clear hbx
          rcases heq with rfl | rfl
          all_goals
            go_enter Tryd.func14, Tryd.ntmps14
            go_wp2_with fail
            refine (CI.out _).mono ?_
            rintro e w1 ⟨rfl, hw⟩
            rw [hw]
            clear hw
            go_wp2
            exact bodyPost_ret (v := .tuple #[.agg #[.int .i64 0, .int .i64 0, .slice none 0 0], .int .i64 5]) (by simp [results, Tryd.results14, go_sem]) rfl ⟨rfl, three_allocs _ _ _ _⟩
      · have e2 : eqE c d = 0 := by simp [eqE, hbx]
        rw [e2, ← ans_eq op c d heq hbx]
        rw [hc.1, hd.1] at hbx
        have hr := ordC_rng c d
        have CO := hide (fun w => order_any k1 n1 k2 n2 a b na ca nb cb c d hc hd w)
        have CA := hide (fun w T => answer_any op (ordC c d) (by omega) (by omega) hr.1 hr.2 w T)
        generalize ansV op (ordC c d) = v at *
        generalize ordC c d = u at *
        have g1 : (k1 == 2) = false := beq_eq_false_iff_ne.2 fun h => hbx (Or.inl h)
        have g2 : (k2 == 2) = false := beq_eq_false_iff_ne.2 fun h => hbx (Or.inr h)
        clear e2 hc hd h1 h2 hrg hbx hr
        rcases heq with rfl | rfl
        all_goals
          go_enter Tryd.func14, Tryd.ntmps14
          go_wp2_with fail
          refine (CI.out _).mono ?_
          rintro e w1 ⟨rfl, hw⟩
          rw [hw]
          clear hw
          go_wp2_with fail
          refine (CO.out _).mono ?_
          rintro e w2 ⟨rfl, hb2⟩
          have T2 := HT.out w2 (after3 hb2)
          obtain ⟨hcl, hfz⟩ := Num.bcell hb2
          go_wp2_with fail
          refine (CA.out _ T2).mono ?_
          rintro e w3 ⟨rfl, hw⟩
          rw [hw]
          clear hw
          go_wp2_with fail
          refine (number_any _ _ _ (fun h => absurd rfl h)).mono ?_
          rintro e w4 ⟨rfl, hb4⟩
          have B4 := (after3 hb2).trans (hb4.mono (after3 hb2).size)
          have hb24 := hb2.trans (hb4.mono hb2.size)
          clear hcl hfz T2
          obtain ⟨hcl, hfz⟩ := Num.bcell hb24
          go_wp2
          exact bodyPost_ret (v := .tuple #[.agg #[.int .i64 0, .int .i64 v, .slice none 0 0], .int .i64 0]) (by simp [results, Tryd.results14, go_sem, hcl]) rfl ⟨rfl, below_set3 B4 (by omega)⟩
    · rw [if_neg heq, if_neg heq]
      by_cases hk : c.1 = 0 ∧ d.1 = 0
      · rw [if_pos hk, if_pos hk]
        rw [hc.1, hd.1] at hk
        obtain ⟨rfl, rfl⟩ := hk
        rw [hc.2, hd.2]
        have CT := hide (fun w T => ofTwo_any op n1 n2 (by omega) h1 h2 w T)
        have HB := hide (@two_bad op n1 n2)
        generalize twoV op n1 n2 = v at *
        generalize twoE op n1 n2 = u at *
        have g1 : (op == 27) = false := beq_eq_false_iff_ne.2 fun h => heq (Or.inl h)
        have g2 : (op == 28) = false := beq_eq_false_iff_ne.2 fun h => heq (Or.inr h)
        clear hc hd h1 h2 hrg heq
        go_enter Tryd.func14, Tryd.ntmps14
        go_wp2_with fail
        refine (CI.out _).mono ?_
        rintro e w1 ⟨rfl, hw⟩
        rw [hw]
        clear hw
        go_wp2_with fail
        refine (CT.out _ (HT.out _ (three_allocs _ _ _ _))).mono ?_
        rintro e w3 ⟨rfl, hw⟩
        rw [hw]
        clear hw
        go_wp2_with fail
        refine (number_any _ _ _ HB.out).mono ?_
        rintro e w4 ⟨rfl, hb4⟩
        have B4 := after3 hb4
        obtain ⟨hcl, hfz⟩ := Num.bcell hb4
        go_wp2
        exact bodyPost_ret (v := .tuple #[.agg #[.int .i64 0, .int .i64 v, .slice none 0 0], .int .i64 u]) (by simp [results, Tryd.results14, go_sem, hcl]) rfl ⟨rfl, below_set3 B4 (by omega)⟩
      · rw [if_neg hk, if_neg hk]
        rw [hc.1, hd.1] at hk
        have g1 : (op == 27) = false := beq_eq_false_iff_ne.2 fun h => heq (Or.inl h)
        have g2 : (op == 28) = false := beq_eq_false_iff_ne.2 fun h => heq (Or.inr h)
        clear hc hd h1 h2 hrg heq HT
        by_cases hk1 : k1 = 0
        · subst hk1
          have hk2 : ¬ k2 = 0 := fun h => hk ⟨rfl, h⟩
          clear hk
          go_enter Tryd.func14, Tryd.ntmps14
          go_wp2_with fail
          refine (CI.out _).mono ?_
          rintro e w1 ⟨rfl, hw⟩
          rw [hw]
          clear hw
          go_wp2
          exact bodyPost_ret (v := .tuple #[.agg #[.int .i64 0, .int .i64 0, .slice none 0 0], .int .i64 5]) (by simp [results, Tryd.results14, go_sem]) rfl ⟨rfl, three_allocs _ _ _ _⟩
        · clear hk
          go_enter Tryd.func14, Tryd.ntmps14
          go_wp2_with fail
          refine (CI.out _).mono ?_
          rintro e w1 ⟨rfl, hw⟩
          rw [hw]
          clear hw
          go_wp2
          exact bodyPost_ret (v := .tuple #[.agg #[.int .i64 0, .int .i64 0, .slice none 0 0], .int .i64 5]) (by simp [results, Tryd.results14, go_sem]) rfl ⟨rfl, three_allocs _ _ _ _⟩
end Go.Proofs.YtkigfmfegldhcaaDoor
