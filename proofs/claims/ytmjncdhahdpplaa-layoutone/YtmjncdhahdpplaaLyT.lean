/-
  What follows of layer 5's answers, more: an array is its cells laid in its shape; what comes of arrays that may be may be; no program is named.
-/
import Derived.Test.YtmjncdhahdpplaaLyS
namespace Go.Proofs.Ytmjncdhahdpplaa
open Go.ChangeShapes Go.WideShapes Go.ChangeAt Go.RowKit
set_option linter.unusedVariables false
set_option maxRecDepth 100000
theorem fine_one {m : Nat} (h : m ≤ 16384) : sizeE [(m : Int)] = 0 ∧ sizeV [(m : Int)] = m ∧ ¬ hasLong [(m : Int)] := by
  have := fine_mk (l := [(m : Int)]) (by simp) (by simp) (Or.inr (by simp [prodL]; omega))
  refine ⟨this.1, by rw [this.2]; simp [prodL], ?_⟩
  rintro ⟨z, hz, hl⟩
  simp at hz
  omega
theorem ravel_chk {r : Nat} {x : Ar} (h : chkA r x = 0) : chkA r (ravelR x) = 0 := by
  obtain ⟨-, c16⟩ := chk_len h
  obtain ⟨f1, f2, f3⟩ := fine_one c16
  exact chk_of h f1 f2 f3 fun i hi => ⟨i, hi, rfl⟩
theorem shN_nums (l : List Int) : shN (numsA l) = l := by
  simp [shN, numsA, Ar.cells, numCs, Function.comp_def]
theorem ravel_back {x : Ar} (h : chkA 8 x = 0) : reshR (numsA x.shape) (ravelR x) = (x, 0) := by
  obtain ⟨l8, c16⟩ := chk_len h
  obtain ⟨h1, h2, h3, h4⟩ := (chkA_iff 8 x).1 h
  obtain ⟨a1, -, -⟩ := chk_axes h
  have hs : shpE (numsA x.shape) = 0 := by
    unfold shpE
    have hl : (numsA x.shape).cells.length = x.shape.length := numCs_len _ _
    rw [if_neg (by show ¬ 1 < 1; decide), if_neg, if_neg (by rw [hl]; omega), if_neg]
    · intro hn
      apply hn
      intro i hi
      rw [hl] at hi
      show (cAt (numCs 0 x.shape) i).2.1 ≤ _
      rw [numCs_at _ _ _ hi]
      exact (a1 _ (getD_mem hi)).2
    · intro hn
      apply hn
      intro i hi
      rw [hl] at hi
      show isC (cAt (numCs 0 x.shape) i) = true
      rw [numCs_at _ _ _ hi]
      unfold isC
      have := (a1 _ (getD_mem hi)).1
      simp only [decide_true, Bool.true_and]
      exact decide_eq_true this
  have e : reshE (numsA x.shape) (ravelR x) = 0 := by
    unfold reshE
    rw [if_neg (fun k => k (chk_nums _ (by omega))), if_neg (fun k => k (ravel_chk h)), if_neg (fun k => k hs), shN_nums, if_neg (fun k => k h1), if_neg]
    rintro ⟨g1, g2⟩
    have : x.cells.length = 0 := g2
    omega
  unfold reshR
  rw [if_pos e]
  unfold reshA
  rw [shN_nums, h2, Int.toNat_natCast]
  have : (mkCs x.cells.length fun i => cAt (ravelR x).cells (i % (ravelR x).cells.length)) = x.cells := mkCs_self _ _ fun i hi => by
    show cAt x.cells (i % x.cells.length) = _
    rw [Nat.mod_eq_of_lt hi]
  rw [this]
  exact congrArg (fun y => (y, (0 : Int))) (Ar.eta x)
theorem list_chk {r : Nat} {x : Ar} (h : chkA r x = 0) (hl : ¬ 8 ≤ x.shape.length) : chkA r (.mk (1 :: x.shape) x.cells) = 0 := by
  obtain ⟨h1, h2, h3, -⟩ := (chkA_iff r x).1 h
  obtain ⟨g1, g2, g3⟩ := fine_cases h1
  have := fine_mk (l := 1 :: x.shape) (by simp; omega) (fun z hz => by
    rcases List.mem_cons.1 hz with h | h
    · omega
    · exact g2 z h) (g3.elim (fun h => Or.inl (by obtain ⟨z, hz, e⟩ := h.1; exact ⟨z, List.mem_cons_of_mem _ hz, e⟩)) fun h => Or.inr (by simp only [prodL, Int.one_mul]; exact h.2.1))
  refine chk_of h this.1 ?_ ?_ fun i hi => ⟨i, hi, rfl⟩
  · rw [this.2, ← h2, sizeV_prod h1]; simp [prodL]
  · rintro ⟨z, hz, hlt⟩
    rcases List.mem_cons.1 hz with h | h
    · omega
    · exact h3 ⟨z, h, hlt⟩
/-- What comes of an array that may be may be. -/
theorem mo_may {n lo : Nat} {w : World} {x : Ar} {v : Value} (hx : ArIn (n + 1) lo w x v) (h : chkA 8 x = 0) (op : Int) (he : (moR (n + 1) op x).2 = 0) : chkA 8 (moR (n + 1) op x).1 = 0 := by
  obtain ⟨l8, c16⟩ := chk_len h
  rw [moR_ok h] at he ⊢
  by_cases h5 : op = 5
  · rw [if_pos h5] at he ⊢
    unfold iotaR at he ⊢
    by_cases g1 : 0 < x.shape.length
    · rw [if_pos g1] at he; exact absurd he (by decide)
    · rw [if_neg g1] at he ⊢
      by_cases g2 : isC (cAt x.cells 0) = false
      · rw [if_pos g2] at he; exact absurd he (by decide)
      · rw [if_neg g2] at he ⊢
        by_cases g3 : 16384 < (cAt x.cells 0).2.1
        · rw [if_pos g3] at he; exact absurd he (by decide)
        · rw [if_neg g3]
          exact chk_nums _ (by rw [upL_len]; omega)
  rw [if_neg h5] at he ⊢
  by_cases h6 : op = 6
  · rw [if_pos h6]; exact chk_nums _ (by omega)
  rw [if_neg h6] at he ⊢
  by_cases h7 : op = 7
  · rw [if_pos h7]; exact chk_atom _
  rw [if_neg h7] at he ⊢
  by_cases h8 : op = 8
  · rw [if_pos h8]; exact ravel_chk h
  rw [if_neg h8] at he ⊢
  by_cases h9 : op = 9
  · rw [if_pos h9]; exact rev_chk h fun h => h
  rw [if_neg h9] at he ⊢
  by_cases h10 : op = 10
  · rw [if_pos h10]; exact rev_chk h fun h => by omega
  rw [if_neg h10] at he ⊢
  by_cases h11 : op = 11
  · rw [if_pos h11]; exact flip_chk h
  rw [if_neg h11] at he ⊢
  by_cases h15 : op = 15
  · rw [if_pos h15] at he ⊢
    unfold enclR at he ⊢
    by_cases g1 : 8 ≤ deepA (n + 1) x
    · rw [if_pos g1] at he; exact absurd he (by decide)
    · rw [if_neg g1]
      exact box_chk (chk_down 7 (n + 1) _ _ x _ hx h (by omega))
  rw [if_neg h15] at he ⊢
  by_cases h16 : op = 16
  · rw [if_pos h16] at he ⊢
    unfold discR at he ⊢
    by_cases g1 : 0 < x.shape.length
    · rw [if_pos g1] at he; exact absurd he (by decide)
    · rw [if_neg g1]
      by_cases g2 : (cAt x.cells 0).1 = 2
      · rw [if_pos g2]
        obtain ⟨-, hone⟩ := atom_one h (by omega)
        rcases (chkC_iff _ _).1 (((chkA_iff 8 x).1 h).2.2.2 0 (by omega)) with ⟨-, -, -, hf⟩ | ⟨-, hf | ⟨hf, -⟩⟩
        · exact chkA_up 7 _ hf
        · omega
        · omega
      · rw [if_neg g2]; exact h
  rw [if_neg h16] at he ⊢
  by_cases h17 : op = 17
  · rw [if_pos h17] at he ⊢
    unfold firstR at he ⊢
    by_cases g1 : tallyN x = 0
    · rw [if_pos g1] at he; exact absurd he (by decide)
    · rw [if_neg g1]
      by_cases g2 : x.shape.length = 0
      · rw [if_pos g2]; exact h
      · rw [if_neg g2]; exact (item_facts h (by omega) g1).2.2.2.1
  rw [if_neg h17] at he ⊢
  by_cases h18 : op = 18
  · rw [if_pos h18] at he ⊢
    unfold listR at he ⊢
    by_cases g1 : 8 ≤ x.shape.length
    · rw [if_pos g1] at he; exact absurd he (by decide)
    · rw [if_neg g1]; exact list_chk h g1
  rw [if_neg h18] at he
  exact absurd he (by decide)
theorem resh_may {s a : Ar} (he : (reshR s a).2 = 0) : chkA 8 (reshR s a).1 = 0 := by
  unfold reshR at he ⊢
  by_cases h : reshE s a = 0
  · rw [if_pos h]
    unfold reshE at h
    by_cases g1 : chkA 8 s = 0
    · rw [if_neg (fun k => k g1)] at h
      by_cases g2 : chkA 8 a = 0
      · rw [if_neg (fun k => k g2)] at h
        by_cases g3 : shpE s = 0
        · rw [if_neg (fun k => k g3)] at h
          by_cases g4 : sizeE (shN s) = 0
          · rw [if_neg (fun k => k g4)] at h
            have g5 : ¬ (0 < sizeV (shN s) ∧ a.cells.length = 0) := fun k => by rw [if_pos k] at h; omega
            have hv := sizeV_le g4
            have hnl : noLong s := by
              unfold shpE at g3
              by_cases k1 : 1 < s.shape.length
              · rw [if_pos k1] at g3; omega
              · rw [if_neg k1] at g3
                by_cases k2 : allC s
                · rw [if_neg (fun k => k k2)] at g3
                  by_cases k3 : 8 < s.cells.length
                  · rw [if_pos k3] at g3; omega
                  · rw [if_neg k3] at g3
                    by_cases k4 : noLong s
                    · exact k4
                    · rw [if_pos k4] at g3; omega
                · rw [if_pos k2] at g3; omega
            refine chk_of g2 g4 (by rw [mkCs_len, Int.toNat_of_nonneg hv.1]) ?_ fun i hi => ?_
            · rintro ⟨z, hz, hlt⟩
              obtain ⟨k, hk, rfl⟩ := mem_getD hz
              rw [shN_len] at hk
              have := hnl k hk
              have e := shN_at s k hk
              unfold gI at e
              omega
            · rw [mkCs_len] at hi
              rw [mkCs_at _ _ _ hi]
              have : 0 < a.cells.length := by
                rcases Nat.eq_zero_or_pos a.cells.length with h0 | h0
                · exact absurd ⟨by omega, h0⟩ g5
                · exact h0
              exact ⟨_, Nat.mod_lt _ this, rfl⟩
          · rw [if_pos g4] at h; exact absurd h g4
        · rw [if_pos g3] at h; exact absurd h g3
      · rw [if_pos g2] at h; exact absurd h g2
    · rw [if_pos g1] at h; exact absurd h g1
  · rw [if_neg h] at he; exact absurd he h
end Go.Proofs.Ytmjncdhahdpplaa
