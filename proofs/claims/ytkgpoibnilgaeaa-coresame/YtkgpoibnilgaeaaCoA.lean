/-
  Layer 10: a number from one up to another one (isFrom), Scalar of both, a letter and a digit of a name.
-/
import Derived.Test.YtkgpoibnilgaeaaOwnP
namespace Go.Proofs.Ytkgpoibnilgaeaa
open Go.ChangeShapes Go.WideShapes Go.ChangeAt Go.RowKit
set_option linter.unusedVariables false
set_option linter.unusedSimpArgs false
def frm (n a b : Int) : Bool := decide (a ≤ n ∧ n ≤ b)
theorem frm_yes {n a b : Int} (h1 : a ≤ n) (h2 : n ≤ b) : frm n a b = true := decide_eq_true ⟨h1, h2⟩
theorem frm_lo {n a b : Int} (h1 : ¬ a ≤ n) : frm n a b = false := decide_eq_false fun h => h1 h.1
theorem frm_hi {n a b : Int} (h2 : ¬ n ≤ b) : frm n a b = false := decide_eq_false fun h => h2 h.2
theorem from43 (n a b : Int) (w : World) : Calls Try.prog 43 #[.int .i64 n, .int .i64 a, .int .i64 b] w fun e w' => e = .returned (.bool (frm n a b)) ∧ Below w.heap.size w w' := by
  by_cases h1 : a ≤ n
  · by_cases h2 : n ≤ b
    · rw [frm_yes h1 h2]
      go_enter Try.func43, Try.ntmps43
      go_wp2
      go_ret
      exact ⟨rfl, Below.refl _ _⟩
    · rw [frm_hi h2]
      go_enter Try.func43, Try.ntmps43
      go_wp2
      go_ret
      exact ⟨rfl, Below.refl _ _⟩
  · rw [frm_lo h1]
    go_enter Try.func43, Try.ntmps43
    go_wp2
    go_ret
    exact ⟨rfl, Below.refl _ _⟩
theorem scalar19 (n : Int) (w : World) : Calls Try.prog 19 #[.int .i64 n] w fun e w' => e = .returned (.bool (frm n 21 32)) ∧ Below w.heap.size w w' := by
  have C := from43 n 21 32 w
  go_enter Try.func19, Try.ntmps19
  go_wp2_with fail
  refine C.mono ?_
  rintro e w1 ⟨rfl, hb⟩
  go_wp2
  go_ret
  exact ⟨rfl, hb⟩
theorem rscalar20 (n : Int) (w : World) : Calls Try.prog 20 #[.int .i64 n] w fun e w' => e = .returned (.bool (frm n 21 32)) ∧ Below w.heap.size w w' := by
  by_cases h1 : 21 ≤ n
  · by_cases h2 : n ≤ 32
    · rw [frm_yes h1 h2]
      go_enter Try.func20, Try.ntmps20
      go_wp2
      go_ret
      exact ⟨rfl, Below.refl _ _⟩
    · rw [frm_hi h2]
      go_enter Try.func20, Try.ntmps20
      go_wp2
      go_ret
      exact ⟨rfl, Below.refl _ _⟩
  · rw [frm_lo h1]
    go_enter Try.func20, Try.ntmps20
    go_wp2
    go_ret
    exact ⟨rfl, Below.refl _ _⟩
theorem letter35 (n : Int) (w : World) : Calls Try.prog 35 #[.int .u8 n] w fun e w' => e = .returned (.bool (frm n 97 119)) ∧ Below w.heap.size w w' := by
  by_cases h1 : 97 ≤ n
  · by_cases h2 : n ≤ 119
    · rw [frm_yes h1 h2]
      go_enter Try.func35, Try.ntmps35
      go_wp2
      go_ret
      exact ⟨rfl, Below.refl _ _⟩
    · rw [frm_hi h2]
      go_enter Try.func35, Try.ntmps35
      go_wp2
      go_ret
      exact ⟨rfl, Below.refl _ _⟩
  · rw [frm_lo h1]
    go_enter Try.func35, Try.ntmps35
    go_wp2
    go_ret
    exact ⟨rfl, Below.refl _ _⟩
theorem digit36 (n : Int) (w : World) : Calls Try.prog 36 #[.int .u8 n] w fun e w' => e = .returned (.bool (frm n 48 57)) ∧ Below w.heap.size w w' := by
  by_cases h1 : 48 ≤ n
  · by_cases h2 : n ≤ 57
    · rw [frm_yes h1 h2]
      go_enter Try.func36, Try.ntmps36
      go_wp2
      go_ret
      exact ⟨rfl, Below.refl _ _⟩
    · rw [frm_hi h2]
      go_enter Try.func36, Try.ntmps36
      go_wp2
      go_ret
      exact ⟨rfl, Below.refl _ _⟩
  · rw [frm_lo h1]
    go_enter Try.func36, Try.ntmps36
    go_wp2
    go_ret
    exact ⟨rfl, Below.refl _ _⟩
end Go.Proofs.Ytkgpoibnilgaeaa
