/-
  The contract of works (the statements' own trial of the program): it returns true; nothing that was there is changed; no condition.
-/
import Derived.Test.YtmaddmbiddiebaaOwnG
namespace Go.Proofs.Ytmaddmbiddiebaa
open Go.ChangeShapes Go.WideShapes Go.ChangeAt Go.RowKit
set_option maxHeartbeats 1000000 in
theorem works_any (w : World) :
    Calls Try.prog 13 #[] w fun e w' => e = .returned (.bool true) ∧ Below w.heap.size w w' := by
  have C4 := sum_any [9223372036854775807, 5, -6] (some ⟨w.heap.size, 0, none⟩) 3 _ (row_three 9223372036854775807 5 (-6) ⟨by decide, by decide⟩ ⟨by decide, by decide⟩ ⟨by decide, by decide⟩ w 2)
  have e1 : resV 5 = 5 := by decide
  have e1' : resE 5 = 0 := by decide
  have e2 : resV (-20) = -20 := by decide
  have e2' : resE (-20) = 0 := by decide
  have e3 : resV 9223372036854775808 = 0 := by decide
  have e3' : resE 9223372036854775808 = 9 := by decide
  have e4 : resV [9223372036854775807, 5, -6].sum = 9223372036854775806 ∧ resE [9223372036854775807, 5, -6].sum = 0 := by decide
  have e5 : Int.fmod (-1) 3 = 2 := by decide
  rw [e4.1, e4.2] at C4
  clear e4
  go_enter Try.func13, Try.ntmps13
  go_wp2_with (first | (go_at_call 9; refine (add_any _ _ ⟨by decide, by decide⟩ ⟨by decide, by decide⟩ _).mono ?_; rintro e w' ⟨rfl, hw⟩; rw [hw]) | (go_at_call 14; refine (mul_any _ _ ⟨by decide, by decide⟩ ⟨by decide, by decide⟩ _).mono ?_; rintro e w' ⟨rfl, hw⟩; rw [hw]) | (go_at_call 23; refine C4.mono ?_; rintro e w' ⟨rfl, hw⟩; rw [hw]) | (go_at_call 16; refine (res_any _ _ ⟨by decide, by decide⟩ _).mono ?_; rintro e w' ⟨rfl, hw⟩; rw [hw]))
  go_ret
  exact ⟨rfl, ((Below.refl _ _).alloc (Nat.le_refl _) _)⟩
end Go.Proofs.Ytmaddmbiddiebaa
