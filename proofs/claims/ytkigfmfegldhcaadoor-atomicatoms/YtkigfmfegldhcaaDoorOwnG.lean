/-
  The contracts of layer 3's Cmp and Cell, and of the comparison of numbers and of things one by one that they rest on; for all arrays and cells.
-/
import Derived.Test.YtkigfmfegldhcaaDoorOwnF
import Derived.Test.YtkigfmfegldhcaaDoorOwnD
namespace Go.Proofs.YtkigfmfegldhcaaDoor
open Go.ChangeShapes Go.WideShapes Go.ChangeAt Go.RowKit
theorem nan_any (a : Int) (w : World) : Calls Tryd.prog 69 #[.int .i64 a] w fun e w' => e = .returned (.bool false) ∧ w' = w := by
  go_enter Tryd.func69, Tryd.ntmps69
  go_wp2
  go_ret
  exact ⟨rfl, rfl⟩
theorem nan64_any (a : Int) (w : World) : Calls Tryd.prog 70 #[.int .i64 a] w fun e w' => e = .returned (.bool false) ∧ w' = w := by
  go_enter Tryd.func70, Tryd.ntmps70
  go_wp2
  go_ret
  exact ⟨rfl, rfl⟩
set_option maxHeartbeats 1000000 in
theorem compare_any (a b : Int) (w : World) : Calls Tryd.prog 53 #[.int .i64 a, .int .i64 b] w fun e w' => e = .returned (.int .i64 (cmp3 a b)) ∧ w' = w := by
  have e1 : a < b → cmp3 a b = -1 := fun h => by simp [cmp3, h]
  have e2 : b < a → cmp3 a b = 1 := fun h => by simp [cmp3, h, Int.not_lt.2 (Int.le_of_lt h)]
  have e3 : ¬ a < b → ¬ b < a → cmp3 a b = 0 := fun h h' => by simp [cmp3, h, h']
  by_cases h1 : a < b
  · rw [e1 h1]
    go_enter Tryd.func53, Tryd.ntmps53
    go_wp2_with (go_at_call 69; refine (nan_any _ _).mono ?_; rintro e w' ⟨rfl, hw⟩; rw [hw])
    go_ret
    exact ⟨rfl, rfl⟩
  · by_cases h2 : b < a
    · rw [e2 h2]
      go_enter Tryd.func53, Tryd.ntmps53
      go_wp2_with (go_at_call 69; refine (nan_any _ _).mono ?_; rintro e w' ⟨rfl, hw⟩; rw [hw])
      go_ret
      exact ⟨rfl, rfl⟩
    · rw [e3 h1 h2]
      go_enter Tryd.func53, Tryd.ntmps53
      go_wp2_with (go_at_call 69; refine (nan_any _ _).mono ?_; rintro e w' ⟨rfl, hw⟩; rw [hw])
      go_ret
      exact ⟨rfl, rfl⟩
set_option maxHeartbeats 1000000 in
theorem compare64_any (a b : Int) (w : World) : Calls Tryd.prog 54 #[.int .i64 a, .int .i64 b] w fun e w' => e = .returned (.int .i64 (cmp3 a b)) ∧ w' = w := by
  have e1 : a < b → cmp3 a b = -1 := fun h => by simp [cmp3, h]
  have e2 : b < a → cmp3 a b = 1 := fun h => by simp [cmp3, h, Int.not_lt.2 (Int.le_of_lt h)]
  have e3 : ¬ a < b → ¬ b < a → cmp3 a b = 0 := fun h h' => by simp [cmp3, h, h']
  by_cases h1 : a < b
  · rw [e1 h1]
    go_enter Tryd.func54, Tryd.ntmps54
    go_wp2_with (go_at_call 70; refine (nan64_any _ _).mono ?_; rintro e w' ⟨rfl, hw⟩; rw [hw])
    go_ret
    exact ⟨rfl, rfl⟩
  · by_cases h2 : b < a
    · rw [e2 h2]
      go_enter Tryd.func54, Tryd.ntmps54
      go_wp2_with (go_at_call 70; refine (nan64_any _ _).mono ?_; rintro e w' ⟨rfl, hw⟩; rw [hw])
      go_ret
      exact ⟨rfl, rfl⟩
    · rw [e3 h1 h2]
      go_enter Tryd.func54, Tryd.ntmps54
      go_wp2_with (go_at_call 70; refine (nan64_any _ _).mono ?_; rintro e w' ⟨rfl, hw⟩; rw [hw])
      go_ret
      exact ⟨rfl, rfl⟩
set_option maxHeartbeats 1000000 in
theorem ref_ints (a b : Int) (w : World) : Calls Tryd.prog 43 #[.int .i64 a, .int .i64 b] w fun e w' => e = .returned (.int .i64 (cmp3 a b)) ∧ w' = w := by
  have e1 : a < b → cmp3 a b = -1 := fun h => by simp [cmp3, h]
  have e2 : b < a → cmp3 a b = 1 := fun h => by simp [cmp3, h, Int.not_lt.2 (Int.le_of_lt h)]
  have e3 : ¬ a < b → ¬ b < a → cmp3 a b = 0 := fun h h' => by simp [cmp3, h, h']
  by_cases h1 : a < b
  · rw [e1 h1]
    go_enter Tryd.func43, Tryd.ntmps43
    go_wp2
    go_ret
    exact ⟨rfl, rfl⟩
  · by_cases h2 : b < a
    · rw [e2 h2]
      go_enter Tryd.func43, Tryd.ntmps43
      go_wp2
      go_ret
      exact ⟨rfl, rfl⟩
    · rw [e3 h1 h2]
      go_enter Tryd.func43, Tryd.ntmps43
      go_wp2
      go_ret
      exact ⟨rfl, rfl⟩
end Go.Proofs.YtkigfmfegldhcaaDoor
