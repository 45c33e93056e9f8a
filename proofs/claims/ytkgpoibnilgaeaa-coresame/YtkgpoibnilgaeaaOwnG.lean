/-
  The contracts of layer 3's Cmp and Cell, and of the comparison of numbers and of things one by one that they rest on; for all arrays and cells.
-/
import Derived.Test.YtkgpoibnilgaeaaOwnF
import Derived.Test.YtkgpoibnilgaeaaRows
import Derived.WalkKit
import Derived.ProofKit
import Derived.Below
import Derived.Deep.OwnRows
import Derived.Deep.QuietTactic
import Derived.BigQuiet
namespace Go.Proofs.Ytkgpoibnilgaeaa
open Go.ChangeShapes Go.WideShapes Go.ChangeAt Go.RowKit
theorem nan_any (a : Int) (w : World) : Calls Try.prog 79 #[.int .i64 a] w fun e w' => e = .returned (.bool false) ∧ w' = w := by
  go_enter Try.func79, Try.ntmps79
  go_wp2
  go_ret
  exact ⟨rfl, rfl⟩
theorem nan64_any (a : Int) (w : World) : Calls Try.prog 86 #[.int .i64 a] w fun e w' => e = .returned (.bool false) ∧ w' = w := by
  go_enter Try.func86, Try.ntmps86
  go_wp2
  go_ret
  exact ⟨rfl, rfl⟩
set_option maxHeartbeats 1000000 in
theorem compare_any (a b : Int) (w : World) : Calls Try.prog 56 #[.int .i64 a, .int .i64 b] w fun e w' => e = .returned (.int .i64 (cmp3 a b)) ∧ w' = w := by
  have e1 : a < b → cmp3 a b = -1 := fun h => by simp [cmp3, h]
  have e2 : b < a → cmp3 a b = 1 := fun h => by simp [cmp3, h, Int.not_lt.2 (Int.le_of_lt h)]
  have e3 : ¬ a < b → ¬ b < a → cmp3 a b = 0 := fun h h' => by simp [cmp3, h, h']
  by_cases h1 : a < b
  · rw [e1 h1]
    go_enter Try.func56, Try.ntmps56
    go_wp2_with (go_at_call 79; refine (nan_any _ _).mono ?_; rintro e w' ⟨rfl, hw⟩; rw [hw])
    go_ret
    exact ⟨rfl, rfl⟩
  · by_cases h2 : b < a
    · rw [e2 h2]
      go_enter Try.func56, Try.ntmps56
      go_wp2_with (go_at_call 79; refine (nan_any _ _).mono ?_; rintro e w' ⟨rfl, hw⟩; rw [hw])
      go_ret
      exact ⟨rfl, rfl⟩
    · rw [e3 h1 h2]
      go_enter Try.func56, Try.ntmps56
      go_wp2_with (go_at_call 79; refine (nan_any _ _).mono ?_; rintro e w' ⟨rfl, hw⟩; rw [hw])
      go_ret
      exact ⟨rfl, rfl⟩
set_option maxHeartbeats 1000000 in
theorem compare64_any (a b : Int) (w : World) : Calls Try.prog 80 #[.int .i64 a, .int .i64 b] w fun e w' => e = .returned (.int .i64 (cmp3 a b)) ∧ w' = w := by
  have e1 : a < b → cmp3 a b = -1 := fun h => by simp [cmp3, h]
  have e2 : b < a → cmp3 a b = 1 := fun h => by simp [cmp3, h, Int.not_lt.2 (Int.le_of_lt h)]
  have e3 : ¬ a < b → ¬ b < a → cmp3 a b = 0 := fun h h' => by simp [cmp3, h, h']
  by_cases h1 : a < b
  · rw [e1 h1]
    go_enter Try.func80, Try.ntmps80
    go_wp2_with (go_at_call 86; refine (nan64_any _ _).mono ?_; rintro e w' ⟨rfl, hw⟩; rw [hw])
    go_ret
    exact ⟨rfl, rfl⟩
  · by_cases h2 : b < a
    · rw [e2 h2]
      go_enter Try.func80, Try.ntmps80
      go_wp2_with (go_at_call 86; refine (nan64_any _ _).mono ?_; rintro e w' ⟨rfl, hw⟩; rw [hw])
      go_ret
      exact ⟨rfl, rfl⟩
    · rw [e3 h1 h2]
      go_enter Try.func80, Try.ntmps80
      go_wp2_with (go_at_call 86; refine (nan64_any _ _).mono ?_; rintro e w' ⟨rfl, hw⟩; rw [hw])
      go_ret
      exact ⟨rfl, rfl⟩
set_option maxHeartbeats 1000000 in
theorem ref_ints (a b : Int) (w : World) : Calls Try.prog 61 #[.int .i64 a, .int .i64 b] w fun e w' => e = .returned (.int .i64 (cmp3 a b)) ∧ w' = w := by
  have e1 : a < b → cmp3 a b = -1 := fun h => by simp [cmp3, h]
  have e2 : b < a → cmp3 a b = 1 := fun h => by simp [cmp3, h, Int.not_lt.2 (Int.le_of_lt h)]
  have e3 : ¬ a < b → ¬ b < a → cmp3 a b = 0 := fun h h' => by simp [cmp3, h, h']
  by_cases h1 : a < b
  · rw [e1 h1]
    go_enter Try.func61, Try.ntmps61
    go_wp2
    go_ret
    exact ⟨rfl, rfl⟩
  · by_cases h2 : b < a
    · rw [e2 h2]
      go_enter Try.func61, Try.ntmps61
      go_wp2
      go_ret
      exact ⟨rfl, rfl⟩
    · rw [e3 h1 h2]
      go_enter Try.func61, Try.ntmps61
      go_wp2
      go_ret
      exact ⟨rfl, rfl⟩
set_option maxHeartbeats 1000000 in
theorem by_axis (f : Nat → Int) (m : Nat) (hm : m ≤ 140737488355328) (p q : Value) (w : World)
    (hf : ∀ i, i < m → ∀ w', Below w.heap.size w w' → Calls Try.prog 57 #[.int .i64 (i : Int), p, q] w' fun e w'' => e = .returned (.int .i64 (f i)) ∧ Below w'.heap.size w' w'') :
    Calls Try.prog 58 #[.int .i64 (m : Int), .func (.func 57) #[] #[p, q]] w fun e w' => e = .returned (.int .i64 (firstUp f m)) ∧ Below w.heap.size w w' := by
  have HF : Hid _ := hf
  clear hf
  go_enter Try.func58, Try.ntmps58
  go_wp2
  go_loopw [8] (fun i wr => ∃ j : Nat, j ≤ m ∧ i = .int .i64 j ∧ firstUp f j = 0 ∧ Below w.heap.size w wr) (fun i _ => m - (intOf i).toNat)
  case atStart => exact ⟨0, Nat.zero_le _, rfl, rfl, Below.refl _ _⟩
  case round =>
    obtain ⟨j, hj, rfl, h0, hnx⟩ := hrel
    have H0 : Hid (firstUp f j = 0) := h0
    clear h0
    by_cases hlt : j < m
    · have C := HF.out j hlt wr hnx
      have HR : Hid (f j ≠ 0 → firstUp f m = f j) := fun h => firstUp_hit H0.out h m hlt
      have HS : Hid (firstUp f (j + 1) = f j) := firstUp_step H0.out
      obtain ⟨z, hz⟩ : ∃ z, f j = z := ⟨_, rfl⟩
      rw [hz] at C HR HS
      clear hz
      by_cases hz0 : z = 0
      · subst hz0
        go_wp2_with fail
        refine C.mono ?_
        rintro e w1 ⟨rfl, hb1⟩
        go_wp2
        go_roundw
        case rel => exact ⟨j + 1, by omega, by go_num, HS.out, hnx.trans (hb1.mono hnx.size)⟩
        case measure => simp [intOf]; omega
      · have HZ : Hid (z ≠ 0) := hz0
        go_wp2_with fail
        refine C.mono ?_
        rintro e w1 ⟨rfl, hb1⟩
        go_wp2
        go_ret
        exact ⟨retI (HR.out HZ.out).symm, hnx.trans (hb1.mono hnx.size)⟩
    · have hje : j = m := by omega
      subst hje
      go_wp2
      go_ret
      exact ⟨retI H0.out.symm, hnx⟩
end Go.Proofs.Ytkgpoibnilgaeaa
