/-
  The contract of the document's own Put: for all good numbers the sign's bytes, in memory of its own.
-/
import Derived.Test.YtkigpbajbafpcaaDoorOwnH
import Derived.Laws.MakeOwn
namespace Go.Proofs.YtkigpbajbafpcaaDoor
open Go.ChangeShapes Go.WideShapes Go.ChangeAt Go.RowKit
theorem made (v : Value) (k : Nat) : madeCells #[v] k = Array.replicate k v := by
  apply Array.ext
  · simp [madeCells]
  · intro i h1 h2
    simp [madeCells, Nat.mod_one]
theorem make_run (k : Nat) (hk : k ≤ 4) (w : World) : (Instr.makeSlice 23 (.int .i64 (k : Int)) (.int .i64 (k : Int))).run Tryd.prog w = .ok (.slice (some ⟨w.heap.size, 0, none⟩) k k) (w.alloc (.cells (Array.replicate k (.int .u8 0)) 5)) := by
  obtain ⟨i0, hi, hz0, hz1, hz2⟩ := info_parts info5
  have := run_make (P := Tryd.prog) w 23 5 i0 (.int .u8 0) Tryd.underlying23 hi hz0 .i64 .i64 k k (by omega) (Int.le_refl _) (by rw [hz2]; omega) (by omega)
  rw [this, hz1, show (Value.int .u8 0).cells = #[Value.int .u8 0] from rfl, made]
  simp
theorem make1 (w : World) : (Instr.makeSlice 23 (.int .i64 1) (.int .i64 1)).run Tryd.prog w = .ok (.slice (some ⟨w.heap.size, 0, none⟩) 1 1) (w.alloc (.cells #[.int .u8 0] 5)) := make_run 1 (by omega) w
theorem make2 (w : World) : (Instr.makeSlice 23 (.int .i64 2) (.int .i64 2)).run Tryd.prog w = .ok (.slice (some ⟨w.heap.size, 0, none⟩) 2 2) (w.alloc (.cells #[.int .u8 0, .int .u8 0] 5)) := make_run 2 (by omega) w
theorem make3 (w : World) : (Instr.makeSlice 23 (.int .i64 3) (.int .i64 3)).run Tryd.prog w = .ok (.slice (some ⟨w.heap.size, 0, none⟩) 3 3) (w.alloc (.cells #[.int .u8 0, .int .u8 0, .int .u8 0] 5)) := make_run 3 (by omega) w
theorem make4 (w : World) : (Instr.makeSlice 23 (.int .i64 4) (.int .i64 4)).run Tryd.prog w = .ok (.slice (some ⟨w.heap.size, 0, none⟩) 4 4) (w.alloc (.cells #[.int .u8 0, .int .u8 0, .int .u8 0, .int .u8 0] 5)) := make_run 4 (by omega) w
set_option maxHeartbeats 2000000 in
theorem put1 (n : Int) (w : World) (hn0 : 0 ≤ n) (hn : n < 128) :
    Calls Tryd.prog 19 #[.int .i64 n] w fun e w' => e = .returned (.slice (some ⟨w.heap.size, 0, none⟩) 1 1) ∧ w' = w.alloc (.cells #[.int .u8 (n)] 5) := by
  have hw : wid n = 1 := by unfold wid; rw [if_pos hn]
  have mk := make1
  have dt : n < 128 := by omega
  go_enter Tryd.func19, Tryd.ntmps19
  go_wp2_with (go_at_call 22; refine (wid_any _ _).mono ?_; rintro e w' ⟨rfl, hw'⟩; rw [hw'])
  go_loopw [0, 5] (fun m i wr => (i = .int .i64 0 ∧ m = .int .i64 (n) ∧ wr = w.alloc (.cells #[.int .u8 0] 5))) (fun _ i _ => (intOf i).toNat)
  case atStart => exact ⟨rfl, rfl, rfl⟩
  case round =>
    obtain ⟨rfl, rfl, rfl⟩ := hrel
    go_wp2
    go_ret
    exact ⟨rfl, rfl⟩
set_option maxHeartbeats 2000000 in
theorem put2 (n : Int) (w : World) (hn0 : 128 ≤ n) (hn : n < 2048) :
    Calls Tryd.prog 19 #[.int .i64 n] w fun e w' => e = .returned (.slice (some ⟨w.heap.size, 0, none⟩) 2 2) ∧ w' = w.alloc (.cells #[.int .u8 (192 + n / 64), .int .u8 (128 + n % 64)] 5) := by
  have hw : wid n = 2 := by unfold wid; rw [if_neg (by omega), if_pos hn]
  have mk := make2
  have d1 : 0 ≤ n / 64 := by omega
  have dt : n / 64 < 64 := by omega
  go_enter Tryd.func19, Tryd.ntmps19
  go_wp2_with (go_at_call 22; refine (wid_any _ _).mono ?_; rintro e w' ⟨rfl, hw'⟩; rw [hw'])
  go_loopw [0, 5] (fun m i wr => (i = .int .i64 1 ∧ m = .int .i64 (n) ∧ wr = w.alloc (.cells #[.int .u8 0, .int .u8 0] 5)) ∨ (i = .int .i64 0 ∧ m = .int .i64 (n / 64) ∧ wr = w.alloc (.cells #[.int .u8 0, .int .u8 (128 + n % 64)] 5))) (fun _ i _ => (intOf i).toNat)
  case atStart => exact Or.inl ⟨rfl, rfl, rfl⟩
  case round =>
    rcases hrel with ⟨rfl, rfl, rfl⟩ | ⟨rfl, rfl, rfl⟩
    · go_wp2
      go_roundw
      case rel => exact Or.inr (⟨rfl, rfl, trivial⟩)
      case measure => simp [intOf]
    · go_wp2
      go_ret
      exact ⟨rfl, rfl⟩
set_option maxHeartbeats 2000000 in
theorem put3 (n : Int) (w : World) (hn0 : 2048 ≤ n) (hn : n < 65536) :
    Calls Tryd.prog 19 #[.int .i64 n] w fun e w' => e = .returned (.slice (some ⟨w.heap.size, 0, none⟩) 3 3) ∧ w' = w.alloc (.cells #[.int .u8 (224 + n / 64 / 64), .int .u8 (128 + n / 64 % 64), .int .u8 (128 + n % 64)] 5) := by
  have hw : wid n = 3 := by unfold wid; rw [if_neg (by omega), if_neg (by omega), if_pos hn]
  have mk := make3
  have d1 : 0 ≤ n / 64 := by omega
  have d2 : 0 ≤ n / 64 / 64 := by omega
  have dt : n / 64 / 64 < 32 := by omega
  go_enter Tryd.func19, Tryd.ntmps19
  go_wp2_with (go_at_call 22; refine (wid_any _ _).mono ?_; rintro e w' ⟨rfl, hw'⟩; rw [hw'])
  go_loopw [0, 5] (fun m i wr => (i = .int .i64 2 ∧ m = .int .i64 (n) ∧ wr = w.alloc (.cells #[.int .u8 0, .int .u8 0, .int .u8 0] 5)) ∨ (i = .int .i64 1 ∧ m = .int .i64 (n / 64) ∧ wr = w.alloc (.cells #[.int .u8 0, .int .u8 0, .int .u8 (128 + n % 64)] 5)) ∨ (i = .int .i64 0 ∧ m = .int .i64 (n / 64 / 64) ∧ wr = w.alloc (.cells #[.int .u8 0, .int .u8 (128 + n / 64 % 64), .int .u8 (128 + n % 64)] 5))) (fun _ i _ => (intOf i).toNat)
  case atStart => exact Or.inl ⟨rfl, rfl, rfl⟩
  case round =>
    rcases hrel with ⟨rfl, rfl, rfl⟩ | ⟨rfl, rfl, rfl⟩ | ⟨rfl, rfl, rfl⟩
    · go_wp2
      go_roundw
      case rel => exact Or.inr (Or.inl ⟨rfl, rfl, trivial⟩)
      case measure => simp [intOf]
    · go_wp2
      go_roundw
      case rel => exact Or.inr (Or.inr (⟨rfl, rfl, trivial⟩))
      case measure => simp [intOf]
    · go_wp2
      go_ret
      exact ⟨rfl, rfl⟩
set_option maxHeartbeats 2000000 in
theorem put4 (n : Int) (w : World) (hn0 : 65536 ≤ n) (hn : n < 1114112) :
    Calls Tryd.prog 19 #[.int .i64 n] w fun e w' => e = .returned (.slice (some ⟨w.heap.size, 0, none⟩) 4 4) ∧ w' = w.alloc (.cells #[.int .u8 (240 + n / 64 / 64 / 64), .int .u8 (128 + n / 64 / 64 % 64), .int .u8 (128 + n / 64 % 64), .int .u8 (128 + n % 64)] 5) := by
  have hw : wid n = 4 := by unfold wid; rw [if_neg (by omega), if_neg (by omega), if_neg (by omega)]
  have mk := make4
  have d1 : 0 ≤ n / 64 := by omega
  have d2 : 0 ≤ n / 64 / 64 := by omega
  have d3 : 0 ≤ n / 64 / 64 / 64 := by omega
  have dt : n / 64 / 64 / 64 < 16 := by omega
  go_enter Tryd.func19, Tryd.ntmps19
  go_wp2_with (go_at_call 22; refine (wid_any _ _).mono ?_; rintro e w' ⟨rfl, hw'⟩; rw [hw'])
  go_loopw [0, 5] (fun m i wr => (i = .int .i64 3 ∧ m = .int .i64 (n) ∧ wr = w.alloc (.cells #[.int .u8 0, .int .u8 0, .int .u8 0, .int .u8 0] 5)) ∨ (i = .int .i64 2 ∧ m = .int .i64 (n / 64) ∧ wr = w.alloc (.cells #[.int .u8 0, .int .u8 0, .int .u8 0, .int .u8 (128 + n % 64)] 5)) ∨ (i = .int .i64 1 ∧ m = .int .i64 (n / 64 / 64) ∧ wr = w.alloc (.cells #[.int .u8 0, .int .u8 0, .int .u8 (128 + n / 64 % 64), .int .u8 (128 + n % 64)] 5)) ∨ (i = .int .i64 0 ∧ m = .int .i64 (n / 64 / 64 / 64) ∧ wr = w.alloc (.cells #[.int .u8 0, .int .u8 (128 + n / 64 / 64 % 64), .int .u8 (128 + n / 64 % 64), .int .u8 (128 + n % 64)] 5))) (fun _ i _ => (intOf i).toNat)
  case atStart => exact Or.inl ⟨rfl, rfl, rfl⟩
  case round =>
    rcases hrel with ⟨rfl, rfl, rfl⟩ | ⟨rfl, rfl, rfl⟩ | ⟨rfl, rfl, rfl⟩ | ⟨rfl, rfl, rfl⟩
    · go_wp2
      go_roundw
      case rel => exact Or.inr (Or.inl ⟨rfl, rfl, trivial⟩)
      case measure => simp [intOf]
    · go_wp2
      go_roundw
      case rel => exact Or.inr (Or.inr (Or.inl ⟨rfl, rfl, trivial⟩))
      case measure => simp [intOf]
    · go_wp2
      go_roundw
      case rel => exact Or.inr (Or.inr (Or.inr (⟨rfl, rfl, trivial⟩)))
      case measure => simp [intOf]
    · go_wp2
      go_ret
      exact ⟨rfl, rfl⟩
theorem put_any (n : Int) (w : World) (hn : Good n) :
    Calls Tryd.prog 19 #[.int .i64 n] w fun e w' => e = .returned (.slice (some ⟨w.heap.size, 0, none⟩) (wid n) (wid n)) ∧ w' = w.alloc (.cells (bv (put n)).toArray 5) := by
  have hr := hn.rng
  unfold wid put
  by_cases h1 : n < 128
  · rw [if_pos h1, if_pos h1]; exact put1 n w hr.1 h1
  · rw [if_neg h1, if_neg h1]
    by_cases h2 : n < 2048
    · rw [if_pos h2, if_pos h2]; exact put2 n w (by omega) h2
    · rw [if_neg h2, if_neg h2]
      by_cases h3 : n < 65536
      · rw [if_pos h3, if_pos h3]
        have e1 : n / 64 / 64 = n / 4096 := by omega
        have := put3 n w (by omega) h3
        rw [e1] at this
        exact this
      · rw [if_neg h3, if_neg h3]
        have e1 : n / 64 / 64 = n / 4096 := by omega
        have e2 : n / 4096 / 64 = n / 262144 := by omega
        have := put4 n w (by omega) hr.2
        rw [e1, e2] at this
        exact this
end Go.Proofs.YtkigpbajbafpcaaDoor
