/-
  Contracts of the small functions of layer 2 and of its document's answer: whether there is a sign of a number, how many bytes it has, a group of six bits, what a first byte says; for all inputs.
-/
import Derived.Test.YtljanfmmhglpiaaDoorRows
import Derived.WalkKit
import Derived.ProofKit
import Derived.Below
import Derived.Test.YtljanfmmhglpiaaDoorRnB
namespace Go.Proofs.YtljanfmmhglpiaaDoor.Rn
open Go.ChangeShapes Go.WideShapes Go.ChangeAt Go.RowKit
set_option maxRecDepth 100000
theorem retB {a b : Bool} (h : a = b) : Ending.returned (.bool a) = .returned (.bool b) := by rw [h]
theorem retI {k : IntKind} {a b : Int} (h : a = b) : Ending.returned (.int k a) = .returned (.int k b) := by rw [h]
theorem retII {k l : IntKind} {a b c d : Int} (h : a = b) (h2 : c = d) : Ending.returned (.tuple #[.int k a, .int l c]) = .returned (.tuple #[.int k b, .int l d]) := by rw [h, h2]
theorem goodB_true {n : Int} (h : Good n) : goodB n = true := decide_eq_true h
theorem goodB_false {n : Int} (h : ¬ Good n) : goodB n = false := decide_eq_false h
set_option maxHeartbeats 400000 in
theorem good_any (n : Int) (w : World) : Calls Tryd.prog 49 #[.int .i64 n] w fun e w' => e = .returned (.bool (goodB n)) ∧ w' = w := by
  by_cases h1 : n < 0
  · have e : goodB n = false := goodB_false (by unfold Good; omega)
    rw [e]
    go_enter Tryd.func49, Tryd.ntmps49
    go_wp2
    go_ret
    exact ⟨rfl, rfl⟩
  · by_cases h2 : n ≤ 1114111
    · by_cases h3 : n < 55296
      · have e : goodB n = true := goodB_true (by unfold Good; omega)
        rw [e]
        go_enter Tryd.func49, Tryd.ntmps49
        go_wp2
        go_ret
        exact ⟨rfl, rfl⟩
      · by_cases h4 : 57343 < n
        · have e : goodB n = true := goodB_true (by unfold Good; omega)
          rw [e]
          go_enter Tryd.func49, Tryd.ntmps49
          go_wp2
          go_ret
          exact ⟨rfl, rfl⟩
        · have e : goodB n = false := goodB_false (by unfold Good; omega)
          rw [e]
          go_enter Tryd.func49, Tryd.ntmps49
          go_wp2
          go_ret
          exact ⟨rfl, rfl⟩
    · have e : goodB n = false := goodB_false (by unfold Good; omega)
      have h2' : 1114111 < n := by omega
      rw [e]
      go_enter Tryd.func49, Tryd.ntmps49
      go_wp2
      go_ret
      exact ⟨rfl, rfl⟩
set_option maxHeartbeats 400000 in
theorem goodR_any (n : Int) (w : World) : Calls Tryd.prog 10 #[.int .i64 n] w fun e w' => e = .returned (.bool (goodB n)) ∧ w' = w := by
  by_cases h1 : 0 ≤ n
  · by_cases h3 : n < 55296
    · have e : goodB n = true := goodB_true (by unfold Good; omega)
      rw [e]
      go_enter Tryd.func10, Tryd.ntmps10
      go_wp2
      go_ret
      exact ⟨rfl, rfl⟩
    · by_cases h4 : 57343 < n
      · by_cases h5 : n < 1114112
        · have e : goodB n = true := goodB_true (by unfold Good; omega)
          rw [e]
          go_enter Tryd.func10, Tryd.ntmps10
          go_wp2
          go_ret
          exact ⟨rfl, rfl⟩
        · have e : goodB n = false := goodB_false (by unfold Good; omega)
          rw [e]
          go_enter Tryd.func10, Tryd.ntmps10
          go_wp2
          go_ret
          exact ⟨rfl, rfl⟩
      · have e : goodB n = false := goodB_false (by unfold Good; omega)
        rw [e]
        go_enter Tryd.func10, Tryd.ntmps10
        go_wp2
        go_ret
        exact ⟨rfl, rfl⟩
  · have e : goodB n = false := goodB_false (by unfold Good; omega)
    have h4 : ¬ 57343 < n := by omega
    rw [e]
    go_enter Tryd.func10, Tryd.ntmps10
    go_wp2
    go_ret
    exact ⟨rfl, rfl⟩
theorem wid_any (n : Int) (w : World) : Calls Tryd.prog 20 #[.int .i64 n] w fun e w' => e = .returned (.int .i64 (wid n)) ∧ w' = w := by
  unfold wid
  by_cases h1 : n < 128
  · rw [if_pos h1]
    go_enter Tryd.func20, Tryd.ntmps20
    go_wp2
    go_ret
    exact ⟨rfl, rfl⟩
  · rw [if_neg h1]
    by_cases h2 : n < 2048
    · rw [if_pos h2]
      go_enter Tryd.func20, Tryd.ntmps20
      go_wp2
      go_ret
      exact ⟨rfl, rfl⟩
    · rw [if_neg h2]
      by_cases h3 : n < 65536
      · rw [if_pos h3]
        go_enter Tryd.func20, Tryd.ntmps20
        go_wp2
        go_ret
        exact ⟨rfl, rfl⟩
      · rw [if_neg h3]
        go_enter Tryd.func20, Tryd.ntmps20
        go_wp2
        go_ret
        exact ⟨rfl, rfl⟩
set_option maxHeartbeats 400000 in
theorem first_any (c : Int) (w : World) (h0 : 0 ≤ c) (h1 : c < 256) : Calls Tryd.prog 48 #[.int .u8 c] w fun e w' => e = .returned (.tuple #[.int .i64 (fV c), .int .i64 (fM c)]) ∧ w' = w := by
  unfold fV fM
  by_cases a1 : c < 128
  · rw [if_pos a1, if_pos a1]
    go_enter Tryd.func48, Tryd.ntmps48
    go_wp2
    go_ret2
    exact ⟨rfl, rfl⟩
  · rw [if_neg a1, if_neg a1]
    by_cases a2 : c < 192
    · rw [if_pos (Or.inl a2), if_pos (Or.inl a2)]
      go_enter Tryd.func48, Tryd.ntmps48
      go_wp2
      go_ret2
      exact ⟨rfl, rfl⟩
    · by_cases a2' : 248 ≤ c
      · rw [if_pos (Or.inr a2'), if_pos (Or.inr a2')]
        go_enter Tryd.func48, Tryd.ntmps48
        go_wp2
        go_ret2
        exact ⟨rfl, rfl⟩
      · have n2 : ¬ (c < 192 ∨ 248 ≤ c) := by omega
        rw [if_neg n2, if_neg n2]
        clear n2
        by_cases a3 : 240 ≤ c
        · rw [if_pos a3, if_pos a3]
          have e := and7 h0 h1
          go_enter Tryd.func48, Tryd.ntmps48
          go_wp2
          go_ret2
          exact ⟨rfl, rfl⟩
        · rw [if_neg a3, if_neg a3]
          by_cases a4 : 224 ≤ c
          · rw [if_pos a4, if_pos a4]
            have e := and15 h0 h1
            go_enter Tryd.func48, Tryd.ntmps48
            go_wp2
            go_ret2
            exact ⟨rfl, rfl⟩
          · rw [if_neg a4, if_neg a4]
            have e := and31 h0 h1
            go_enter Tryd.func48, Tryd.ntmps48
            go_wp2
            go_ret2
            exact ⟨rfl, rfl⟩
end Go.Proofs.YtljanfmmhglpiaaDoor.Rn
