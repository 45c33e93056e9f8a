/-
  The contracts of layer 4's small functions: what a function of one number, of two numbers, of a cell, of two cells is; whether there is such a function; a shape in new memory. Conditions: numbers of 64 bits, and for those that look it up the table of layer 4 as its text lays it.
-/
import Derived.Test.YtkigfmfegldhcaaDoorAtA
namespace Go.Proofs.YtkigfmfegldhcaaDoor
open Go.ChangeShapes Go.WideShapes Go.ChangeAt Go.RowKit
open Num (resV resE In64 sgnI absI)
set_option linter.unusedVariables false
theorem ret2 {k l : IntKind} {a b c d : Int} (h : a = b) (h' : c = d) : Ending.returned (.tuple #[.int k a, .int l c]) = .returned (.tuple #[.int k b, .int l d]) := by rw [h, h']
theorem after1 {w w2 : World} {o1 : Obj} (h : Below (w.alloc o1).heap.size (w.alloc o1) w2) : Below w.heap.size w w2 := (one_alloc _ _).trans (h.mono (one_alloc _ _).size)
theorem after2 {w w2 : World} {o1 o2 : Obj} (h : Below ((w.alloc o1).alloc o2).heap.size ((w.alloc o1).alloc o2) w2) : Below w.heap.size w w2 := (two_allocs _ _ _).trans (h.mono (two_allocs _ _ _).size)
theorem three_allocs (w : World) (o1 o2 o3 : Obj) : Below w.heap.size w (((w.alloc o1).alloc o2).alloc o3) := (two_allocs w o1 o2).trans ((one_alloc _ o3).mono (by simp; omega))
theorem after3 {w w2 : World} {o1 o2 o3 : Obj} (h : Below (((w.alloc o1).alloc o2).alloc o3).heap.size (((w.alloc o1).alloc o2).alloc o3) w2) : Below w.heap.size w w2 := (three_allocs _ _ _ _).trans (h.mono (three_allocs _ _ _ _).size)
theorem below_set2 {B : Nat} {a w : World} {b : Nat} {v0 v1 : Value} (h : Below B a w) (hb : B ≤ b) : Below B a ((w.setCell ⟨b, 0, none⟩ v0).setCell ⟨b, 1, none⟩ v1) := (h.setCell (p := ⟨b, 0, none⟩) hb v0).setCell (p := ⟨b, 1, none⟩) hb v1
theorem below_set3 {B : Nat} {a w : World} {b : Nat} {v0 v1 v2 : Value} (h : Below B a w) (hb : B ≤ b) : Below B a (((w.setCell ⟨b, 0, none⟩ v0).setCell ⟨b, 1, none⟩ v1).setCell ⟨b, 2, none⟩ v2) := (below_set2 h hb).setCell (p := ⟨b, 2, none⟩) hb v2
set_option maxHeartbeats 400000 in
theorem not_any (n : Int) (w : World) : Calls Tryd.prog 68 #[.int .i64 n] w fun e w' => e = .returned (.tuple #[.int .i64 (notV n), .int .i64 (notE n)]) ∧ w' = w := by
  by_cases h0 : n = 0
  · subst h0
    go_enter Tryd.func68, Tryd.ntmps68
    go_wp2
    go_ret2
    exact ⟨rfl, rfl⟩
  · by_cases h1 : n = 1
    · subst h1
      go_enter Tryd.func68, Tryd.ntmps68
      go_wp2
      go_ret2
      exact ⟨rfl, rfl⟩
    · have e1 : notV n = 0 := by simp [notV, h0]
      have e2 : notE n = 5 := by simp [notE, h0, h1]
      rw [e1, e2]
      clear e1 e2
      go_enter Tryd.func68, Tryd.ntmps68
      go_wp2
      go_ret2
      exact ⟨rfl, rfl⟩
set_option maxHeartbeats 1000000 in
theorem ofOne_any (op n : Int) (hn : In64 n) (w : World) : Calls Tryd.prog 50 #[.int .i64 op, .int .i64 n] w fun e w' => e = .returned (.tuple #[.int .i64 (oneV op n), .int .i64 (oneE op n)]) ∧ w' = w := by
  have C1 := hide (Num.neg_any n hn w)
  have C2 := hide (Num.sgn_any n w)
  have C3 := hide (Num.abs_any n hn w)
  have C4 := hide (not_any n w)
  unfold oneV oneE
  by_cases h1 : op = 1
  · subst h1
    rw [if_pos rfl, if_pos rfl]
    generalize resV (-n) = v at *
    generalize resE (-n) = u at *
    clear hn C2 C3 C4
    go_enter Tryd.func50, Tryd.ntmps50
    go_wp2_with fail
    refine C1.out.mono ?_
    rintro e w1 ⟨rfl, rfl⟩
    go_wp2
    go_ret2
    exact ⟨rfl, rfl⟩
  · rw [if_neg h1, if_neg h1]
    by_cases h2 : op = 2
    · subst h2
      rw [if_pos rfl, if_pos rfl]
      generalize sgnI n = v at *
      clear hn C1 C3 C4
      go_enter Tryd.func50, Tryd.ntmps50
      go_wp2_with fail
      refine C2.out.mono ?_
      rintro e w1 ⟨rfl, rfl⟩
      go_wp2
      go_ret2
      exact ⟨rfl, rfl⟩
    · rw [if_neg h2, if_neg h2]
      by_cases h3 : op = 3
      · subst h3
        rw [if_pos rfl, if_pos rfl]
        generalize resV (absI n) = v at *
        generalize resE (absI n) = u at *
        clear hn C1 C2 C4
        go_enter Tryd.func50, Tryd.ntmps50
        go_wp2_with fail
        refine C3.out.mono ?_
        rintro e w1 ⟨rfl, rfl⟩
        go_wp2
        go_ret2
        exact ⟨rfl, rfl⟩
      · rw [if_neg h3, if_neg h3]
        generalize notV n = v at *
        generalize notE n = u at *
        clear hn C1 C2 C3
        go_enter Tryd.func50, Tryd.ntmps50
        go_wp2_with fail
        refine C4.out.mono ?_
        rintro e w1 ⟨rfl, rfl⟩
        go_wp2
        go_ret2
        exact ⟨rfl, rfl⟩
set_option maxHeartbeats 400000 in
/-- A number as a cell, unless there is an error. -/
theorem number_any (n e : Int) (w : World) (hn : e ≠ 0 → n = 0) : Calls Tryd.prog 34 #[.int .i64 n, .int .i64 e] w fun r w' => r = .returned (.tuple #[.agg #[.int .i64 0, .int .i64 n, .slice none 0 0], .int .i64 e]) ∧ Below w.heap.size w w' := by
  by_cases h : e = 0
  · subst h
    clear hn
    go_enter Tryd.func34, Tryd.ntmps34
    go_wp2
    exact bodyPost_ret (v := .tuple #[.agg #[.int .i64 0, .int .i64 n, .slice none 0 0], .int .i64 0]) (by simp [results, Tryd.results34, go_sem]) rfl ⟨rfl, by exact (Below.refl _ _).alloc (Nat.le_refl _) _⟩
  · obtain rfl := hn h
    go_enter Tryd.func34, Tryd.ntmps34
    go_wp2
    exact bodyPost_ret (v := .tuple #[.agg #[.int .i64 0, .int .i64 0, .slice none 0 0], .int .i64 e]) (by simp [results, Tryd.results34, go_sem]) rfl ⟨rfl, by exact (Below.refl _ _).alloc (Nat.le_refl _) _⟩
set_option maxHeartbeats 1000000 in
theorem cellOfOne_any (op k n : Int) (ab : Option Addr) (nb cb : Nat) (hn : In64 n) (c : Ce) (hc : c.1 = k ∧ c.2.1 = n) (w : World) :
    Calls Tryd.prog 31 #[.int .i64 op, .agg #[.int .i64 k, .int .i64 n, .slice ab nb cb]] w fun r w' => r = .returned (.tuple #[.agg #[.int .i64 0, .int .i64 (c1V op c), .slice none 0 0], .int .i64 (c1E op c)]) ∧ Below w.heap.size w w' := by
  obtain ⟨h1, h2⟩ := hc
  unfold c1V c1E
  rw [h1, h2]
  clear h1 h2
  by_cases h : k = 0
  · rw [if_pos h, if_pos h]
    subst h
    have C1 := hide (fun w => ofOne_any op n hn w)
    have hb := @one_bad op n
    generalize oneV op n = v at *
    generalize oneE op n = u at *
    have HB := hide hb
    clear hb
    clear hn
    go_enter Tryd.func31, Tryd.ntmps31
    go_wp2_with fail
    refine (C1.out _).mono ?_
    rintro e w1 ⟨rfl, hw⟩
    rw [hw]
    clear hw
    go_wp2_with fail
    refine (number_any _ _ _ HB.out).mono ?_
    rintro e w2 ⟨rfl, hb2⟩
    obtain ⟨hc, hf⟩ := Num.bcell hb2
    go_wp2
    exact bodyPost_ret (v := .tuple #[.agg #[.int .i64 0, .int .i64 v, .slice none 0 0], .int .i64 u]) (by simp [results, Tryd.results31, go_sem, hc]) rfl ⟨rfl, below_set3 (after2 hb2) (by omega)⟩
  · rw [if_neg h, if_neg h]
    go_enter Tryd.func31, Tryd.ntmps31
    go_wp2
    exact bodyPost_ret (v := .tuple #[.agg #[.int .i64 0, .int .i64 0, .slice none 0 0], .int .i64 5]) (by simp [results, Tryd.results31, go_sem]) rfl ⟨rfl, two_allocs _ _ _⟩
theorem is_any (op : Int) (w : World) : Calls Tryd.prog 17 #[.int .i64 op] w fun e w' => e = .returned (.bool (isOp op)) ∧ w' = w := by
  by_cases h1 : 21 ≤ op
  · by_cases h2 : op ≤ 32
    · have e : isOp op = true := by simp [isOp, h1, h2]
      rw [e]
      go_enter Tryd.func17, Tryd.ntmps17
      go_wp2
      go_ret
      exact ⟨rfl, rfl⟩
    · have e : isOp op = false := by simp [isOp, h2]
      rw [e]
      go_enter Tryd.func17, Tryd.ntmps17
      go_wp2
      go_ret
      exact ⟨rfl, rfl⟩
  · have e : isOp op = false := by simp [isOp, h1]
    rw [e]
    go_enter Tryd.func17, Tryd.ntmps17
    go_wp2
    go_ret
    exact ⟨rfl, rfl⟩
/-- What Eq to Ge say of a first one that is below (-1), the same (0), above (1). -/
def ansV (op o : Int) : Int :=
  if op = 27 then tr (decide (o = 0)) else if op = 28 then tr (decide (o ≠ 0)) else if op = 29 then tr (decide (o < 0)) else if op = 30 then tr (decide (0 < o)) else if op = 31 then tr (decide (o ≤ 0)) else tr (decide (0 ≤ o))
/-- The table of layer 4, place by place; it lies where it belongs. -/
def ansT (k : Nat) : Int := ansV (27 + ((k / 3 : Nat) : Int)) (((k % 3 : Nat) : Int) - 1)
def Tab (w : World) : Prop := 0 < w.heap.size ∧ ∀ k, k < 18 → w.cell? ⟨0, k, none⟩ = some (.int .i64 (ansT k))
theorem Tab.below {w w' : World} {B : Nat} (h : Tab w) (hb : Below B w w') (hB : 0 < B) : Tab w' :=
  ⟨Nat.lt_of_lt_of_le h.1 hb.size, fun k hk => (hb.cell (p := ⟨0, k, none⟩) hB).trans (h.2 k hk)⟩
theorem Tab.next {w w' : World} (h : Tab w) (hb : Below w.heap.size w w') : Tab w' := h.below hb h.1
set_option maxHeartbeats 1000000 in
theorem answer_any (op o : Int) (h1 : 27 ≤ op) (h2 : op ≤ 32) (h3 : -1 ≤ o) (h4 : o ≤ 1) (w : World) (T : Tab w) : Calls Tryd.prog 35 #[.int .i64 op, .int .i64 o] w fun e w' => e = .returned (.int .i64 (ansV op o)) ∧ w' = w := by
  have ho : o = -1 ∨ o = 0 ∨ o = 1 := by omega
  have hp : op = 27 ∨ op = 28 ∨ op = 29 ∨ op = 30 ∨ op = 31 ∨ op = 32 := by omega
  have HT := hide T.2
  clear T h1 h2 h3 h4
  rcases hp with rfl | rfl | rfl | rfl | rfl | rfl <;> rcases ho with rfl | rfl | rfl
  · have c : w.cell? ⟨0, 0, none⟩ = some (.int .i64 0) := HT.out 0 (by omega)
    have e : ansV 27 (-1) = 0 := by decide
    rw [e]
    clear HT e
    go_enter Tryd.func35, Tryd.ntmps35
    go_wp2
    go_ret
    exact ⟨rfl, rfl⟩
  · have c : w.cell? ⟨0, 1, none⟩ = some (.int .i64 1) := HT.out 1 (by omega)
    have e : ansV 27 (0) = 1 := by decide
    rw [e]
    clear HT e
    go_enter Tryd.func35, Tryd.ntmps35
    go_wp2
    go_ret
    exact ⟨rfl, rfl⟩
  · have c : w.cell? ⟨0, 2, none⟩ = some (.int .i64 0) := HT.out 2 (by omega)
    have e : ansV 27 (1) = 0 := by decide
    rw [e]
    clear HT e
    go_enter Tryd.func35, Tryd.ntmps35
    go_wp2
    go_ret
    exact ⟨rfl, rfl⟩
  · have c : w.cell? ⟨0, 3, none⟩ = some (.int .i64 1) := HT.out 3 (by omega)
    have e : ansV 28 (-1) = 1 := by decide
    rw [e]
    clear HT e
    go_enter Tryd.func35, Tryd.ntmps35
    go_wp2
    go_ret
    exact ⟨rfl, rfl⟩
  · have c : w.cell? ⟨0, 4, none⟩ = some (.int .i64 0) := HT.out 4 (by omega)
    have e : ansV 28 (0) = 0 := by decide
    rw [e]
    clear HT e
    go_enter Tryd.func35, Tryd.ntmps35
    go_wp2
    go_ret
    exact ⟨rfl, rfl⟩
  · have c : w.cell? ⟨0, 5, none⟩ = some (.int .i64 1) := HT.out 5 (by omega)
    have e : ansV 28 (1) = 1 := by decide
    rw [e]
    clear HT e
    go_enter Tryd.func35, Tryd.ntmps35
    go_wp2
    go_ret
    exact ⟨rfl, rfl⟩
  · have c : w.cell? ⟨0, 6, none⟩ = some (.int .i64 1) := HT.out 6 (by omega)
    have e : ansV 29 (-1) = 1 := by decide
    rw [e]
    clear HT e
    go_enter Tryd.func35, Tryd.ntmps35
    go_wp2
    go_ret
    exact ⟨rfl, rfl⟩
  · have c : w.cell? ⟨0, 7, none⟩ = some (.int .i64 0) := HT.out 7 (by omega)
    have e : ansV 29 (0) = 0 := by decide
    rw [e]
    clear HT e
    go_enter Tryd.func35, Tryd.ntmps35
    go_wp2
    go_ret
    exact ⟨rfl, rfl⟩
  · have c : w.cell? ⟨0, 8, none⟩ = some (.int .i64 0) := HT.out 8 (by omega)
    have e : ansV 29 (1) = 0 := by decide
    rw [e]
    clear HT e
    go_enter Tryd.func35, Tryd.ntmps35
    go_wp2
    go_ret
    exact ⟨rfl, rfl⟩
  · have c : w.cell? ⟨0, 9, none⟩ = some (.int .i64 0) := HT.out 9 (by omega)
    have e : ansV 30 (-1) = 0 := by decide
    rw [e]
    clear HT e
    go_enter Tryd.func35, Tryd.ntmps35
    go_wp2
    go_ret
    exact ⟨rfl, rfl⟩
  · have c : w.cell? ⟨0, 10, none⟩ = some (.int .i64 0) := HT.out 10 (by omega)
    have e : ansV 30 (0) = 0 := by decide
    rw [e]
    clear HT e
    go_enter Tryd.func35, Tryd.ntmps35
    go_wp2
    go_ret
    exact ⟨rfl, rfl⟩
  · have c : w.cell? ⟨0, 11, none⟩ = some (.int .i64 1) := HT.out 11 (by omega)
    have e : ansV 30 (1) = 1 := by decide
    rw [e]
    clear HT e
    go_enter Tryd.func35, Tryd.ntmps35
    go_wp2
    go_ret
    exact ⟨rfl, rfl⟩
  · have c : w.cell? ⟨0, 12, none⟩ = some (.int .i64 1) := HT.out 12 (by omega)
    have e : ansV 31 (-1) = 1 := by decide
    rw [e]
    clear HT e
    go_enter Tryd.func35, Tryd.ntmps35
    go_wp2
    go_ret
    exact ⟨rfl, rfl⟩
  · have c : w.cell? ⟨0, 13, none⟩ = some (.int .i64 1) := HT.out 13 (by omega)
    have e : ansV 31 (0) = 1 := by decide
    rw [e]
    clear HT e
    go_enter Tryd.func35, Tryd.ntmps35
    go_wp2
    go_ret
    exact ⟨rfl, rfl⟩
  · have c : w.cell? ⟨0, 14, none⟩ = some (.int .i64 0) := HT.out 14 (by omega)
    have e : ansV 31 (1) = 0 := by decide
    rw [e]
    clear HT e
    go_enter Tryd.func35, Tryd.ntmps35
    go_wp2
    go_ret
    exact ⟨rfl, rfl⟩
  · have c : w.cell? ⟨0, 15, none⟩ = some (.int .i64 0) := HT.out 15 (by omega)
    have e : ansV 32 (-1) = 0 := by decide
    rw [e]
    clear HT e
    go_enter Tryd.func35, Tryd.ntmps35
    go_wp2
    go_ret
    exact ⟨rfl, rfl⟩
  · have c : w.cell? ⟨0, 16, none⟩ = some (.int .i64 1) := HT.out 16 (by omega)
    have e : ansV 32 (0) = 1 := by decide
    rw [e]
    clear HT e
    go_enter Tryd.func35, Tryd.ntmps35
    go_wp2
    go_ret
    exact ⟨rfl, rfl⟩
  · have c : w.cell? ⟨0, 17, none⟩ = some (.int .i64 1) := HT.out 17 (by omega)
    have e : ansV 32 (1) = 1 := by decide
    rw [e]
    clear HT e
    go_enter Tryd.func35, Tryd.ntmps35
    go_wp2
    go_ret
    exact ⟨rfl, rfl⟩
end Go.Proofs.YtkigfmfegldhcaaDoor
