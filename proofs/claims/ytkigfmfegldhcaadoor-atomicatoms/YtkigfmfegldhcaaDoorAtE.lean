/-
  The contracts of layer 4's closures of Mo and Dy, of the cell beside a place, and of fill; for all arrays of 64 bits.
-/
import Derived.Test.YtkigfmfegldhcaaDoorAtC
import Derived.Test.YtkigfmfegldhcaaDoorAtD
import Derived.Deep.RegionHeld3
namespace Go.Proofs.YtkigfmfegldhcaaDoor
open Go.ChangeShapes Go.WideShapes Go.ChangeAt Go.RowKit
open Num (resV resE In64 sgnI absI)
set_option linter.unusedVariables false
theorem after1d {w w2 : World} {o1 : Obj} (h : Below (w.alloc o1).drew.heap.size (w.alloc o1).drew w2) : Below w.heap.size w w2 := ((one_alloc w o1).drew).trans (h.mono (one_alloc _ _).size)
set_option maxHeartbeats 2000000 in
theorem moOf_any (op k z : Int) (c : Ce) (hc : c.1 = k ∧ c.2.1 = z) (hz : In64 z) (b off i n1 c1 A B : Nat) (ab : Option Addr) (nb cb : Nat) (w : World) (hi : i < n1) (hn1 : n1 ≤ 5864062014805) (hAw : A < w.heap.size) (hBw : B < w.heap.size) (hbw : b < w.heap.size)
    (hA : w.cell? ⟨A, 0, none⟩ = some (.int .i64 op)) (hB : w.cell? ⟨B, 1, none⟩ = some (.slice (some ⟨b, off, none⟩) n1 c1))
    (p0 : w.cell? ⟨b, off + i * 3, none⟩ = some (.int .i64 k)) (p1 : w.cell? ⟨b, off + i * 3 + 1, none⟩ = some (.int .i64 z)) (p2 : w.cell? ⟨b, off + i * 3 + 2, none⟩ = some (.slice ab nb cb)) :
    Calls Tryd.prog 30 #[.int .i64 (i : Int), .pointer (some ⟨A, 0, none⟩), .pointer (some ⟨B, 0, none⟩)] w fun r w' => r = .returned (.tuple #[.agg #[.int .i64 0, .int .i64 (c1V op c), .slice none 0 0], .int .i64 (c1E op c)]) ∧ Below w.heap.size w w' := by
  have C := hide (fun W => cellOfOne_any op k z ab nb cb hz c hc W)
  generalize c1V op c = v at *
  generalize c1E op c = u at *
  clear hc hz
  have hiZ : (0 : Int) ≤ (i : Int) := by omega
  have hiN : (i : Int) < (n1 : Int) := by omega
  have e1 := Nat.ne_of_lt hAw
  have e2 := Nat.ne_of_lt hBw
  have e3 := Nat.ne_of_lt hbw
  go_enter Tryd.func30, Tryd.ntmps30
  go_wp2
  go_region_with (go_at_call 31; refine (C.out _).mono ?_; rintro e w1 ⟨rfl, hb1⟩; obtain ⟨hcl, hfz⟩ := Num.bcell hb1)
  all_goals go_wp2
  all_goals exact bodyPost_ret (v := .tuple #[.agg #[.int .i64 0, .int .i64 v, .slice none 0 0], .int .i64 u]) (by simp [results, Tryd.results30, go_sem, hcl]) rfl ⟨rfl, below_set3 (after1d hb1) (Nat.le_refl _)⟩
set_option maxHeartbeats 1000000 in
/-- The cell of an array that stands beside a place. -/
theorem beside_any (x : Ar) (i : Nat) (k z : Int) (ab : Option Addr) (nb cb : Nat) (b off : Nat) (a1 : Option Addr) (n1 k1 n2 k2 j : Nat) (w : World) (e1 : x.shape.length = n1) (hj : j = if x.shape = [] then 0 else i) (hn2 : n2 ≤ 5864062014805) (hlt : j < n2) (hbw : b < w.heap.size)
    (p0 : w.cell? ⟨b, off + j * 3, none⟩ = some (.int .i64 k)) (p1 : w.cell? ⟨b, off + j * 3 + 1, none⟩ = some (.int .i64 z)) (p2 : w.cell? ⟨b, off + j * 3 + 2, none⟩ = some (.slice ab nb cb)) :
    Calls Tryd.prog 45 #[.agg #[.slice a1 n1 k1, .slice (some ⟨b, off, none⟩) n2 k2], .int .i64 (i : Int)] w fun r w' => r = .returned (.agg #[.int .i64 k, .int .i64 z, .slice ab nb cb]) ∧ Below w.heap.size w w' := by
  by_cases h : x.shape = []
  · rw [if_pos h] at hj
    subst hj
    rw [h] at e1
    simp at e1
    subst e1
    rw [Nat.zero_mul, Nat.add_zero] at p0 p1 p2
    go_enter Tryd.func45, Tryd.ntmps45
    go_wp2
    exact bodyPost_ret (v := .agg #[.int .i64 k, .int .i64 z, .slice ab nb cb]) (by simp [results, Tryd.results45, go_sem]) rfl ⟨rfl, two_allocs _ _ _⟩
  · rw [if_neg h] at hj
    subst hj
    have g : ((n1 : Int) == 0) = false := beq_eq_false_iff_ne.2 (by
      have : n1 ≠ 0 := fun h0 => h (List.eq_nil_of_length_eq_zero (by omega))
      omega)
    clear e1 h
    go_enter Tryd.func45, Tryd.ntmps45
    go_wp2
    exact bodyPost_ret (v := .agg #[.int .i64 k, .int .i64 z, .slice ab nb cb]) (by simp [results, Tryd.results45, go_sem]) rfl ⟨rfl, two_allocs _ _ _⟩
end Go.Proofs.YtkigfmfegldhcaaDoor
