/-
  The contracts of the chapter's Add, Sub, Mul and Abs (the reference): the number if it fits, else 0 and ErrOverflow; nothing that was there is changed; condition: the arguments fit int64.
-/
import Derived.Test.YtkigfmfegldhcaaDoorNumF
namespace Go.Proofs.YtkigfmfegldhcaaDoor.Num
open Go.ChangeShapes Go.WideShapes Go.ChangeAt Go.RowKit
theorem row_two (a b : Int) (ha : In64 a) (hb : In64 b) (w : World) (T : TypeId) : Row (w.alloc (.cells #[.int .i64 a, .int .i64 b] T)) (some ⟨w.heap.size, 0, none⟩) [a, b] := by
  refine ⟨by simp [ha, hb], by simp, Or.inr ⟨_, _, rfl, by simp, ?_⟩⟩
  intro k hk
  match k, hk with
  | 0, _ => simp
  | 1, _ => simp
theorem radd_any (a b : Int) (ha : In64 a) (hb : In64 b) (w : World) :
    Calls Tryd.prog 39 #[.int .i64 a, .int .i64 b] w fun e w' => e = .returned (.tuple #[.int .i64 (resV (a + b)), .int .i64 (resE (a + b))]) ∧ Below w.heap.size w w' := by
  have hs : [a, b].sum = a + b := by simp
  have C := rsum_any [a, b] (some ⟨w.heap.size, 0, none⟩) 2 _ (row_two a b ha hb w 2) (by simp)
  rw [hs] at C
  go_enter Tryd.func39, Tryd.ntmps39
  go_wp2_with (go_at_call 59; refine C.mono ?_; rintro e w1 ⟨rfl, hb1⟩)
  go_ret2
  exact ⟨rfl, ((Below.refl _ _).alloc (Nat.le_refl _) _).trans (hb1.mono (by simp))⟩
theorem rmul_any (a b : Int) (ha : In64 a) (hb : In64 b) (w : World) :
    Calls Tryd.prog 41 #[.int .i64 a, .int .i64 b] w fun e w' => e = .returned (.tuple #[.int .i64 (resV (a * b)), .int .i64 (resE (a * b))]) ∧ Below w.heap.size w w' := by
  have hs : prodL [a, b] = a * b := by simp [prodL]
  have C := rprod_any [a, b] (some ⟨w.heap.size, 0, none⟩) 2 _ (row_two a b ha hb w 2)
  rw [hs] at C
  go_enter Tryd.func41, Tryd.ntmps41
  go_wp2_with (go_at_call 60; refine C.mono ?_; rintro e w1 ⟨rfl, rfl⟩)
  go_ret2
  exact ⟨rfl, ((Below.refl _ _).alloc (Nat.le_refl _) _)⟩
theorem rsub_any (a b : Int) (ha : In64 a) (hb : In64 b) (w : World) :
    Calls Tryd.prog 40 #[.int .i64 a, .int .i64 b] w fun e w' => e = .returned (.tuple #[.int .i64 (resV (a - b)), .int .i64 (resE (a - b))]) ∧ Below w.heap.size w w' := by
  obtain ⟨ha1, ha2⟩ := ha
  obtain ⟨hb1, hb2⟩ := hb
  by_cases h : b = -9223372036854775808
  · subst h
    by_cases h0 : 0 ≤ a
    · have f := fit_out (x := a - -9223372036854775808) (by omega)
      rw [f.1, f.2]
      go_enter Tryd.func40, Tryd.ntmps40
      go_wp2
      go_ret2
      exact ⟨rfl, Below.refl _ _⟩
    · have f := fit_in (x := a - -9223372036854775808) (by omega) (by omega)
      rw [f.1, f.2]
      go_enter Tryd.func40, Tryd.ntmps40
      go_wp2
      go_ret2
      exact ⟨ret2 (by omega) rfl, Below.refl _ _⟩
  · have hs : [a, -b].sum = a - b := by simp; omega
    have t : (b == -9223372036854775808) = false := by simpa using h
    have C := rsum_any [a, -b] (some ⟨w.heap.size, 0, none⟩) 2 _ (row_two a (-b) ⟨by omega, by omega⟩ ⟨by omega, by omega⟩ w 2) (by simp)
    rw [hs] at C
    go_enter Tryd.func40, Tryd.ntmps40
    go_wp2_with (go_at_call 59; refine C.mono ?_; rintro e w1 ⟨rfl, hb1⟩)
    go_ret2
    exact ⟨rfl, ((Below.refl _ _).alloc (Nat.le_refl _) _).trans (hb1.mono (by simp))⟩
theorem rabs_any (a : Int) (ha : In64 a) (w : World) :
    Calls Tryd.prog 52 #[.int .i64 a] w fun e w' => e = .returned (.tuple #[.int .i64 (resV (absI a)), .int .i64 (resE (absI a))]) ∧ Below w.heap.size w w' := by
  by_cases h : a < 0
  · have e : absI a = -a := by simp [absI, h]
    have C := rsub_any 0 a ⟨by omega, by omega⟩ ha w
    have e0 : (0 : Int) - a = -a := by omega
    rw [e0] at C
    rw [e]
    go_enter Tryd.func52, Tryd.ntmps52
    go_wp2_with (go_at_call 40; refine C.mono ?_; rintro e w' ⟨rfl, hb⟩)
    go_ret2
    exact ⟨rfl, hb⟩
  · have e : absI a = a := by simp [absI, h]
    have f := fit_in (x := a) ha.1 ha.2
    rw [e, f.1, f.2]
    go_enter Tryd.func52, Tryd.ntmps52
    go_wp2
    go_ret2
    exact ⟨rfl, Below.refl _ _⟩
theorem row_three (a b c : Int) (ha : In64 a) (hb : In64 b) (hc : In64 c) (w : World) (T : TypeId) : Row (w.alloc (.cells #[.int .i64 a, .int .i64 b, .int .i64 c] T)) (some ⟨w.heap.size, 0, none⟩) [a, b, c] := by
  refine ⟨by simp [ha, hb, hc], by simp, Or.inr ⟨_, _, rfl, by simp, ?_⟩⟩
  intro k hk
  match k, hk with
  | 0, _ => simp
  | 1, _ => simp
  | 2, _ => simp
end Go.Proofs.YtkigfmfegldhcaaDoor.Num
