/-
  The contracts of Mul and Res of layer 1 and of the chapter's Res: a * b if it fits, else 0 and ErrOverflow; what is left has the sign of a; condition: the arguments fit int64.
-/
import Derived.Test.YtkigfmfegldhcaaDoorNumA
namespace Go.Proofs.YtkigfmfegldhcaaDoor.Num
open Go.ChangeShapes Go.WideShapes Go.ChangeAt Go.RowKit
theorem natAbs_lt {a : Int} (h : a < 0) : (a.natAbs : Int) = -a := by omega
theorem natAbs_ge {a : Int} (h : ¬ a < 0) : (a.natAbs : Int) = a := by omega
theorem sgd_mul (a b : Int) : sgdI ((a.natAbs : Int) * (b.natAbs : Int)) (!(decide (a < 0) == decide (b < 0))) = a * b := by
  unfold sgdI
  by_cases ha : a < 0 <;> by_cases hb : b < 0 <;> simp [ha, hb, natAbs_lt, natAbs_ge, Int.neg_mul, Int.mul_neg]
theorem fit_big {x : Int} (h : 18446744073709551616 ≤ x.natAbs) : resV x = 0 ∧ resE x = 9 := fit_out (by omega)
theorem mul_any (a b : Int) (ha : In64 a) (hb : In64 b) (w : World) :
    Calls Tryd.prog 57 #[.int .i64 a, .int .i64 b] w fun e w' => e = .returned (.tuple #[.int .i64 (resV (a * b)), .int .i64 (resE (a * b))]) ∧ w' = w := by
  have ha' : a.natAbs < 18446744073709551616 := by obtain ⟨h1, h2⟩ := ha; omega
  have hb' : b.natAbs < 18446744073709551616 := by obtain ⟨h1, h2⟩ := hb; omega
  by_cases h : a.natAbs * b.natAbs < 18446744073709551616
  · have e1 : a.natAbs * b.natAbs / 18446744073709551616 = 0 := Nat.div_eq_of_lt h
    have e2 : a.natAbs * b.natAbs % 18446744073709551616 = a.natAbs * b.natAbs := Nat.mod_eq_of_lt h
    have hs := sgd_mul a b
    go_enter Tryd.func57, Tryd.ntmps57
    go_wp2_with (first | (go_at_call 73; refine (sizeOf_any _ ‹_› _).mono ?_; rintro e w' ⟨rfl, rfl⟩) | (go_at_call 72; refine (mul64_any _ _ ha' hb' _).mono ?_; rintro e w' ⟨rfl, rfl⟩; rw [e1, e2]) | (go_at_call 74; refine (signed_any _ _ (by omega) (by omega) _).mono ?_; rintro e w' ⟨rfl, rfl⟩))
    go_ret2
    exact ⟨rfl, rfl⟩
  · have hab := Int.natAbs_mul a b
    have f := fit_big (x := a * b) (by omega)
    have e1 : ¬ ((a.natAbs * b.natAbs / 18446744073709551616 : Nat) : Int) = 0 := by omega
    have e2 : (((a.natAbs * b.natAbs / 18446744073709551616 : Nat) : Int) != 0) = true := by simpa using e1
    rw [f.1, f.2]
    clear hab f
    obtain ⟨hi, hhi⟩ : ∃ n : Nat, n = a.natAbs * b.natAbs / 18446744073709551616 := ⟨_, rfl⟩
    obtain ⟨lo, hlo⟩ : ∃ n : Nat, n = a.natAbs * b.natAbs % 18446744073709551616 := ⟨_, rfl⟩
    rw [← hhi] at e1 e2
    have HH : Hid (hi = a.natAbs * b.natAbs / 18446744073709551616) := hhi
    have HL : Hid (lo = a.natAbs * b.natAbs % 18446744073709551616) := hlo
    clear hhi hlo h
    go_enter Tryd.func57, Tryd.ntmps57
    go_wp2_with (first | (go_at_call 73; refine (sizeOf_any _ ‹_› _).mono ?_; rintro e w' ⟨rfl, rfl⟩) | (go_at_call 72; refine (mul64_any _ _ ha' hb' _).mono ?_; rintro e w' ⟨rfl, rfl⟩; rw [← HH.out, ← HL.out]))
    go_ret2
    exact ⟨rfl, rfl⟩

theorem mod_facts (a b : Int) (ha : a ≠ 0) : -(a.natAbs : Int) < b.tmod a ∧ b.tmod a < a.natAbs ∧
    b.fmod a = if b.tmod a ≠ 0 ∧ ¬ (b.tmod a < 0 ↔ a < 0) then b.tmod a + a else b.tmod a := by
  have e1 := Int.fmod_eq_emod (a := b) (b := a)
  have e2 := Int.tmod_eq_emod (a := b) (b := a)
  have hd : a ∣ b ↔ b % a = 0 := Int.dvd_iff_emod_eq_zero
  have m0 := Int.emod_nonneg b ha
  have m1 := Int.emod_lt b ha
  rw [e1, e2]
  generalize b % a = m at *
  simp only [hd]
  have m1' : m < (a.natAbs : Int) := m1
  refine ⟨?_, ?_, ?_⟩
  · split <;> omega
  · split <;> omega
  · repeat' split
    all_goals omega
theorem mod_in {a b : Int} (ha : In64 a) (h : a ≠ 0) : In64 (b.tmod a) := by
  have f := mod_facts a b h
  obtain ⟨h1, h2⟩ := ha
  constructor <;> omega
theorem res_any (a b : Int) (ha : In64 a) (w : World) :
    Calls Tryd.prog 58 #[.int .i64 a, .int .i64 b] w fun e w' => e = .returned (.int .i64 (b.fmod a)) ∧ w' = w := by
  by_cases h0 : a = 0
  · subst h0
    rw [Int.fmod_zero]
    go_enter Tryd.func58, Tryd.ntmps58
    go_wp2
    go_ret
    exact ⟨rfl, rfl⟩
  · have f := mod_facts a b h0
    have hin := mod_in (b := b) ha h0
    obtain ⟨hi1, hi2⟩ := hin
    obtain ⟨f1, f2, f3⟩ := f
    obtain ⟨ha1, ha2⟩ := ha
    by_cases c0 : b.tmod a = 0
    · rw [if_neg (by simp [c0])] at f3
      rw [f3, c0]
      clear f3
      go_enter Tryd.func58, Tryd.ntmps58
      go_wp2
      go_ret
      exact ⟨rfl, rfl⟩
    · by_cases c1 : b.tmod a < 0 <;> by_cases c2 : a < 0
      · rw [if_neg (by simp [c1, c2])] at f3
        rw [f3]
        clear f3
        go_enter Tryd.func58, Tryd.ntmps58
        go_wp2
        go_ret
        exact ⟨rfl, rfl⟩
      · rw [if_pos (by simp [c0, c1, c2])] at f3
        rw [f3]
        clear f3
        go_enter Tryd.func58, Tryd.ntmps58
        go_wp2
        go_ret
        exact ⟨rfl, rfl⟩
      · rw [if_pos (by simp [c0, c1, c2])] at f3
        rw [f3]
        clear f3
        go_enter Tryd.func58, Tryd.ntmps58
        go_wp2
        go_ret
        exact ⟨rfl, rfl⟩
      · rw [if_neg (by simp [c1, c2])] at f3
        rw [f3]
        clear f3
        go_enter Tryd.func58, Tryd.ntmps58
        go_wp2
        go_ret
        exact ⟨rfl, rfl⟩
theorem rres_any (a b : Int) (ha : In64 a) (w : World) :
    Calls Tryd.prog 42 #[.int .i64 a, .int .i64 b] w fun e w' => e = .returned (.int .i64 (b.fmod a)) ∧ w' = w := by
  by_cases h0 : a = 0
  · subst h0
    rw [Int.fmod_zero]
    go_enter Tryd.func42, Tryd.ntmps42
    go_wp2
    go_ret
    exact ⟨rfl, rfl⟩
  · by_cases h1 : a = -1
    · subst h1
      have e : b.fmod (-1) = 0 := by
        obtain ⟨g1, g2, g3⟩ := mod_facts (-1) b (by omega)
        have n1 : ((-1 : Int).natAbs : Int) = 1 := rfl
        have z : b.tmod (-1) = 0 := by omega
        simp [g3, z]
      rw [e]
      go_enter Tryd.func42, Tryd.ntmps42
      go_wp2
      go_ret
      exact ⟨rfl, rfl⟩
    · by_cases h2 : a = 1
      · subst h2
        have e : b.fmod 1 = 0 := by simp
        rw [e]
        go_enter Tryd.func42, Tryd.ntmps42
        go_wp2
        go_ret
        exact ⟨rfl, rfl⟩
      · have t1 : (a == -1) = false := by simpa using h1
        have t2 : (a == 1) = false := by simpa using h2
        have f := mod_facts a b h0
        have hin := mod_in (b := b) ha h0
        obtain ⟨hi1, hi2⟩ := hin
        obtain ⟨f1, f2, f3⟩ := f
        obtain ⟨ha1, ha2⟩ := ha
        by_cases c0 : b.tmod a = 0
        · rw [if_neg (by simp [c0])] at f3
          rw [f3, c0]
          clear f3
          go_enter Tryd.func42, Tryd.ntmps42
          go_wp2
          go_ret
          exact ⟨rfl, rfl⟩
        · by_cases c1 : b.tmod a < 0 <;> by_cases c2 : a < 0
          · rw [if_neg (by simp [c1, c2])] at f3
            rw [f3]
            clear f3
            go_enter Tryd.func42, Tryd.ntmps42
            go_wp2
            go_ret
            exact ⟨rfl, rfl⟩
          · rw [if_pos (by simp [c0, c1, c2])] at f3
            rw [f3]
            clear f3
            go_enter Tryd.func42, Tryd.ntmps42
            go_wp2
            go_ret
            exact ⟨rfl, rfl⟩
          · rw [if_pos (by simp [c0, c1, c2])] at f3
            rw [f3]
            clear f3
            go_enter Tryd.func42, Tryd.ntmps42
            go_wp2
            go_ret
            exact ⟨rfl, rfl⟩
          · rw [if_neg (by simp [c1, c2])] at f3
            rw [f3]
            clear f3
            go_enter Tryd.func42, Tryd.ntmps42
            go_wp2
            go_ret
            exact ⟨rfl, rfl⟩
end Go.Proofs.YtkigfmfegldhcaaDoor.Num
