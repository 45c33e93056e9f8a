/-
  The contracts of the plain functions of layer 1: each call returns the number that the chapter says, or 0 and ErrOverflow, and leaves memory as it was; conditions: the arguments fit int64 (uint64).
-/
import Derived.Test.YtkigfmfegldhcaaDoorRows
import Derived.WalkKit
import Derived.ProofKit
import Derived.OpenShut
import Derived.Lib.Mul64
import Derived.Laws.Bits64b
namespace Go.Proofs.YtkigfmfegldhcaaDoor.Num
open Go.ChangeShapes Go.WideShapes Go.ChangeAt Go.RowKit
def fitB (x : Int) : Bool := decide (-9223372036854775808 ≤ x ∧ x ≤ 9223372036854775807)
def resV (x : Int) : Int := if fitB x then x else 0
def resE (x : Int) : Int := if fitB x then 0 else 9
def rnd (s : Int) : Int := if 9223372036854775807 < s then 1 else if s < -9223372036854775808 then -1 else 0
theorem rnd_up {s : Int} (h : 9223372036854775807 < s) : rnd s = 1 := by simp [rnd, h]
theorem rnd_dn {s : Int} (h : s < -9223372036854775808) : rnd s = -1 := by
  have : ¬ 9223372036854775807 < s := by omega
  simp [rnd, h, this]
theorem rnd_in {s : Int} (h1 : -9223372036854775808 ≤ s) (h2 : s ≤ 9223372036854775807) : rnd s = 0 := by
  have a : ¬ 9223372036854775807 < s := by omega
  have b : ¬ s < -9223372036854775808 := by omega
  simp [rnd, a, b]
theorem fit_in {x : Int} (h1 : -9223372036854775808 ≤ x) (h2 : x ≤ 9223372036854775807) : resV x = x ∧ resE x = 0 := by
  have : fitB x = true := by simp [fitB, h1, h2]
  simp [resV, resE, this]
theorem fit_out {x : Int} (h : x < -9223372036854775808 ∨ 9223372036854775807 < x) : resV x = 0 ∧ resE x = 9 := by
  have : fitB x = false := by simp only [fitB, decide_eq_false_iff_not]; omega
  simp [resV, resE, this]
def In64 (a : Int) : Prop := -9223372036854775808 ≤ a ∧ a ≤ 9223372036854775807
theorem ret2 {k l : IntKind} {a b c d : Int} (h : a = b) (h' : c = d) : Ending.returned (.tuple #[.int k a, .int l c]) = .returned (.tuple #[.int k b, .int l d]) := by rw [h, h']
theorem ret1 {k : IntKind} {a b : Int} (h : a = b) : Ending.returned (.int k a) = .returned (.int k b) := by rw [h]

theorem addRound_any (a b : Int) (ha : In64 a) (hb : In64 b) (w : World) :
    Calls Tryd.prog 71 #[.int .i64 a, .int .i64 b] w fun e w' => e = .returned (.tuple #[.int .i64 (wrap64 (a + b)), .int .i64 (rnd (a + b))]) ∧ w' = w := by
  obtain ⟨ha1, ha2⟩ := ha
  obtain ⟨hb1, hb2⟩ := hb
  by_cases hu : 9223372036854775807 < a + b
  · have e : wrap64 (a + b) = a + b - 18446744073709551616 := by unfold wrap64; omega
    have h1 : 0 < b := by omega
    rw [rnd_up hu]
    go_enter Tryd.func71, Tryd.ntmps71
    go_wp2
    go_ret2
    exact ⟨rfl, rfl⟩
  · by_cases hd : a + b < -9223372036854775808
    · have e : wrap64 (a + b) = a + b + 18446744073709551616 := by unfold wrap64; omega
      have h1 : b < 0 := by omega
      rw [rnd_dn hd]
      go_enter Tryd.func71, Tryd.ntmps71
      go_wp2
      go_ret2
      exact ⟨by simp, rfl⟩
    · have e : wrap64 (a + b) = a + b := IntWalk.wrap64_in _ ⟨by omega, by omega⟩
      rw [rnd_in (by omega) (by omega), e]
      by_cases hb0 : 0 < b
      · go_enter Tryd.func71, Tryd.ntmps71
        go_wp2
        go_ret2
        exact ⟨rfl, rfl⟩
      · by_cases hb1 : b < 0
        · go_enter Tryd.func71, Tryd.ntmps71
          go_wp2
          go_ret2
          exact ⟨rfl, rfl⟩
        · go_enter Tryd.func71, Tryd.ntmps71
          go_wp2
          go_ret2
          exact ⟨rfl, rfl⟩

theorem add_any (a b : Int) (ha : In64 a) (hb : In64 b) (w : World) :
    Calls Tryd.prog 55 #[.int .i64 a, .int .i64 b] w fun e w' => e = .returned (.tuple #[.int .i64 (resV (a + b)), .int .i64 (resE (a + b))]) ∧ w' = w := by
  have ha' := ha
  have hb' := hb
  obtain ⟨ha1, ha2⟩ := ha
  obtain ⟨hb1, hb2⟩ := hb
  by_cases hu : 9223372036854775807 < a + b
  · have f := fit_out (x := a + b) (Or.inr hu)
    have r := rnd_up hu
    rw [f.1, f.2]
    go_enter Tryd.func55, Tryd.ntmps55
    go_wp2_with (go_at_call 71; refine (addRound_any _ _ ha' hb' _).mono ?_; rintro e w' ⟨rfl, rfl⟩; rw [r])
    go_ret2
    exact ⟨rfl, rfl⟩
  · by_cases hd : a + b < -9223372036854775808
    · have f := fit_out (x := a + b) (Or.inl hd)
      have r := rnd_dn hd
      rw [f.1, f.2]
      go_enter Tryd.func55, Tryd.ntmps55
      go_wp2_with (go_at_call 71; refine (addRound_any _ _ ha' hb' _).mono ?_; rintro e w' ⟨rfl, rfl⟩; rw [r])
      go_ret2
      exact ⟨rfl, rfl⟩
    · have f := fit_in (x := a + b) (by omega) (by omega)
      have r := rnd_in (s := a + b) (by omega) (by omega)
      have e : wrap64 (a + b) = a + b := IntWalk.wrap64_in _ ⟨by omega, by omega⟩
      rw [f.1, f.2]
      go_enter Tryd.func55, Tryd.ntmps55
      go_wp2_with (go_at_call 71; refine (addRound_any _ _ ha' hb' _).mono ?_; rintro e w' ⟨rfl, rfl⟩; rw [r, e])
      go_ret2
      exact ⟨rfl, rfl⟩

theorem sub_any (a b : Int) (ha : In64 a) (hb : In64 b) (w : World) :
    Calls Tryd.prog 56 #[.int .i64 a, .int .i64 b] w fun e w' => e = .returned (.tuple #[.int .i64 (resV (a - b)), .int .i64 (resE (a - b))]) ∧ w' = w := by
  obtain ⟨ha1, ha2⟩ := ha
  obtain ⟨hb1, hb2⟩ := hb
  by_cases hu : 9223372036854775807 < a - b
  · have f := fit_out (x := a - b) (Or.inr hu)
    have e : wrap64 (a - b) = a - b - 18446744073709551616 := by unfold wrap64; omega
    have h1 : ¬ 0 < b := by omega
    have h2 : a - b - 18446744073709551616 < a := by omega
    rw [f.1, f.2]
    go_enter Tryd.func56, Tryd.ntmps56
    go_wp2
    go_ret2
    exact ⟨rfl, rfl⟩
  · by_cases hd : a - b < -9223372036854775808
    · have f := fit_out (x := a - b) (Or.inl hd)
      have e : wrap64 (a - b) = a - b + 18446744073709551616 := by unfold wrap64; omega
      have h1 : 0 < b := by omega
      have h2 : ¬ a - b + 18446744073709551616 < a := by omega
      rw [f.1, f.2]
      go_enter Tryd.func56, Tryd.ntmps56
      go_wp2
      go_ret2
      exact ⟨rfl, rfl⟩
    · have f := fit_in (x := a - b) (by omega) (by omega)
      have e : wrap64 (a - b) = a - b := IntWalk.wrap64_in _ ⟨by omega, by omega⟩
      rw [f.1, f.2]
      by_cases hb0 : 0 < b
      · have h2 : a - b < a := by omega
        go_enter Tryd.func56, Tryd.ntmps56
        go_wp2
        go_ret2
        exact ⟨rfl, rfl⟩
      · have h2 : ¬ a - b < a := by omega
        go_enter Tryd.func56, Tryd.ntmps56
        go_wp2
        go_ret2
        exact ⟨rfl, rfl⟩

theorem neg_any (a : Int) (ha : In64 a) (w : World) :
    Calls Tryd.prog 65 #[.int .i64 a] w fun e w' => e = .returned (.tuple #[.int .i64 (resV (-a)), .int .i64 (resE (-a))]) ∧ w' = w := by
  go_enter Tryd.func65, Tryd.ntmps65
  have e0 : (0 : Int) - a = -a := by omega
  go_wp2_with (go_at_call 56; refine (sub_any _ _ ⟨by omega, by omega⟩ ha _).mono ?_; rintro e w' ⟨rfl, rfl⟩)
  go_ret2
  exact ⟨rfl, rfl⟩
def absI (a : Int) : Int := if a < 0 then -a else a
theorem abs_any (a : Int) (ha : In64 a) (w : World) :
    Calls Tryd.prog 67 #[.int .i64 a] w fun e w' => e = .returned (.tuple #[.int .i64 (resV (absI a)), .int .i64 (resE (absI a))]) ∧ w' = w := by
  by_cases h : a < 0
  · have e : absI a = -a := by simp [absI, h]
    rw [e]
    go_enter Tryd.func67, Tryd.ntmps67
    go_wp2_with (go_at_call 65; refine (neg_any _ ha _).mono ?_; rintro e w' ⟨rfl, rfl⟩)
    go_ret2
    exact ⟨rfl, rfl⟩
  · have e : absI a = a := by simp [absI, h]
    have f := fit_in (x := a) ha.1 ha.2
    rw [e, f.1, f.2]
    go_enter Tryd.func67, Tryd.ntmps67
    go_wp2
    go_ret2
    exact ⟨rfl, rfl⟩
def sgnI (a : Int) : Int := if a < 0 then -1 else if 0 < a then 1 else 0
theorem sgn_any (a : Int) (w : World) :
    Calls Tryd.prog 66 #[.int .i64 a] w fun e w' => e = .returned (.int .i64 (sgnI a)) ∧ w' = w := by
  by_cases h : a < 0
  · have e : sgnI a = -1 := by simp [sgnI, h]
    rw [e]
    go_enter Tryd.func66, Tryd.ntmps66
    go_wp2
    go_ret
    exact ⟨rfl, rfl⟩
  · by_cases h' : 0 < a
    · have e : sgnI a = 1 := by simp [sgnI, h, h']
      rw [e]
      go_enter Tryd.func66, Tryd.ntmps66
      go_wp2
      go_ret
      exact ⟨rfl, rfl⟩
    · have e : sgnI a = 0 := by simp [sgnI, h, h']
      rw [e]
      go_enter Tryd.func66, Tryd.ntmps66
      go_wp2
      go_ret
      exact ⟨rfl, rfl⟩
theorem rsgn_any (a : Int) (w : World) :
    Calls Tryd.prog 51 #[.int .i64 a] w fun e w' => e = .returned (.int .i64 (sgnI a)) ∧ w' = w := by
  by_cases h : a < 0
  · have e : sgnI a = -1 := by simp [sgnI, h]
    rw [e]
    go_enter Tryd.func51, Tryd.ntmps51
    go_wp2
    go_ret
    exact ⟨rfl, rfl⟩
  · by_cases h' : 0 < a
    · have e : sgnI a = 1 := by simp [sgnI, h, h']
      rw [e]
      go_enter Tryd.func51, Tryd.ntmps51
      go_wp2
      go_ret
      exact ⟨rfl, rfl⟩
    · have e : sgnI a = 0 := by simp [sgnI, h, h']
      rw [e]
      go_enter Tryd.func51, Tryd.ntmps51
      go_wp2
      go_ret
      exact ⟨rfl, rfl⟩
theorem sizeOf_any (a : Int) (ha : In64 a) (w : World) :
    Calls Tryd.prog 73 #[.int .i64 a] w fun e w' => e = .returned (.int .u64 (a.natAbs : Int)) ∧ w' = w := by
  obtain ⟨ha1, ha2⟩ := ha
  by_cases h : a < 0
  · have e : (a.natAbs : Int) = -a := by omega
    rw [e]
    go_enter Tryd.func73, Tryd.ntmps73
    go_wp2
    go_ret
    exact ⟨ret1 (by rw [IntKind.wrap_u64, IntKind.wrap_u64]; omega), rfl⟩
  · have e : (a.natAbs : Int) = a := by omega
    rw [e]
    go_enter Tryd.func73, Tryd.ntmps73
    go_wp2
    go_ret
    exact ⟨rfl, rfl⟩
def sgdI (m : Int) (below : Bool) : Int := if below then -m else m
theorem signed_any (m : Int) (b : Bool) (h0 : 0 ≤ m) (h1 : m < 18446744073709551616) (w : World) :
    Calls Tryd.prog 74 #[.int .u64 m, .bool b] w fun e w' => e = .returned (.tuple #[.int .i64 (resV (sgdI m b)), .int .i64 (resE (sgdI m b))]) ∧ w' = w := by
  cases b with
  | true =>
    have e : sgdI m true = -m := rfl
    rw [e]
    by_cases h : 9223372036854775808 < m
    · have f := fit_out (x := -m) (by omega)
      rw [f.1, f.2]
      go_enter Tryd.func74, Tryd.ntmps74
      go_wp2
      go_ret2
      exact ⟨rfl, rfl⟩
    · have f := fit_in (x := -m) (by omega) (by omega)
      rw [f.1, f.2]
      go_enter Tryd.func74, Tryd.ntmps74
      go_wp2
      go_ret2
      exact ⟨ret2 (by rw [IntKind.wrap_u64]; unfold wrap64; omega) rfl, rfl⟩
  | false =>
    have e : sgdI m false = m := rfl
    rw [e]
    by_cases h : 9223372036854775807 < m
    · have f := fit_out (x := m) (by omega)
      rw [f.1, f.2]
      go_enter Tryd.func74, Tryd.ntmps74
      go_wp2
      go_ret2
      exact ⟨rfl, rfl⟩
    · have f := fit_in (x := m) (by omega) (by omega)
      rw [f.1, f.2]
      go_enter Tryd.func74, Tryd.ntmps74
      go_wp2
      go_ret2
      exact ⟨rfl, rfl⟩

theorem maskN (a : Nat) (ha : a < 18446744073709551616) : bits .and .u64 (a : Int) 4294967295 = ((a % 4294967296 : Nat) : Int) := by
  have h := bits_and_u64_nat a 4294967295 ha (by omega)
  have e : a &&& 4294967295 = a % 4294967296 := Nat.and_two_pow_sub_one_eq_mod a 32
  rw [e] at h
  exact h
theorem divN (a : Nat) : (a : Int) / 4294967296 = ((a / 4294967296 : Nat) : Int) := by omega
theorem mulN (a b : Nat) : (a : Int) * (b : Int) = ((a * b : Nat) : Int) := (Int.natCast_mul a b).symm
theorem addN (a b : Nat) : (a : Int) + (b : Int) = ((a + b : Nat) : Int) := (Int.natCast_add a b).symm
theorem wrapN (a : Nat) (ha : a < 18446744073709551616) : IntKind.u64.wrap (a : Int) = (a : Int) := by rw [IntKind.wrap_u64]; omega
theorem wrapM (a : Nat) : IntKind.u64.wrap (a : Int) = ((a % 18446744073709551616 : Nat) : Int) := by rw [IntKind.wrap_u64]; omega
set_option maxHeartbeats 1000000 in
theorem mul64_any (x y : Nat) (hx : x < 18446744073709551616) (hy : y < 18446744073709551616) (w : World) :
    Calls Tryd.prog 72 #[.int .u64 x, .int .u64 y] w fun e w' => e = .returned (.tuple #[.int .u64 ((x * y / 18446744073709551616 : Nat) : Int), .int .u64 ((x * y % 18446744073709551616 : Nat) : Int)]) ∧ w' = w := by
  obtain ⟨bd, bt, bw, hhi⟩ := Lib.mul64_hi x y hx hy
  have ba := Lib.half_mul_le (a := x / 4294967296) (b := y / 4294967296) (by omega) (by omega)
  have bb := Lib.half_mul_le (a := x / 4294967296) (b := y % 4294967296) (by omega) (by omega)
  have bc := Lib.half_mul_le (a := x % 4294967296) (b := y / 4294967296) (by omega) (by omega)
  have ba' : x / 4294967296 * (y / 4294967296) < 18446744073709551616 := by omega
  have bb' : x / 4294967296 * (y % 4294967296) < 18446744073709551616 := by omega
  have bc' : x % 4294967296 * (y / 4294967296) < 18446744073709551616 := by omega
  have bh1 : x / 4294967296 * (y / 4294967296) + (x / 4294967296 * (y % 4294967296) + x % 4294967296 * (y % 4294967296) / 4294967296) / 4294967296 < 18446744073709551616 := by omega
  have bh : x / 4294967296 * (y / 4294967296) + (x / 4294967296 * (y % 4294967296) + x % 4294967296 * (y % 4294967296) / 4294967296) / 4294967296 + ((x / 4294967296 * (y % 4294967296) + x % 4294967296 * (y % 4294967296) / 4294967296) % 4294967296 + x % 4294967296 * (y / 4294967296)) / 4294967296 < 18446744073709551616 := by omega
  go_enter Tryd.func72, Tryd.ntmps72
  go_wp2
  simp only [maskN x hx, maskN y hy, divN, mulN, addN, wrapN _ bd, wrapN _ bb', wrapN _ bt, maskN _ bt, wrapN _ bc', wrapN _ bw, wrapN _ ba', wrapN _ bh1, wrapN _ bh, wrapM (x * y)]
  rw [hhi]
  go_ret2
  exact ⟨rfl, rfl⟩
end Go.Proofs.YtkigfmfegldhcaaDoor.Num
