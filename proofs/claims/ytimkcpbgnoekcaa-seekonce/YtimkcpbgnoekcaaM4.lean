/-
  The contracts of layer 3's Cell and Cmp and of what they call.
  Cmp of arrays is an order: turned round it is turned, it leads from one to the next, and what is the same stands alike to all: the plain mathematics of it.
  The contract of the document's Item once more, by the values of the cells; cells added in a row.
  From an order of things to an order of their numbers; the contract of layer 7's comparison of two cells by their numbers (a closure of sorted).
  The contract of layer 7's sorted, of cells by how they stand to one another.
  The first place at which something stands: by going through, and by an order that is searched. Mathematics.
  The contracts of layer 7's comparison with a cell that is sought, of the library's BinarySearchFunc with it, and of the function that finder hands back.
  The contract of the program's allOf of layer 7.
  The contract of layer 7's sorted, of items by a function that compares them.
-/
import Derived.Test.YtimkcpbgnoekcaaM3
import Derived.Test.YtimkcpbgnoekcaaChecked
import GoSem.Claim
import GoSem.ClaimJoined
import GoSem.ClaimMapViews
import Derived.JoinedTies
import Derived.KernelRfl
import Derived.WalkKit
import Derived.ProofKit
import Derived.Below
import Derived.Deep.OwnRows
import Derived.Deep.QuietTactic
import Derived.BigQuiet
import Derived.Deep.RegionWith
import Derived.Laws.MakeOwn
import Derived.Deep.RegionHeld3
import Derived.Laws.IdiomCopy
import Derived.Deep.Cut
import Derived.Deep.LoopGhost
import Derived.OpenShut
import Derived.ChangeOld
import Derived.SizedLaws
import Derived.Deep.Slices
import Derived.Deep.Strs
import Derived.Laws.AppendOwn
import Derived.BigFrame
import Derived.Deep.CutRange
import Derived.Deep.RegionLaw
import Derived.Laws.OwnMore
import Derived.Lib.SliceRun
import Derived.Laws.CopyOwn
import Derived.Lib.Mul64
import Derived.Lib.Overlaps
import Derived.Laws.EntriesVeiled
namespace Go.Proofs.Ytimkcpbgnoekcaa
open Go.ChangeShapes Go.WideShapes Go.ChangeAt Go.RowKit
set_option linter.unusedVariables false
set_option maxRecDepth 100000
theorem nan_any (a : Int) (w : World) : Calls Try.prog 90 #[.int .i64 a] w fun e w' => e = .returned (.bool false) ∧ w' = w := by
  go_enter Try.func90, Try.ntmps90
  go_wp2
  go_ret
  exact ⟨rfl, rfl⟩
theorem nan64_any (a : Int) (w : World) : Calls Try.prog 91 #[.int .i64 a] w fun e w' => e = .returned (.bool false) ∧ w' = w := by
  go_enter Try.func91, Try.ntmps91
  go_wp2
  go_ret
  exact ⟨rfl, rfl⟩
set_option maxHeartbeats 1000000 in
theorem compare_any (a b : Int) (w : World) : Calls Try.prog 81 #[.int .i64 a, .int .i64 b] w fun e w' => e = .returned (.int .i64 (cmp3 a b)) ∧ w' = w := by
  have e1 : a < b → cmp3 a b = -1 := fun h => by simp [cmp3, h]
  have e2 : b < a → cmp3 a b = 1 := fun h => by simp [cmp3, h, Int.not_lt.2 (Int.le_of_lt h)]
  have e3 : ¬ a < b → ¬ b < a → cmp3 a b = 0 := fun h h' => by simp [cmp3, h, h']
  by_cases h1 : a < b
  · rw [e1 h1]
    go_enter Try.func81, Try.ntmps81
    go_wp2_with (go_at_call 90; refine (nan_any _ _).mono ?_; rintro e w' ⟨rfl, hw⟩; rw [hw])
    go_ret
    exact ⟨rfl, rfl⟩
  · by_cases h2 : b < a
    · rw [e2 h2]
      go_enter Try.func81, Try.ntmps81
      go_wp2_with (go_at_call 90; refine (nan_any _ _).mono ?_; rintro e w' ⟨rfl, hw⟩; rw [hw])
      go_ret
      exact ⟨rfl, rfl⟩
    · rw [e3 h1 h2]
      go_enter Try.func81, Try.ntmps81
      go_wp2_with (go_at_call 90; refine (nan_any _ _).mono ?_; rintro e w' ⟨rfl, hw⟩; rw [hw])
      go_ret
      exact ⟨rfl, rfl⟩
set_option maxHeartbeats 1000000 in
theorem compare64_any (a b : Int) (w : World) : Calls Try.prog 82 #[.int .i64 a, .int .i64 b] w fun e w' => e = .returned (.int .i64 (cmp3 a b)) ∧ w' = w := by
  have e1 : a < b → cmp3 a b = -1 := fun h => by simp [cmp3, h]
  have e2 : b < a → cmp3 a b = 1 := fun h => by simp [cmp3, h, Int.not_lt.2 (Int.le_of_lt h)]
  have e3 : ¬ a < b → ¬ b < a → cmp3 a b = 0 := fun h h' => by simp [cmp3, h, h']
  by_cases h1 : a < b
  · rw [e1 h1]
    go_enter Try.func82, Try.ntmps82
    go_wp2_with (go_at_call 91; refine (nan64_any _ _).mono ?_; rintro e w' ⟨rfl, hw⟩; rw [hw])
    go_ret
    exact ⟨rfl, rfl⟩
  · by_cases h2 : b < a
    · rw [e2 h2]
      go_enter Try.func82, Try.ntmps82
      go_wp2_with (go_at_call 91; refine (nan64_any _ _).mono ?_; rintro e w' ⟨rfl, hw⟩; rw [hw])
      go_ret
      exact ⟨rfl, rfl⟩
    · rw [e3 h1 h2]
      go_enter Try.func82, Try.ntmps82
      go_wp2_with (go_at_call 91; refine (nan64_any _ _).mono ?_; rintro e w' ⟨rfl, hw⟩; rw [hw])
      go_ret
      exact ⟨rfl, rfl⟩
set_option maxHeartbeats 1000000 in
theorem by_axis (f : Nat → Int) (m : Nat) (hm : m ≤ 140737488355328) (p q : Value) (w : World)
    (hf : ∀ i, i < m → ∀ w', Below w.heap.size w w' → Calls Try.prog 92 #[.int .i64 (i : Int), p, q] w' fun e w'' => e = .returned (.int .i64 (f i)) ∧ Below w'.heap.size w' w'') :
    Calls Try.prog 93 #[.int .i64 (m : Int), .func (.func 92) #[] #[p, q]] w fun e w' => e = .returned (.int .i64 (firstUp f m)) ∧ Below w.heap.size w w' := by
  have HF : Hid _ := hf
  clear hf
  go_enter Try.func93, Try.ntmps93
  go_wp2
  go_loopw [8] (fun i wr => ∃ j : Nat, j ≤ m ∧ i = .int .i64 j ∧ firstUp f j = 0 ∧ Below w.heap.size w wr) (fun i _ => m - (intOf i).toNat)
  case atStart => exact ⟨0, Nat.zero_le _, rfl, rfl, Below.refl _ _⟩
  case round =>
    obtain ⟨j, hj, rfl, h0, hnx⟩ := hrel
    have H0 : Hid (firstUp f j = 0) := h0
    clear h0
    by_cases hlt : j < m
    · have C := HF.out j hlt wr hnx
      have HR : Hid (f j ≠ 0 → firstUp f m = f j) := fun h => firstUp_hit H0.out h m hlt
      have HS : Hid (firstUp f (j + 1) = f j) := firstUp_step H0.out
      obtain ⟨z, hz⟩ : ∃ z, f j = z := ⟨_, rfl⟩
      rw [hz] at C HR HS
      clear hz
      by_cases hz0 : z = 0
      · subst hz0
        go_wp2_with fail
        refine C.mono ?_
        rintro e w1 ⟨rfl, hb1⟩
        go_wp2
        go_roundw
        case rel => exact ⟨j + 1, by omega, by go_num, HS.out, hnx.trans (hb1.mono hnx.size)⟩
        case measure => simp [intOf]; omega
      · have HZ : Hid (z ≠ 0) := hz0
        go_wp2_with fail
        refine C.mono ?_
        rintro e w1 ⟨rfl, hb1⟩
        go_wp2
        go_ret
        exact ⟨retI (HR.out HZ.out).symm, hnx.trans (hb1.mono hnx.size)⟩
    · have hje : j = m := by omega
      subst hje
      go_wp2
      go_ret
      exact ⟨retI H0.out.symm, hnx⟩
set_option maxHeartbeats 1000000 in
theorem axis_any {lo lo' : Nat} (l m : List Int) (i : Nat) (hi : i < l.length) (hi' : i < m.length) (A B : Nat) (a1 a2 : Option Addr) (n1 n2 c1 c2 : Nat) (w : World) (e1 : l.length = n1) (e2 : m.length = n2)
    (hA : w.cell? ⟨A, 0, none⟩ = some (.slice a1 n1 c1)) (hB : w.cell? ⟨B, 0, none⟩ = some (.slice a2 n2 c2)) (R : Row lo w a1 l) (R' : Row lo' w a2 m) :
    Calls Try.prog 92 #[.int .i64 (i : Int), .pointer (some ⟨A, 0, none⟩), .pointer (some ⟨B, 0, none⟩)] w fun e w' => e = .returned (.int .i64 (cmp3 (l[i]?.getD 0) (m[i]?.getD 0))) ∧ Below w.heap.size w w' := by
  obtain ⟨b, off, ha, hb, hck⟩ := row_at R hi
  obtain ⟨b', off', ha', hb', hck'⟩ := row_at R' hi'
  subst ha
  subst ha'
  have hl := R.1
  have hl' := R'.1
  rw [e1] at hi hl
  rw [e2] at hi' hl'
  generalize l[i]?.getD 0 = s at hck
  generalize m[i]?.getD 0 = t at hck'
  clear R R' e1 e2
  go_enter Try.func92, Try.ntmps92
  go_wp2
  go_quiet ((go_at_call 81; exact Calls.quiet_of_same (compare_any _ _ _)))
  go_wp2
  go_ret
  exact ⟨rfl, drewN_below (Below.refl _ _) _⟩
set_option maxHeartbeats 1000000 in
theorem cellf_any (b off b' off' i n1 n2 c1 c2 A B : Nat) (v0 v1 v2 u0 u1 u2 : Value) (r : Int) (w : World) (hi : i < n1) (hi' : i < n2) (hn1 : n1 ≤ 5864062014805) (hn2 : n2 ≤ 5864062014805)
    (hA : w.cell? ⟨A, 1, none⟩ = some (.slice (some ⟨b, off, none⟩) n1 c1)) (hB : w.cell? ⟨B, 1, none⟩ = some (.slice (some ⟨b', off', none⟩) n2 c2))
    (p0 : w.cell? ⟨b, off + i * 3, none⟩ = some v0) (p1 : w.cell? ⟨b, off + i * 3 + 1, none⟩ = some v1) (p2 : w.cell? ⟨b, off + i * 3 + 2, none⟩ = some v2)
    (q0 : w.cell? ⟨b', off' + i * 3, none⟩ = some u0) (q1 : w.cell? ⟨b', off' + i * 3 + 1, none⟩ = some u1) (q2 : w.cell? ⟨b', off' + i * 3 + 2, none⟩ = some u2)
    (hc : ∀ m, Calls Try.prog 56 #[.agg #[v0, v1, v2], .agg #[u0, u1, u2]] (w.drewN m) fun e w' => e = .returned (.int .i64 r) ∧ Below w.heap.size w w') :
    Calls Try.prog 94 #[.int .i64 (i : Int), .pointer (some ⟨A, 0, none⟩), .pointer (some ⟨B, 0, none⟩)] w fun e w' => e = .returned (.int .i64 r) ∧ Below w.heap.size w w' := by
  have HC : Hid _ := hc
  clear hc
  go_enter Try.func94, Try.ntmps94
  go_wp2
  go_region_with (go_at_call 56; refine (HC.out 1).mono ?_; rintro e w1 ⟨rfl, hb1⟩)
  all_goals go_wp2
  all_goals go_ret
  all_goals exact ⟨rfl, hb1⟩
set_option maxHeartbeats 1000000 in
theorem cell_any (n : Nat) (IH : CmpC 83 n) (c d : Ce) (lo lo' : Nat) (w : World) (v0 v1 v2 u0 u1 u2 : Value) (hc : CeIn (ArIn n lo w) lo w c v0 v1 v2) (hd : CeIn (ArIn n lo' w) lo' w d u0 u1 u2) :
    Calls Try.prog 56 #[.agg #[v0, v1, v2], .agg #[u0, u1, u2]] w fun e w' => e = .returned (.int .i64 (cmpC (cmpA n) c d)) ∧ Below w.heap.size w w' := by
  obtain ⟨rfl, rfl, a, cap, rfl, hl, hx⟩ := hc
  obtain ⟨rfl, rfl, a', cap', rfl, hl', hx'⟩ := hd
  obtain ⟨k, N, box⟩ := c
  obtain ⟨k', N', box'⟩ := d
  simp only at hl hl' hx hx' ⊢
  have K1 : Hid (cmp3 k k' ≠ 0 → cmpC (cmpA n) (k, N, box) (k', N', box') = cmp3 k k') := fun h => by simp [cmpC, h]
  have K2 : Hid (¬ cmp3 k k' ≠ 0 → cmp3 N N' ≠ 0 → cmpC (cmpA n) (k, N, box) (k', N', box') = cmp3 N N') := fun h h' => by simp [cmpC, h, h']
  have K3 : Hid (¬ cmp3 k k' ≠ 0 → ¬ cmp3 N N' ≠ 0 → 0 < box.length ∧ 0 < box'.length → cmpC (cmpA n) (k, N, box) (k', N', box') = cmpA n (bAt box 0) (bAt box' 0)) := fun h h' h'' => by
    unfold cmpC; rw [if_neg h, if_neg h', if_pos h'']
  have K4 : Hid (¬ cmp3 k k' ≠ 0 → ¬ cmp3 N N' ≠ 0 → ¬ (0 < box.length ∧ 0 < box'.length) → cmpC (cmpA n) (k, N, box) (k', N', box') = cmp3 box.length box'.length) := fun h h' h'' => by
    unfold cmpC; rw [if_neg h, if_neg h', if_neg h'']
  generalize cmpC (cmpA n) (k, N, box) (k', N', box') = r at K1 K2 K3 K4
  by_cases h1 : cmp3 k k' ≠ 0
  · have hr : Hid (r = cmp3 k k') := K1.out h1
    clear K1 K2 K3 K4 hx hx'
    generalize box.length = B1
    generalize box'.length = B2
    go_enter Try.func56, Try.ntmps56
    go_wp2_with fail
    refine (compare_any _ _ _).mono ?_
    rintro e w1 ⟨rfl, hw⟩
    rw [hw]
    clear hw
    go_wp2
    go_ret
    exact ⟨retI hr.out.symm, two_allocs _ _ _⟩
  · have H1 : Hid (¬ cmp3 k k' ≠ 0) := h1
    have z1 : cmp3 k k' = 0 := by simpa using h1
    clear h1 K1
    by_cases h2 : cmp3 N N' ≠ 0
    · have hr : Hid (r = cmp3 N N') := K2.out H1.out h2
      clear K2 K3 K4 hx hx'
      generalize box.length = B1
      generalize box'.length = B2
      go_enter Try.func56, Try.ntmps56
      go_wp2_with fail
      refine (compare_any _ _ _).mono ?_
      rintro e w1 ⟨rfl, hw⟩
      rw [hw, z1]
      clear hw
      go_wp2_with fail
      refine (compare64_any _ _ _).mono ?_
      rintro e w1 ⟨rfl, hw⟩
      rw [hw]
      clear hw
      go_wp2
      go_ret
      exact ⟨retI hr.out.symm, two_allocs _ _ _⟩
    · have H2 : Hid (¬ cmp3 N N' ≠ 0) := h2
      have z2 : cmp3 N N' = 0 := by simpa using h2
      clear h2 K2
      by_cases h3 : 0 < box.length ∧ 0 < box'.length
      · have hr : Hid (r = cmpA n (bAt box 0) (bAt box' 0)) := K3.out H1.out H2.out h3
        rcases hx with hx | ⟨b, off, rfl, hlo, hb, hx⟩
        · rw [hx] at h3; simp at h3
        rcases hx' with hx' | ⟨b', off', rfl, hlo', hb', hx'⟩
        · rw [hx'] at h3; simp at h3
        obtain ⟨s0, s1, e0, e1, e2⟩ := hx 0 h3.1
        obtain ⟨t0, t1, f0, f1, f2⟩ := hx' 0 h3.2
        simp only [Nat.zero_mul, Nat.add_zero] at e0 e1 f0 f1
        have g0 := cell_two e0 hb
        have g1 := cell_two e1 hb
        have j0 := cell_two f0 hb'
        have j1 := cell_two f1 hb'
        obtain ⟨h3a, h3b⟩ := h3
        have HX : Hid (Calls Try.prog 83 #[.agg #[s0, s1], .agg #[t0, t1]] ((w.alloc (.cells #[.int .i64 k, .int .i64 N, .slice (some ⟨b, off, none⟩) box.length cap] 39)).alloc (.cells #[.int .i64 k', .int .i64 N', .slice (some ⟨b', off', none⟩) box'.length cap'] 39)).drew fun e w' => e = .returned (.int .i64 r) ∧ Below w.heap.size w w') := by
          have hbel := (two_allocs w (.cells #[.int .i64 k, .int .i64 N, .slice (some ⟨b, off, none⟩) box.length cap] 39) (.cells #[.int .i64 k', .int .i64 N', .slice (some ⟨b', off', none⟩) box'.length cap'] 39)).drew
          refine (IH _ _ lo lo' _ _ _ (e2.next hbel) (f2.next hbel)).mono ?_
          rintro e w1 ⟨rfl, hb1⟩
          exact ⟨retI hr.out.symm, hbel.trans (hb1.mono hbel.size)⟩
        clear K3 K4 hx hx' IH e2 f2 e0 e1 f0 f1 hr H1 H2
        generalize box.length = B1 at h3a hl HX
        generalize box'.length = B2 at h3b hl' HX
        go_enter Try.func56, Try.ntmps56
        go_wp2_with fail
        refine (compare_any _ _ _).mono ?_
        rintro e w1 ⟨rfl, hw⟩
        rw [hw, z1]
        clear hw
        go_wp2_with fail
        refine (compare64_any _ _ _).mono ?_
        rintro e w1 ⟨rfl, hw⟩
        rw [hw, z2]
        clear hw z1 z2
        go_wp2
        go_region_with (go_at_call 83; refine HX.out.mono ?_; rintro e w1 ⟨rfl, hb1⟩)
        all_goals go_wp2
        all_goals go_ret
        all_goals exact ⟨rfl, hb1⟩
      · have hr : Hid (r = cmp3 box.length box'.length) := K4.out H1.out H2.out h3
        clear K3 K4 hx hx' IH H1 H2
        generalize box.length = B1 at h3 hl hr
        generalize box'.length = B2 at h3 hl' hr
        by_cases h4 : 0 < B1
        · have h5 : B2 = 0 := by omega
          subst h5
          clear h3
          go_enter Try.func56, Try.ntmps56
          go_wp2_with fail
          refine (compare_any _ _ _).mono ?_
          rintro e w1 ⟨rfl, hw⟩
          rw [hw, z1]
          clear hw
          go_wp2_with fail
          refine (compare64_any _ _ _).mono ?_
          rintro e w1 ⟨rfl, hw⟩
          rw [hw, z2]
          clear hw z1 z2
          go_wp2_with fail
          refine (compare_any _ _ _).mono ?_
          rintro e w1 ⟨rfl, hw⟩
          rw [hw]
          clear hw
          go_wp2
          go_ret
          exact ⟨retI hr.out.symm, two_allocs _ _ _⟩
        · have h5 : B1 = 0 := by omega
          subst h5
          clear h3 h4
          go_enter Try.func56, Try.ntmps56
          go_wp2_with fail
          refine (compare_any _ _ _).mono ?_
          rintro e w1 ⟨rfl, hw⟩
          rw [hw, z1]
          clear hw
          go_wp2_with fail
          refine (compare64_any _ _ _).mono ?_
          rintro e w1 ⟨rfl, hw⟩
          rw [hw, z2]
          clear hw z1 z2
          go_wp2_with fail
          refine (compare_any _ _ _).mono ?_
          rintro e w1 ⟨rfl, hw⟩
          rw [hw]
          clear hw
          go_wp2
          go_ret
          exact ⟨retI hr.out.symm, two_allocs _ _ _⟩
set_option maxHeartbeats 1000000 in
theorem by_cell (f : Nat → Int) (m : Nat) (hm : m ≤ 140737488355328) (mv : Int) (hmv : mv = (m : Int)) (p q : Value) (w : World)
    (hf : ∀ i, i < m → ∀ w', Below w.heap.size w w' → Calls Try.prog 94 #[.int .i64 (i : Int), p, q] w' fun e w'' => e = .returned (.int .i64 (f i)) ∧ Below w'.heap.size w' w'') :
    Calls Try.prog 93 #[.int .i64 mv, .func (.func 94) #[] #[p, q]] w fun e w' => e = .returned (.int .i64 (firstUp f m)) ∧ Below w.heap.size w w' := by
  subst hmv
  have HF : Hid _ := hf
  clear hf
  go_enter Try.func93, Try.ntmps93
  go_wp2
  go_loopw [8] (fun i wr => ∃ j : Nat, j ≤ m ∧ i = .int .i64 j ∧ firstUp f j = 0 ∧ Below w.heap.size w wr) (fun i _ => m - (intOf i).toNat)
  case atStart => exact ⟨0, Nat.zero_le _, rfl, rfl, Below.refl _ _⟩
  case round =>
    obtain ⟨j, hj, rfl, h0, hnx⟩ := hrel
    have H0 : Hid (firstUp f j = 0) := h0
    clear h0
    by_cases hlt : j < m
    · have C := HF.out j hlt wr hnx
      have HR : Hid (f j ≠ 0 → firstUp f m = f j) := fun h => firstUp_hit H0.out h m hlt
      have HS : Hid (firstUp f (j + 1) = f j) := firstUp_step H0.out
      obtain ⟨z, hz⟩ : ∃ z, f j = z := ⟨_, rfl⟩
      rw [hz] at C HR HS
      clear hz
      by_cases hz0 : z = 0
      · subst hz0
        go_wp2_with fail
        refine C.mono ?_
        rintro e w1 ⟨rfl, hb1⟩
        go_wp2
        go_roundw
        case rel => exact ⟨j + 1, by omega, by go_num, HS.out, hnx.trans (hb1.mono hnx.size)⟩
        case measure => simp [intOf]; omega
      · have HZ : Hid (z ≠ 0) := hz0
        go_wp2_with fail
        refine C.mono ?_
        rintro e w1 ⟨rfl, hb1⟩
        go_wp2
        go_ret
        exact ⟨retI (HR.out HZ.out).symm, hnx.trans (hb1.mono hnx.size)⟩
    · have hje : j = m := by omega
      subst hje
      go_wp2
      go_ret
      exact ⟨retI H0.out.symm, hnx⟩
set_option maxHeartbeats 2000000 in
theorem cmp_any (n : Nat) : CmpC 83 n := by
  induction n with
  | zero => intro x y lo lo' va vb w hx; exact hx.elim
  | succ n IH =>
    intro x y lo lo' va vb w hx hy
    obtain ⟨a1, c1, a2, c2, rfl, R, hl, hc⟩ := hx
    obtain ⟨b1, d1, b2, d2, rfl, R', hl', hd⟩ := hy
    have hmf : ∀ (fn : Fn) (first cap : Array Value) (w : World), (Instr.makeFunc fn first cap).run Try.prog w = .ok (.func fn first cap) w := fun _ _ _ _ => rfl
    have K1 : Hid (cmp3 x.shape.length y.shape.length ≠ 0 → cmpA (n + 1) x y = cmp3 x.shape.length y.shape.length) := fun h => by simp only [cmpA]; rw [if_pos h]
    have K2 : Hid (¬ cmp3 x.shape.length y.shape.length ≠ 0 → firstUp (axF x y) x.shape.length ≠ 0 → cmpA (n + 1) x y = firstUp (axF x y) x.shape.length) := fun h h' => by simp only [cmpA]; rw [if_neg h, if_pos h']
    have K3 : Hid (¬ cmp3 x.shape.length y.shape.length ≠ 0 → ¬ firstUp (axF x y) x.shape.length ≠ 0 → firstUp (ceF (cmpA n) x y) (min x.cells.length y.cells.length) ≠ 0 → cmpA (n + 1) x y = firstUp (ceF (cmpA n) x y) (min x.cells.length y.cells.length)) := fun h h' h'' => by simp only [cmpA]; rw [if_neg h, if_neg h', if_pos h'']
    have K4 : Hid (¬ cmp3 x.shape.length y.shape.length ≠ 0 → ¬ firstUp (axF x y) x.shape.length ≠ 0 → ¬ firstUp (ceF (cmpA n) x y) (min x.cells.length y.cells.length) ≠ 0 → cmpA (n + 1) x y = cmp3 x.cells.length y.cells.length) := fun h h' h'' => by simp only [cmpA]; rw [if_neg h, if_neg h', if_neg h'']
    generalize cmpA (n + 1) x y = r at K1 K2 K3 K4
    by_cases h1 : cmp3 x.shape.length y.shape.length ≠ 0
    · have hr : Hid (r = cmp3 x.shape.length y.shape.length) := K1.out h1
      clear K1 K2 K3 K4 hc hd R R' IH hmf
      generalize x.shape.length = A1 at h1 hr
      generalize y.shape.length = A2 at h1 hr
      generalize x.cells.length = B1
      generalize y.cells.length = B2
      go_enter Try.func83, Try.ntmps83
      go_wp2_with fail
      refine (compare_any _ _ _).mono ?_
      rintro e w1 ⟨rfl, hw⟩
      rw [hw]
      clear hw
      go_wp2
      go_ret
      exact ⟨retI hr.out.symm, two_allocs _ _ _⟩
    · have H1 : Hid (¬ cmp3 x.shape.length y.shape.length ≠ 0) := h1
      have z1 : cmp3 x.shape.length y.shape.length = 0 := by simpa using h1
      have hsl : x.shape.length = y.shape.length := Decidable.byContradiction fun h => h1 (cmp3_ne.2 (by omega))
      have hb0 := two_allocs w (.cells #[.slice a1 x.shape.length c1, .slice a2 x.cells.length c2] 25) (.cells #[.slice b1 y.shape.length d1, .slice b2 y.cells.length d2] 25)
      have sz := size_two w (.cells #[.slice a1 x.shape.length c1, .slice a2 x.cells.length c2] 25) (.cells #[.slice b1 y.shape.length d1, .slice b2 y.cells.length d2] 25)
      have A0 := cell_new1 w #[.slice a1 x.shape.length c1, .slice a2 x.cells.length c2] 25 (0, 0) (.cells #[.slice b1 y.shape.length d1, .slice b2 y.cells.length d2] 25) 0 _ rfl
      have A1 := cell_new1 w #[.slice a1 x.shape.length c1, .slice a2 x.cells.length c2] 25 (0, 0) (.cells #[.slice b1 y.shape.length d1, .slice b2 y.cells.length d2] 25) 1 _ rfl
      have B0 := cell_new2 w #[.slice b1 y.shape.length d1, .slice b2 y.cells.length d2] 25 (0, 0) (.cells #[.slice a1 x.shape.length c1, .slice a2 x.cells.length c2] 25) 0 _ rfl
      have B1 := cell_new2 w #[.slice b1 y.shape.length d1, .slice b2 y.cells.length d2] 25 (0, 0) (.cells #[.slice a1 x.shape.length c1, .slice a2 x.cells.length c2] 25) 1 _ rfl
      have C1 := by_axis (axF x y) x.shape.length R.1 (.pointer (some ⟨w.heap.size, 0, none⟩)) (.pointer (some ⟨w.heap.size + 1, 0, none⟩)) ((w.alloc (.cells #[.slice a1 x.shape.length c1, .slice a2 x.cells.length c2] 25)).alloc (.cells #[.slice b1 y.shape.length d1, .slice b2 y.cells.length d2] 25)) (by
        intro i hi w' hb
        exact axis_any x.shape y.shape i hi (by omega) w.heap.size (w.heap.size + 1) a1 b1 _ _ c1 d1 w' rfl rfl
          ((hb.cell (p := ⟨w.heap.size, 0, none⟩) (by rw [sz]; simp)).trans A0) ((hb.cell (p := ⟨w.heap.size + 1, 0, none⟩) (by rw [sz]; simp)).trans B0) (R.next (hb0.trans (hb.mono (by rw [sz]; omega)))) (R'.next (hb0.trans (hb.mono (by rw [sz]; omega)))))
      have C2 : ∀ w1, Below ((w.alloc (.cells #[.slice a1 x.shape.length c1, .slice a2 x.cells.length c2] 25)).alloc (.cells #[.slice b1 y.shape.length d1, .slice b2 y.cells.length d2] 25)).heap.size ((w.alloc (.cells #[.slice a1 x.shape.length c1, .slice a2 x.cells.length c2] 25)).alloc (.cells #[.slice b1 y.shape.length d1, .slice b2 y.cells.length d2] 25)) w1 →
          ∀ mv : Int, mv = ((min x.cells.length y.cells.length : Nat) : Int) → Calls Try.prog 93 #[.int .i64 mv, .func (.func 94) #[] #[.pointer (some ⟨w.heap.size, 0, none⟩), .pointer (some ⟨w.heap.size + 1, 0, none⟩)]] w1 fun e w' => e = .returned (.int .i64 (firstUp (ceF (cmpA n) x y) (min x.cells.length y.cells.length))) ∧ Below w1.heap.size w1 w' := by
        intro w1 hb1 mv hmv
        refine by_cell (ceF (cmpA n) x y) (min x.cells.length y.cells.length) (by omega) mv hmv _ _ w1 ?_
        intro i hi w' hb
        have hsz := hb1.size
        rw [sz] at hsz
        have hbw : Below w.heap.size w w' := (hb0.trans (hb1.mono (by rw [sz]; omega))).trans (hb.mono (by omega))
        have hb1' := hb1.mono (B' := w.heap.size + 2) (by rw [sz]; exact Nat.le_refl _)
        have hbb := hb
        rcases hc with hc | ⟨b, off, rfl, hlo, hb, hc⟩
        · rw [hc] at hi; simp at hi
        rcases hd with hd | ⟨b', off', rfl, hlo', hb', hd⟩
        · rw [hd] at hi; simp at hi
        obtain ⟨v0, v1, v2, e0, e1, e2, e3⟩ := hc i (by omega)
        obtain ⟨u0, u1, u2, f0, f1, f2, f3⟩ := hd i (by omega)
        refine cellf_any b off b' off' i x.cells.length y.cells.length c2 d2 w.heap.size (w.heap.size + 1) v0 v1 v2 u0 u1 u2 (ceF (cmpA n) x y i) w' (by omega) (by omega) hl hl'
          ((hbb.cell (p := ⟨w.heap.size, 1, none⟩) (by show w.heap.size < w1.heap.size; omega)).trans ((hb1'.cell (p := ⟨w.heap.size, 1, none⟩) (by show w.heap.size < w.heap.size + 2; omega)).trans A1))
          ((hbb.cell (p := ⟨w.heap.size + 1, 1, none⟩) (by show w.heap.size + 1 < w1.heap.size; omega)).trans ((hb1'.cell (p := ⟨w.heap.size + 1, 1, none⟩) (by show w.heap.size + 1 < w.heap.size + 2; omega)).trans B1))
          ((hbw.cell (p := ⟨b, off + i * 3, none⟩) hb).trans e0) ((hbw.cell (p := ⟨b, off + i * 3 + 1, none⟩) hb).trans e1) ((hbw.cell (p := ⟨b, off + i * 3 + 2, none⟩) hb).trans e2)
          ((hbw.cell (p := ⟨b', off' + i * 3, none⟩) hb').trans f0) ((hbw.cell (p := ⟨b', off' + i * 3 + 1, none⟩) hb').trans f1) ((hbw.cell (p := ⟨b', off' + i * 3 + 2, none⟩) hb').trans f2) ?_
        intro m
        have hbm := drewN_below hbw m
        refine (cell_any n IH _ _ lo lo' (w'.drewN m) _ _ _ _ _ _ (e3.mono (Nat.le_refl _) hbm fun x v h => h.next hbm) (f3.mono (Nat.le_refl _) hbm fun x v h => h.next hbm)).mono ?_
        rintro e w2 ⟨he, hb2⟩
        exact ⟨he, (drewN_below (Below.refl _ _) m).trans hb2⟩
      have HC2 : Hid _ := C2
      have HB0 : Hid _ := hb0
      have HSZ : Hid _ := sz
      have HAB : Hid _ := And.intro A1 B1
      clear C2 hc hd R R' IH A0 B0 A1 B1 hb0 sz h1 hsl K1
      have HM : Hid (∀ B1 B2 : Nat, (if (B2 : Int) < (B1 : Int) then (B2 : Int) else (B1 : Int)) = ((min B1 B2 : Nat) : Int)) := fun B1 B2 => by split <;> omega
      generalize x.shape.length = SA at *
      generalize y.shape.length = SB at *
      generalize x.cells.length = CA at *
      generalize y.cells.length = CB at *
      generalize firstUp (axF x y) SA = F1 at *
      generalize firstUp (ceF (cmpA n) x y) (min CA CB) = F2 at *
      by_cases h2 : F1 ≠ 0
      · have hr : Hid (r = F1) := K2.out H1.out h2
        clear K2 K3 K4 HC2 HAB HSZ H1
        go_enter Try.func83, Try.ntmps83
        go_wp2_with fail
        refine (compare_any _ _ _).mono ?_
        rintro e w1 ⟨rfl, hw⟩
        rw [hw, z1]
        clear hw
        go_wp2_with fail
        refine C1.mono ?_
        rintro e w1 ⟨rfl, hb1⟩
        go_wp2
        go_ret
        exact ⟨retI hr.out.symm, HB0.out.trans (hb1.mono HB0.out.size)⟩
      · have H2 : Hid (¬ F1 ≠ 0) := h2
        have z2 : F1 = 0 := by simpa using h2
        subst z2
        clear h2
        by_cases h3 : F2 ≠ 0
        · have hr : Hid (r = F2) := K3.out H1.out H2.out h3
          clear K2 K3 K4 H1 H2
          go_enter Try.func83, Try.ntmps83
          go_wp2_with fail
          refine (compare_any _ _ _).mono ?_
          rintro e w1 ⟨rfl, hw⟩
          rw [hw, z1]
          clear hw
          go_wp2_with fail
          refine C1.mono ?_
          rintro e w1 ⟨rfl, hb1⟩
          have q1 : w1.cell? ⟨w.heap.size, 1, none⟩ = some (.slice a2 CA c2) := (hb1.cell (p := ⟨w.heap.size, 1, none⟩) (by rw [HSZ.out]; show w.heap.size < _; omega)).trans HAB.out.1
          have q2 : w1.cell? ⟨w.heap.size + 1, 1, none⟩ = some (.slice b2 CB d2) := (hb1.cell (p := ⟨w.heap.size + 1, 1, none⟩) (by rw [HSZ.out]; show w.heap.size + 1 < _; omega)).trans HAB.out.2
          have HC3 : Hid _ := HC2.out w1 hb1
          have HB1 : Hid (Below w.heap.size w w1) := HB0.out.trans (hb1.mono HB0.out.size)
          clear HC2 HAB HSZ hb1 C1 HB0
          go_wp2_with fail
          all_goals
            refine (HC3.out _ (by omega)).mono ?_
            rintro e w2 ⟨rfl, hb2⟩
            go_wp2
            go_ret
            exact ⟨retI hr.out.symm, HB1.out.trans (hb2.mono HB1.out.size)⟩
        · have hr : Hid (r = cmp3 CA CB) := K4.out H1.out H2.out h3
          have z3 : F2 = 0 := by simpa using h3
          subst z3
          clear K2 K3 K4 H1 H2 h3
          go_enter Try.func83, Try.ntmps83
          go_wp2_with fail
          refine (compare_any _ _ _).mono ?_
          rintro e w1 ⟨rfl, hw⟩
          rw [hw, z1]
          clear hw
          go_wp2_with fail
          refine C1.mono ?_
          rintro e w1 ⟨rfl, hb1⟩
          have q1 : w1.cell? ⟨w.heap.size, 1, none⟩ = some (.slice a2 CA c2) := (hb1.cell (p := ⟨w.heap.size, 1, none⟩) (by rw [HSZ.out]; show w.heap.size < _; omega)).trans HAB.out.1
          have q2 : w1.cell? ⟨w.heap.size + 1, 1, none⟩ = some (.slice b2 CB d2) := (hb1.cell (p := ⟨w.heap.size + 1, 1, none⟩) (by rw [HSZ.out]; show w.heap.size + 1 < _; omega)).trans HAB.out.2
          have HC3 : Hid _ := HC2.out w1 hb1
          have HB1 : Hid (Below w.heap.size w w1) := HB0.out.trans (hb1.mono HB0.out.size)
          have hs1 : w.heap.size + 2 ≤ w1.heap.size := by have := hb1.size; rw [HSZ.out] at this; exact this
          have HS1 : Hid (w.heap.size + 2 ≤ w1.heap.size) := hs1
          clear HC2 HAB HSZ hb1 C1 HB0 hs1
          go_wp2_with fail
          all_goals
            refine (HC3.out _ (by omega)).mono ?_
            rintro e w2 ⟨rfl, hb2⟩
            have q3 : w2.cell? ⟨w.heap.size, 1, none⟩ = some (.slice a2 CA c2) := (hb2.cell (p := ⟨w.heap.size, 1, none⟩) (by have := HS1.out; show w.heap.size < _; omega)).trans q1
            have q4 : w2.cell? ⟨w.heap.size + 1, 1, none⟩ = some (.slice b2 CB d2) := (hb2.cell (p := ⟨w.heap.size + 1, 1, none⟩) (by have := HS1.out; show w.heap.size + 1 < _; omega)).trans q2
            have HB2 : Hid (Below w.heap.size w w2) := HB1.out.trans (hb2.mono HB1.out.size)
            clear hb2 HC3 HB1 q1 q2
            go_wp2_with fail
            refine (compare_any _ _ _).mono ?_
            rintro e w3 ⟨rfl, hw⟩
            rw [hw]
            clear hw
            go_wp2
            go_ret
            exact ⟨retI hr.out.symm, HB2.out⟩
end Go.Proofs.Ytimkcpbgnoekcaa
namespace Go.Proofs.Ytimkcpbgnoekcaa
set_option linter.unusedVariables false
set_option maxRecDepth 100000
structure Ord {α : Type} (f : α → α → Int) : Prop where
  anti : ∀ x y, f y x = - f x y
  trans : ∀ x y z, f x y ≤ 0 → f y z ≤ 0 → f x z ≤ 0
  rng : ∀ x y, f x y = -1 ∨ f x y = 0 ∨ f x y = 1
theorem Ord.self {α : Type} {f : α → α → Int} (h : Ord f) (x : α) : f x x = 0 := by
  have := h.anti x x
  omega
theorem Ord.pull {α β : Type} {f : α → α → Int} (h : Ord f) (k : β → α) : Ord fun x y => f (k x) (k y) :=
  ⟨fun x y => h.anti _ _, fun x y z => h.trans _ _ _, fun x y => h.rng _ _⟩
theorem ord3 : Ord cmp3 := by
  refine ⟨?_, ?_, ?_⟩
  · intro x y; unfold cmp3; split <;> split <;> (try split) <;> omega
  · intro x y z; unfold cmp3; split <;> split <;> (try split) <;> (try split) <;> (try split) <;> omega
  · intro x y; unfold cmp3; split <;> (try split) <;> omega
theorem Ord.lex {α : Type} {f h : α → α → Int} (F : Ord f) (H : Ord h) : Ord fun x y => if f x y ≠ 0 then f x y else h x y := by
  refine ⟨?_, ?_, ?_⟩
  · intro x y
    have := F.anti x y
    have := H.anti x y
    by_cases e : f x y = 0
    · rw [if_neg (by omega), if_neg (by omega)]; omega
    · rw [if_pos (by omega), if_pos e]; omega
  · intro x y z
    have a1 := F.anti x y
    have a2 := F.anti y z
    have a3 := F.anti x z
    have t1 := F.trans x y z
    have t2 := F.trans z x y
    have t3 := F.trans y z x
    have t4 := F.trans z y x
    have t5 := H.trans x y z
    intro h1 h2
    by_cases e1 : f x y = 0
    · rw [if_neg (by omega)] at h1
      by_cases e2 : f y z = 0
      · rw [if_neg (by omega)] at h2
        by_cases e3 : f x z = 0
        · rw [if_neg (by omega)]; exact t5 h1 h2
        · rw [if_pos e3]; exact t1 (by omega) (by omega)
      · rw [if_pos e2] at h2
        by_cases e3 : f x z = 0
        · exfalso; have := t2 (by omega) (by omega); omega
        · rw [if_pos e3]; exact t1 (by omega) (by omega)
    · rw [if_pos e1] at h1
      by_cases e2 : f y z = 0
      · by_cases e3 : f x z = 0
        · exfalso; have := t3 (by omega) (by omega); omega
        · rw [if_pos e3]; exact t1 (by omega) (by omega)
      · rw [if_pos e2] at h2
        by_cases e3 : f x z = 0
        · exfalso; have := t3 (by omega) (by omega); omega
        · rw [if_pos e3]; exact t1 (by omega) (by omega)
  · intro x y
    by_cases e : f x y = 0
    · rw [if_neg (by omega)]; exact H.rng x y
    · rw [if_pos e]; exact F.rng x y
/-- Two lists, one by one, then how many. -/
def listCmp {α : Type} (g : α → α → Int) : List α → List α → Int
  | [], [] => 0
  | [], _ :: _ => -1
  | _ :: _, [] => 1
  | a :: l, b :: m => if g a b ≠ 0 then g a b else listCmp g l m
theorem ord_list {α : Type} {g : α → α → Int} (G : Ord g) : Ord (listCmp g) := by
  refine ⟨?_, ?_, ?_⟩
  · intro x
    induction x with
    | nil => intro y; cases y <;> simp [listCmp]
    | cons a l ih =>
      intro y
      cases y with
      | nil => simp [listCmp]
      | cons b m =>
        have h1 := G.anti a b
        have h2 := ih m
        simp only [listCmp]
        by_cases e : g a b = 0
        · rw [if_neg (by omega), if_neg (by omega)]; exact h2
        · rw [if_pos (by omega), if_pos e]; exact h1
  · intro x
    induction x with
    | nil =>
      intro y z
      cases z with
      | nil => simp [listCmp]
      | cons c p => intros; simp [listCmp]
    | cons a l ih =>
      intro y z
      cases y with
      | nil => simp [listCmp]
      | cons b m =>
        cases z with
        | nil => simp [listCmp]
        | cons c p =>
          have a1 := G.anti a b
          have a2 := G.anti b c
          have a3 := G.anti a c
          have t1 := G.trans a b c
          have t2 := G.trans c a b
          have t3 := G.trans b c a
          have t5 := ih m p
          simp only [listCmp]
          intro h1 h2
          by_cases e1 : g a b = 0
          · rw [if_neg (by omega)] at h1
            by_cases e2 : g b c = 0
            · rw [if_neg (by omega)] at h2
              by_cases e3 : g a c = 0
              · rw [if_neg (by omega)]; exact t5 h1 h2
              · rw [if_pos e3]; exact t1 (by omega) (by omega)
            · rw [if_pos e2] at h2
              by_cases e3 : g a c = 0
              · exfalso; have := t2 (by omega) (by omega); omega
              · rw [if_pos e3]; exact t1 (by omega) (by omega)
          · rw [if_pos e1] at h1
            by_cases e2 : g b c = 0
            · by_cases e3 : g a c = 0
              · exfalso; have := t3 (by omega) (by omega); omega
              · rw [if_pos e3]; exact t1 (by omega) (by omega)
            · rw [if_pos e2] at h2
              by_cases e3 : g a c = 0
              · exfalso; have := t3 (by omega) (by omega); omega
              · rw [if_pos e3]; exact t1 (by omega) (by omega)
  · intro x
    induction x with
    | nil => intro y; cases y <;> simp [listCmp]
    | cons a l ih =>
      intro y
      cases y with
      | nil => simp [listCmp]
      | cons b m =>
        simp only [listCmp]
        by_cases e : g a b = 0
        · rw [if_neg (by omega)]; exact ih m
        · rw [if_pos e]; exact G.rng a b
theorem firstUp_cons (f : Nat → Int) (m : Nat) : firstUp f (m + 1) = if f 0 ≠ 0 then f 0 else firstUp (fun i => f (i + 1)) m := by
  induction m with
  | zero => simp only [firstUp]; by_cases h : f 0 = 0 <;> simp [h]
  | succ m ih =>
    have e : firstUp f (m + 1 + 1) = if firstUp f (m + 1) = 0 then f (m + 1) else firstUp f (m + 1) := rfl
    rw [e, ih]
    by_cases h : f 0 = 0
    · simp only [h, ne_eq, not_true_eq_false, if_false]
      rfl
    · simp [h]
theorem list_first {α : Type} (g : α → α → Int) (d : α) (l m : List α) : listCmp g l m = if firstUp (fun i => g (l[i]?.getD d) (m[i]?.getD d)) (min l.length m.length) ≠ 0 then firstUp (fun i => g (l[i]?.getD d) (m[i]?.getD d)) (min l.length m.length) else cmp3 l.length m.length := by
  induction l generalizing m with
  | nil =>
    cases m with
    | nil => simp [listCmp, firstUp, cmp3]
    | cons b m =>
      have h : min ([] : List α).length (b :: m).length = 0 := by simp
      rw [h]
      have : (0 : Int) < ((b :: m).length : Int) := by simp only [List.length_cons]; omega
      simp only [listCmp, firstUp, ne_eq, not_true_eq_false, if_false, cmp3, List.length_nil]
      rw [if_pos (by omega)]
  | cons a l ih =>
    cases m with
    | nil =>
      have h : min (a :: l).length ([] : List α).length = 0 := by simp
      rw [h]
      have : (0 : Int) < ((a :: l).length : Int) := by simp only [List.length_cons]; omega
      simp only [listCmp, firstUp, ne_eq, not_true_eq_false, if_false, cmp3, List.length_nil]
      rw [if_neg (by omega), if_pos (by omega)]
    | cons b m =>
      have h : min (a :: l).length (b :: m).length = min l.length m.length + 1 := by simp only [List.length_cons]; omega
      rw [h, firstUp_cons]
      simp only [listCmp, List.getElem?_cons_zero, Option.getD_some, List.getElem?_cons_succ]
      have hc : cmp3 ((a :: l).length : Int) ((b :: m).length : Int) = cmp3 l.length m.length := by
        unfold cmp3
        simp only [List.length_cons]
        by_cases h1 : (l.length : Int) < m.length
        · rw [if_pos (by omega), if_pos h1]
        · rw [if_neg (by omega), if_neg h1]
          by_cases h2 : (m.length : Int) < l.length
          · rw [if_pos (by omega), if_pos h2]
          · rw [if_neg (by omega), if_neg h2]
      rw [hc]
      by_cases e : g a b = 0
      · simp only [e, ne_eq, not_true_eq_false, if_false]
        exact ih m
      · simp [e]
/-- What is in a box. -/
def boxCmp (f : Ar → Ar → Int) (l m : List Ar) : Int := if 0 < l.length ∧ 0 < m.length then f (bAt l 0) (bAt m 0) else cmp3 l.length m.length
theorem ord_box {f : Ar → Ar → Int} (F : Ord f) : Ord (boxCmp f) := by
  refine ⟨?_, ?_, ?_⟩
  · intro x y
    have := F.anti (bAt x 0) (bAt y 0)
    have := ord3.anti x.length y.length
    unfold boxCmp
    by_cases h : 0 < x.length ∧ 0 < y.length
    · rw [if_pos h, if_pos ⟨h.2, h.1⟩]; omega
    · rw [if_neg h, if_neg (fun k => h ⟨k.2, k.1⟩)]; omega
  · intro x y z
    have t := F.trans (bAt x 0) (bAt y 0) (bAt z 0)
    unfold boxCmp
    intro h1 h2
    by_cases hx : 0 < x.length
    · by_cases hy : 0 < y.length
      · by_cases hz : 0 < z.length
        · rw [if_pos ⟨hx, hy⟩] at h1
          rw [if_pos ⟨hy, hz⟩] at h2
          rw [if_pos ⟨hx, hz⟩]
          exact t h1 h2
        · rw [if_neg (fun k => hz k.2)] at h2
          unfold cmp3 at h2
          rw [if_neg (by omega), if_pos (by omega)] at h2
          omega
      · rw [if_neg (fun k => hy k.2)] at h1
        unfold cmp3 at h1
        rw [if_neg (by omega), if_pos (by omega)] at h1
        omega
    · rw [if_neg (fun k => hx k.1)]
      unfold cmp3
      by_cases hz : 0 < z.length
      · rw [if_pos (by omega)]; omega
      · rw [if_neg (by omega), if_neg (by omega)]; omega
  · intro x y
    unfold boxCmp
    by_cases h : 0 < x.length ∧ 0 < y.length
    · rw [if_pos h]; exact F.rng _ _
    · rw [if_neg h]; exact ord3.rng _ _
theorem ord_cell {f : Ar → Ar → Int} (F : Ord f) : Ord (cmpC f) := by
  have h := ((ord3.pull (fun c : Ce => c.1)).lex ((ord3.pull (fun c : Ce => c.2.1)).lex ((ord_box F).pull (fun c : Ce => c.2.2))))
  have e : cmpC f = fun c d => if cmp3 c.1 d.1 ≠ 0 then cmp3 c.1 d.1 else if cmp3 c.2.1 d.2.1 ≠ 0 then cmp3 c.2.1 d.2.1 else boxCmp f c.2.2 d.2.2 := rfl
  rw [e]
  exact h
theorem cmpA_lex (n : Nat) (x y : Ar) : cmpA (n + 1) x y = if cmp3 x.shape.length y.shape.length ≠ 0 then cmp3 x.shape.length y.shape.length else if listCmp cmp3 x.shape y.shape ≠ 0 then listCmp cmp3 x.shape y.shape else listCmp (cmpC (cmpA n)) x.cells y.cells := by
  simp only [cmpA]
  by_cases h1 : cmp3 x.shape.length y.shape.length ≠ 0
  · rw [if_pos h1, if_pos h1]
  · rw [if_neg h1, if_neg h1]
    have hl : x.shape.length = y.shape.length := Decidable.byContradiction fun h => h1 (cmp3_ne.2 (by omega))
    have e1 : listCmp cmp3 x.shape y.shape = firstUp (axF x y) x.shape.length := by
      rw [list_first cmp3 0 x.shape y.shape, ← hl, Nat.min_self, cmp3_self]
      show (if firstUp (axF x y) x.shape.length ≠ 0 then firstUp (axF x y) x.shape.length else 0) = _
      by_cases h : firstUp (axF x y) x.shape.length = 0 <;> simp [h]
    have e2 : listCmp (cmpC (cmpA n)) x.cells y.cells = if firstUp (ceF (cmpA n) x y) (min x.cells.length y.cells.length) ≠ 0 then firstUp (ceF (cmpA n) x y) (min x.cells.length y.cells.length) else cmp3 x.cells.length y.cells.length := list_first (cmpC (cmpA n)) (0, 0, []) x.cells y.cells
    rw [e1, e2]
theorem ord_arr (n : Nat) : Ord (cmpA n) := by
  induction n with
  | zero => exact ⟨fun _ _ => rfl, fun _ _ _ _ _ => Int.le_refl _, fun _ _ => Or.inr (Or.inl rfl)⟩
  | succ n ih =>
    have h := (ord3.pull (fun x : Ar => (x.shape.length : Int))).lex (((ord_list ord3).pull Ar.shape).lex ((ord_list (ord_cell ih)).pull Ar.cells))
    have e : cmpA (n + 1) = fun x y => if cmp3 x.shape.length y.shape.length ≠ 0 then cmp3 x.shape.length y.shape.length else if listCmp cmp3 x.shape y.shape ≠ 0 then listCmp cmp3 x.shape y.shape else listCmp (cmpC (cmpA n)) x.cells y.cells := by
      funext x y
      exact cmpA_lex n x y
    rw [e]
    exact h
/-- What is the same stands alike to all. -/
theorem Ord.alike {α : Type} {f : α → α → Int} (h : Ord f) {x y z : α} (e : f x y = 0) : f x z = f y z := by
  have a1 := h.anti x y
  have a2 := h.anti x z
  have a3 := h.anti y z
  have t1 := h.trans x y z
  have t2 := h.trans y x z
  have t3 := h.trans z x y
  have t4 := h.trans z y x
  have r1 := h.rng x z
  have r2 := h.rng y z
  rcases r1 with r1 | r1 | r1 <;> rcases r2 with r2 | r2 | r2 <;> omega
end Go.Proofs.Ytimkcpbgnoekcaa
namespace Go.Proofs.Ytimkcpbgnoekcaa
open Go.ChangeShapes Go.WideShapes Go.ChangeAt Go.RowKit
set_option linter.unusedVariables false
set_option maxRecDepth 100000
/-- The cells of an array in memory, by their values. -/
def CellsFn (n lo : Nat) (w : World) (cs : List Ce) (a : Option Addr) (ab : Nat → Option Addr) (cb : Nat → Nat) : Prop :=
  0 < cs.length → ∃ b off, a = some ⟨b, off, none⟩ ∧ lo ≤ b ∧ b < w.heap.size ∧ ∀ i, i < cs.length → w.cell? ⟨b, off + i * 3, none⟩ = some (.int .i64 (cAt cs i).1) ∧ w.cell? ⟨b, off + i * 3 + 1, none⟩ = some (.int .i64 (cAt cs i).2.1) ∧ w.cell? ⟨b, off + i * 3 + 2, none⟩ = some (.slice (ab i) (cAt cs i).2.2.length (cb i)) ∧
    CeIn (ArIn n lo w) lo w (cAt cs i) (.int .i64 (cAt cs i).1) (.int .i64 (cAt cs i).2.1) (.slice (ab i) (cAt cs i).2.2.length (cb i))
theorem part_lies {n lo : Nat} {w : World} {cs : List Ce} {a : Option Addr} {ab : Nat → Option Addr} {cb : Nat → Nat} {c : Nat} (h : CellsFn n lo w cs a ab cb) (fr m : Nat) (hm : fr + m ≤ cs.length) (hcap : cs.length ≤ c) : Lies w (subA a fr c 3) (rowT (fun q => cellT cs ab cb (fr + q)) m) := by
  rcases Nat.eq_zero_or_pos m with rfl | h0
  · exact ⟨Or.inl rfl, fun u hu => absurd hu (by simp [rowT])⟩
  · obtain ⟨b, off, rfl, -, hb, hc⟩ := h (by omega)
    exact lies_part hb (fun i hi => ⟨(hc i hi).1, (hc i hi).2.1, (hc i hi).2.2.1⟩) fr m c hm hcap h0
theorem lies_own {w : World} {base m c : Nat} {a : Option Addr} {T : Nat → Value × Value × Value} (h : w.ownsRow base 39 3 (.slice a m c) m (rowT T m)) (h1 : ∀ q, (T q).1.oneCell' = true ∧ (T q).2.1.oneCell' = true ∧ (T q).2.2.oneCell' = true) : Lies w a (rowT T m) := by
  obtain ⟨a', c', he, hc⟩ := owns_cellsT T h
  simp only [Value.slice.injEq, true_and] at he
  obtain ⟨rfl, rfl⟩ := he
  refine ⟨?_, rowT_one _ _ fun i _ => h1 i⟩
  rcases hc with rfl | ⟨g, rfl, -, hg, hcc⟩
  · exact Or.inl rfl
  · refine Or.inr ⟨⟨g, 0, none⟩, rfl, hg, fun j u hj => ?_⟩
    have hjl : j < m * 3 := by
      rcases Nat.lt_or_ge j (m * 3) with h | h
      · exact h
      · rw [List.getElem?_eq_none (by rw [rowT_len]; exact h)] at hj; cases hj
    obtain ⟨t0, t1, t2⟩ := rowT_at T m (j / 3) (by omega)
    obtain ⟨g0, g1, g2⟩ := hcc (j / 3) (by omega)
    rw [add_off, Nat.zero_add]
    have hm : j = j / 3 * 3 ∨ j = j / 3 * 3 + 1 ∨ j = j / 3 * 3 + 2 := by omega
    rcases hm with e | e | e
    · rw [← e] at t0 g0; rw [t0] at hj; cases hj; exact g0
    · rw [← e] at t1 g1; rw [t1] at hj; cases hj; exact g1
    · rw [← e] at t2 g2; rw [t2] at hj; cases hj; exact g2
theorem rowT_add (T : Nat → Value × Value × Value) (j m : Nat) : rowT T (j + m) = rowT T j ++ rowT (fun q => T (j + q)) m := by
  induction m with
  | zero => simp [rowT]
  | succ m ih => rw [← Nat.add_assoc, rowT_step, ih, rowT_step, List.append_assoc]
/-- Some cells are added. -/
theorem GrowC.stepN {W : World} {o : Nat} {sv : Value} {T : Nat → Value × Value × Value} {j m : Nat} {v v' : Value} {wr w1 : World} (ho : o < W.heap.size) (h : GrowC W o sv T j v wr) (hb : Below W.heap.size wr w1) (hown : w1.ownsRow W.heap.size 39 3 v' (j + m) (rowT T (j + m))) : GrowC W o sv T (j + m) v' (w1.setCell ⟨o, 1, none⟩ v') := by
  have e0 : w1.cell? ⟨o, 0, none⟩ = some sv := (hb.cell (p := ⟨o, 0, none⟩) ho).trans h.c0
  have e1 : w1.cell? ⟨o, 1, none⟩ = some v := (hb.cell (p := ⟨o, 1, none⟩) ho).trans h.c1
  refine ⟨(h.io.trans (hb.mono (Nat.zero_le _))).setCell (p := ⟨o, 1, none⟩) (Nat.zero_le _) _, fun b hb1 hne => ?_, ?_, ?_, ?_, ownsRow_setCell_below hown (a := ⟨o, 1, none⟩) ho _⟩
  · rw [Below.heap_setCell _ _ _ _ (by show b ≠ o; exact hne), hb.block b hb1]
    exact h.keep b hb1 hne
  · rw [World.cell?_setCell_other _ _ _ _ (by simp)]; exact e0
  · exact World.cell?_setCell_same' _ _ _ (by rw [e1]; rfl)
  · exact frozen_set _ _ _ _ ((hb.frozen (p := ⟨o, 1, none⟩) ho).trans h.f1)
/-- What Item gives: cells whose values are known. -/
def ItemC (T : Nat → Value × Value × Value) (m : Nat) (w : World) (e : Ending) (w' : World) : Prop := (∃ sa sn sc a3 c3, e = .returned (.agg #[.slice sa sn sc, .slice a3 m c3]) ∧ Lies w' a3 (rowT T m)) ∧ Below w.heap.size w w'
set_option maxHeartbeats 4000000 in
theorem ritem_cells {n lo i m : Nat} {x : Ar} {a1 a2 : Option Addr} {c1 c2 : Nat} {ab : Nat → Option Addr} {cb : Nat → Nat} {w0 w : World} (hx : ArIn (n + 1) lo w0 x (.agg #[.slice a1 x.shape.length c1, .slice a2 x.cells.length c2])) (hcf : CellsFn n lo w0 x.cells a2 ab cb) (hb0 : Below w0.heap.size w0 w) (hs : 0 < x.shape.length) (h8 : x.shape.length ≤ 8) (hE : sizeV x.shape.tail = (m : Int)) (hm : i * m + m ≤ x.cells.length) (hc16 : x.cells.length ≤ 16384) (hi16 : i ≤ 16384) (hc1 : x.shape.length ≤ c1) (hc2 : x.cells.length ≤ c2) :
    Calls Try.prog 19 #[.agg #[.slice a1 x.shape.length c1, .slice a2 x.cells.length c2], .int .i64 (i : Int)] w fun e w' => ItemC (fun q => cellT x.cells ab cb (i * m + q)) m w e w' := by
  obtain ⟨a1', c1', a2', c2', he, R, hc⟩ := hx.form
  simp only [Value.agg.injEq, Array.mk.injEq, List.cons.injEq, Value.slice.injEq, and_true, true_and] at he
  obtain ⟨⟨rfl, rfl⟩, rfl, rfl⟩ := he
  obtain ⟨i3, hi3, hz30, hz31, hz32⟩ := infoI3
  obtain ⟨i0, hi0, hz00, hz01, hz02⟩ := info33'
  have I := in2_new w (.slice a1 x.shape.length c1) (.slice a2 x.cells.length c2)
  obtain ⟨W2, e2⟩ : ∃ W2, (w.alloc (.cells #[.slice a1 x.shape.length c1, .slice a2 x.cells.length c2] 25)).alloc (.cells #[.slice none 0 0, .slice none 0 0] 25) = W2 := ⟨_, rfl⟩
  rw [e2] at I
  have z2 : W2.heap.size = w.heap.size + 2 := by rw [← e2]; simp
  have q0 := I.q0
  have q1 := I.q1
  have HI := hide I
  have HP1 := hide fun W => part_l (P := Try.prog) Try.underlying22 size3 a1 x.shape.length c1 1 1 rfl hs W
  have hp1 := HP1.out
  have ht : ((x.shape.drop 1).take (x.shape.length - 1)) = x.shape.tail := by rw [List.take_of_length_le (by rw [List.length_drop]; omega), List.drop_one]
  have RT : Row lo w0 (subA a1 1 c1 1) x.shape.tail := by have := R.part 1 c1 (x.shape.length - 1) (by omega) hc1; rw [ht] at this; exact this
  have tl : x.shape.tail.length = x.shape.length - 1 := by rw [List.length_tail]
  have C := rsize_any x.shape.tail (subA a1 1 c1 1) (c1 - 1) W2 (RT.next (hb0.trans (I.bel.mono hb0.size)))
  rw [tl, hE] at C
  generalize sizeE x.shape.tail = EE at *
  have CP := hc.part (i * m) c2 m hm hc2
  have hcl : ((x.cells.drop (i * m)).take m).length = m := by rw [List.length_take, List.length_drop]; omega
  obtain ⟨pp, hpp⟩ : ∃ pp : Nat, i * m = pp := ⟨_, rfl⟩
  obtain ⟨qq, hqq⟩ : ∃ qq : Nat, pp + m = qq := ⟨_, rfl⟩
  have hwp : IntKind.i64.wrap ((i : Int) * (m : Int)) = (pp : Int) := by rw [← Int.natCast_mul, hpp]; exact IntWalk.i64_in _ ⟨by omega, by omega⟩
  have hwq : IntKind.i64.wrap ((pp : Int) + (m : Int)) = (qq : Int) := by rw [← Int.natCast_add, hqq]; exact IntWalk.i64_in _ ⟨by omega, by omega⟩
  have hp2 : ∀ W, (Instr.sliceAt 23 (.slice a2 x.cells.length c2) (some (.int .i64 (pp : Int))) (some (.int .i64 (qq : Int))) none).run Try.prog W = .ok (.slice (subA a2 (i * m) c2 3) m (c2 - i * m)) W := fun W => by
    have := part_lh (P := Try.prog) Try.underlying23 size36 a2 x.cells.length c2 (i * m) (i * m + m) (pp : Int) (qq : Int) (by rw [hpp]) (by rw [hpp, hqq]) (by omega) (by omega) W
    rw [this, show i * m + m - i * m = m by omega]
  have hlie : Lies w0 (subA a2 (i * m) c2 3) (rowT (fun q => cellT x.cells ab cb (i * m + q)) m) := part_lies hcf (i * m) m hm hc2
  have hm16 : m ≤ 16384 := by omega
  have HL := hide hlie
  have HR := hide (And.intro RT CP)
  have HB0 := hide hb0
  have HK := hide (And.intro hs (And.intro h8 (And.intro tl hcl)))
  have hSA := hide (rfl : x.shape.length = x.shape.length)
  obtain ⟨SA, hSA⟩ : ∃ SA, x.shape.length = SA := ⟨_, rfl⟩
  obtain ⟨CA, hCA⟩ : ∃ CA, x.cells.length = CA := ⟨_, rfl⟩
  simp only [hSA, hCA] at C e2 q0 q1 HI hp1 hp2 HK hc1 hc2 hm hc16 h8 hs ⊢
  obtain ⟨at', hat⟩ : ∃ at', subA a1 1 c1 1 = at' := ⟨_, rfl⟩
  obtain ⟨ac, hac⟩ : ∃ ac, subA a2 (i * m) c2 3 = ac := ⟨_, rfl⟩
  obtain ⟨cc, hcc⟩ : ∃ cc, c2 - i * m = cc := ⟨_, rfl⟩
  obtain ⟨ct, hct⟩ : ∃ ct, c1 - 1 = ct := ⟨_, rfl⟩
  obtain ⟨SM, hSM⟩ : ∃ SM, SA - 1 = SM := ⟨_, rfl⟩
  rw [hat] at C HR
  simp only [hat, hct, hSM] at hp1 C HK
  simp only [hac, hcc] at hp2 HR HL
  have hSM8 : SM ≤ 8 := by omega
  clear RT CP hlie ht tl hcl hE hx hcf R hc I HP1 hSA hCA hat hac hcc hct hSM hpp hqq
  go_enter Try.func19, Try.ntmps19
  go_wp2_with fail
  clear e2
  refine C.mono ?_
  rintro e w1 ⟨rfl, rfl⟩
  clear C q0 q1
  obtain ⟨W3, e3⟩ : ∃ W3, w1.alloc (.cells #[.slice none 0 0, .slice none 0 0] 25) = W3 := ⟨_, rfl⟩
  have z3 : W3.heap.size = w.heap.size + 3 := by rw [← e3]; simp [z2]
  have B3 : Below w1.heap.size w1 W3 := by rw [← e3]; exact one_alloc _ _
  have o0 : W3.cell? ⟨w.heap.size + 2, 0, none⟩ = some (.slice none 0 0) := by rw [← e3, ← z2]; exact cell_new0 w1 _ 25 0 _ rfl
  have o1 : W3.cell? ⟨w.heap.size + 2, 1, none⟩ = some (.slice none 0 0) := by rw [← e3, ← z2]; exact cell_new0 w1 _ 25 1 _ rfl
  have of0 : W3.frozen? ⟨w.heap.size + 2, 0, none⟩ = false := by rw [← e3, ← z2]; exact frozen_new w1 _ 25 0
  have of1 : W3.frozen? ⟨w.heap.size + 2, 1, none⟩ = false := by rw [← e3, ← z2]; exact frozen_new w1 _ 25 1
  have I3 := HI.out.next B3
  have q0 := I3.q0
  have HLS : Hid (Lies W3.drew at' (x.shape.tail.map (Value.int .i64))) := (Lies.row_next HR.out.1 (HB0.out.trans (I3.bel.mono HB0.out.size))).drew
  have hsl : (x.shape.tail.map (Value.int .i64)).length = SM * 1 := by rw [List.length_map, HK.out.2.2.1]; omega
  have HI3 := hide I3
  have HZ3 := hide z3
  have HMX : Hid (0 + SM ≤ maxLen ∧ (0 + SM) * 8 ≤ 140737488355328) := ⟨by unfold maxLen; omega, by omega⟩
  have hO : Hid (w.heap.size + 2 < W3.heap.size) := by unfold Hid; omega
  have HE3 := hide e3
  clear I3 B3 HI z3 e3
  go_wp2
  rw [HE3.out]
  clear HE3
  go_cut [5] from 16 to 22 (fun s5 wx => s5 = .int .i64 (m : Int) ∧ ∃ al cl w4, SM ≤ cl ∧ w4.ownsRow W3.heap.size 3 1 (.slice al SM cl) SM (x.shape.tail.map (Value.int .i64)) ∧ Below W3.heap.size W3 w4 ∧ wx = w4.setCell ⟨w.heap.size + 2, 0, none⟩ (.slice al SM cl))
  case first =>
    go_region_law (refine step_append_any rfl (.tmp 17) (.tmp 20) 22 rfl W3.heap.size 3 i3 (.int .i64 0) 1 8 Try.underlying22 hi3 hz30 hz31 hz32 rfl (by decide) (.slice none 0 0) 0 [] rfl (World.ownsRow_nil _ _ _ _) at' SM ct (x.shape.tail.map (Value.int .i64)) rfl hsl HLS.out HMX.out.1 HMX.out.2 (Nat.le_refl _) ?_; intro v' w4 hown4 hb4; obtain ⟨al, cl, rfl, hcap4⟩ := owns_cap hown4; have d0 := hb4.cell (p := ⟨w.heap.size + 2, 0, none⟩) hO.out |>.trans o0; have df0 := hb4.frozen (p := ⟨w.heap.size + 2, 0, none⟩) hO.out |>.trans of0)
    all_goals
      simp only [List.nil_append, Nat.zero_add] at hown4 hcap4 ⊢
      have HF4 := hide (And.intro hcap4 (And.intro hown4 hb4))
      clear hown4 hcap4 hb4
      go_wp2
      go_meet
    all_goals
      case rel => exact ⟨rfl, _, _, _, HF4.out.1, HF4.out.2.1, (Below.refl _ _).drew.trans HF4.out.2.2, rfl⟩
  case rest =>
    obtain ⟨rfl, al, cl, w4, hcl, hown4, hb4, rfl⟩ := hcut
    clear q0 HLS hsl HMX
    obtain ⟨al', cl', hal, RL⟩ := owns_rowE x.shape.tail (by rw [HK.out.2.2.1]; omega) (by rw [HK.out.2.2.1]; exact hown4)
    simp only [Value.slice.injEq] at hal
    obtain ⟨rfl, -, rfl⟩ := hal
    have hz3 := HZ3.out
    have d0 : w4.cell? ⟨w.heap.size + 2, 0, none⟩ = some (.slice none 0 0) := (hb4.cell (p := ⟨w.heap.size + 2, 0, none⟩) (by show w.heap.size + 2 < _; omega)).trans o0
    obtain ⟨w5, e5⟩ : ∃ w5, w4.setCell ⟨w.heap.size + 2, 0, none⟩ (.slice al SM cl) = w5 := ⟨_, rfl⟩
    have z5 : w5.heap.size = w4.heap.size := by rw [← e5]; simp
    have z45 := hb4.size
    have I5 : In2 w (.slice a1 SA c1) (.slice a2 CA c2) w5 := by rw [← e5]; exact (HI3.out.belowS hb4 (by omega)).set (by omega) _
    have t0 : w5.cell? ⟨w.heap.size + 2, 0, none⟩ = some (.slice al SM cl) := by rw [← e5]; exact World.cell?_setCell_same' _ _ _ (by rw [d0]; rfl)
    have t1 : w5.cell? ⟨w.heap.size + 2, 1, none⟩ = some (.slice none 0 0) := by rw [← e5, World.cell?_setCell_other _ _ _ _ (by simp)]; exact (hb4.cell (p := ⟨w.heap.size + 2, 1, none⟩) (by show w.heap.size + 2 < _; omega)).trans o1
    have tf1 : w5.frozen? ⟨w.heap.size + 2, 1, none⟩ = false := by rw [← e5]; exact frozen_set _ _ _ _ ((hb4.frozen (p := ⟨w.heap.size + 2, 1, none⟩) (by show w.heap.size + 2 < _; omega)).trans of1)
    have K5 : Keeps W3.heap.size w4 w5 := by rw [← e5]; exact (Keeps.refl _ _).setCell (p := ⟨w.heap.size + 2, 0, none⟩) (by show w.heap.size + 2 < _; omega) _
    have HRL := hide (RL.keeps K5)
    have HI5 := hide I5
    have q1 := I5.q1
    have HLC : Hid (Lies w5.drew ac (rowT (fun q => cellT x.cells ab cb (i * m + q)) m)) := (HL.out.next (HB0.out.trans (I5.bel.mono HB0.out.size))).drew
    have hsl : (rowT (fun q => cellT x.cells ab cb (i * m + q)) m).length = m * 3 := rowT_len _ _
    have HMX : Hid (0 + m ≤ maxLen ∧ (0 + m) * 40 ≤ 140737488355328) := ⟨by unfold maxLen; omega, by omega⟩
    have hO5 : Hid (w.heap.size + 2 < w5.heap.size) := by unfold Hid; omega
    have HS := hide (And.intro z5 (And.intro z45 hz3))
    clear I5 K5 RL d0 hown4 hb4 HI3 z5 z45 hz3 o0 o1 of0 of1 hO hp1 HZ3
    rw [e5]
    clear e5
    go_wp2
    go_cut [5] from 23 to 37 (fun s5 wx => s5 = .int .i64 (m : Int) ∧ ∃ a3 c3 w6, m ≤ c3 ∧ w6.ownsRow w5.heap.size 39 3 (.slice a3 m c3) m (rowT (fun q => cellT x.cells ab cb (i * m + q)) m) ∧ Below w5.heap.size w5 w6 ∧ wx = w6.setCell ⟨w.heap.size + 2, 1, none⟩ (.slice a3 m c3))
    case first =>
      go_region_law (refine step_append_any rfl (.tmp 24) (.tmp 35) 23 rfl w5.heap.size 39 i0 (.agg #[.int .i64 0, .int .i64 0, .slice none 0 0]) 3 40 Try.underlying23 hi0 hz00 hz01 hz02 rfl (by decide) (.slice none 0 0) 0 [] rfl (World.ownsRow_nil _ _ _ _) ac m cc (rowT (fun q => cellT x.cells ab cb (i * m + q)) m) rfl hsl HLC.out HMX.out.1 HMX.out.2 (Nat.le_refl _) ?_; intro v' w6 hown6 hb6; obtain ⟨a3, c3, rfl, hcap6⟩ := owns_cap hown6; have d0 := hb6.cell (p := ⟨w.heap.size + 2, 1, none⟩) hO5.out |>.trans t1; have df0 := hb6.frozen (p := ⟨w.heap.size + 2, 1, none⟩) hO5.out |>.trans tf1)
      all_goals
        simp only [List.nil_append, Nat.zero_add] at hown6 hcap6 ⊢
        have HF4 := hide (And.intro hcap6 (And.intro hown6 hb6))
        clear hown6 hcap6 hb6
        go_wp2
        go_meet
      all_goals
        case rel => exact ⟨rfl, _, _, _, HF4.out.1, HF4.out.2.1, (Below.refl _ _).drew.trans HF4.out.2.2, rfl⟩
    case rest =>
      obtain ⟨rfl, a3, c3, w6, hcl3, hown6, hb6, rfl⟩ := hcut
      clear q1 HLC hsl HMX hwp hwq hp2
      have hz := HS.out
      have hb6s := hb6.size
      have hcl := HK.out.2.2.2
      have d1 : w6.cell? ⟨w.heap.size + 2, 1, none⟩ = some (.slice none 0 0) := (hb6.cell (p := ⟨w.heap.size + 2, 1, none⟩) (by show w.heap.size + 2 < _; omega)).trans t1
      have d0 : w6.cell? ⟨w.heap.size + 2, 0, none⟩ = some (.slice al SM cl) := (hb6.cell (p := ⟨w.heap.size + 2, 0, none⟩) (by show w.heap.size + 2 < _; omega)).trans t0
      obtain ⟨w7, e7⟩ : ∃ w7, w6.setCell ⟨w.heap.size + 2, 1, none⟩ (.slice a3 m c3) = w7 := ⟨_, rfl⟩
      have I7 : In2 w (.slice a1 SA c1) (.slice a2 CA c2) w7 := by rw [← e7]; exact (HI5.out.belowS hb6 (by omega)).set (by omega) _
      have s0 : w7.cell? ⟨w.heap.size + 2, 0, none⟩ = some (.slice al SM cl) := by rw [← e7, World.cell?_setCell_other _ _ _ _ (by simp)]; exact d0
      have s1 : w7.cell? ⟨w.heap.size + 2, 1, none⟩ = some (.slice a3 m c3) := by rw [← e7]; exact World.cell?_setCell_same' _ _ _ (by rw [d1]; rfl)
      have K7 : Keeps (w.heap.size + 3) w6 w7 := by rw [← e7]; exact (Keeps.refl _ _).setCell (p := ⟨w.heap.size + 2, 1, none⟩) (by show w.heap.size + 2 < _; omega) _
      have p0 := I7.p0
      have p1 := I7.p1
      have f0 := I7.f0
      have f1 := I7.f1
      have HT := hide (I7.put (.slice al SM cl) (.slice a3 m c3))
      have HFIN : Hid (∀ u v, ItemC (fun q => cellT x.cells ab cb (i * m + q)) m w (.returned (.agg #[.slice al SM cl, .slice a3 m c3])) ((w7.setCell ⟨w.heap.size + 1, 0, none⟩ u).setCell ⟨w.heap.size + 1, 1, none⟩ v)) := by
        intro u v
        have K8 : Keeps (w.heap.size + 3) w7 ((w7.setCell ⟨w.heap.size + 1, 0, none⟩ u).setCell ⟨w.heap.size + 1, 1, none⟩ v) := ((Keeps.refl _ _).setCell (p := ⟨w.heap.size + 1, 0, none⟩) (by show w.heap.size + 1 < _; omega) u).setCell (p := ⟨w.heap.size + 1, 1, none⟩) (by show w.heap.size + 1 < _; omega) v
        have hown8 := owns_keeps hown6 (K7.trans K8) (by omega)
        exact ⟨⟨_, _, _, _, _, rfl, lies_own hown8 fun q => ⟨rfl, rfl, rfl⟩⟩, I7.fin u v⟩
      clear I7 K7 hown6 hb6 d0 d1 hz HS HL HRL HR
      rw [e7]
      clear e7
      go_wp2
      exact bodyPost_ret (v := .agg #[.slice al SM cl, .slice a3 m c3]) (by simp [results, Try.results19, go_sem, HT.out.1, HT.out.2]) rfl (HFIN.out _ _)
end Go.Proofs.Ytimkcpbgnoekcaa
namespace Go.Proofs.Ytimkcpbgnoekcaa
open Go.ChangeShapes Go.WideShapes Go.ChangeAt Go.RowKit
set_option linter.unusedVariables false
set_option maxRecDepth 100000
theorem ordN_of {α : Type} {f : α → α → Int} (F : Ord f) (k : Int → α) (n : Nat) : OrdN n fun x y => f (k x) (k y) := by
  refine ⟨fun x y z _ _ _ _ _ _ h1 h2 => ?_, fun x y _ _ _ _ hne h => ?_⟩
  · have a1 := F.anti (k x) (k y)
    have a2 := F.anti (k y) (k z)
    have a3 := F.anti (k x) (k z)
    have t1 := F.trans (k x) (k y) (k z)
    have t2 := F.trans (k z) (k x) (k y)
    have t3 := F.trans (k y) (k z) (k x)
    unfold ltc at h1 h2 ⊢
    simp only at h1 h2 ⊢
    omega
  · have a1 := F.anti (k x) (k y)
    unfold ltc at h ⊢
    simp only at h ⊢
    omega
set_option maxHeartbeats 4000000 in
theorem clo87 {n lo : Nat} {cs : List Ce} {a2 : Option Addr} {c2 CA bp bq i k : Nat} {ab : Nat → Option Addr} {cb : Nat → Nat} {W : World} (hcf : CellsFn n lo W cs a2 ab cb) (hCA : cs.length = CA) (c0 : W.cell? ⟨bp, 0, none⟩ = some (.func (.func 56) #[] #[])) (c1 : W.cell? ⟨bq, 0, none⟩ = some (.slice a2 CA c2)) (hbp : bp < W.heap.size) (hbq : bq < W.heap.size) (hi : i < CA) (hk : k < CA) :
    Calls Try.prog 87 #[.int .i64 (i : Int), .int .i64 (k : Int), .pointer (some ⟨bp, 0, none⟩), .pointer (some ⟨bq, 0, none⟩)] W fun e w' => e = .returned (.int .i64 (cmpC (cmpA n) (cAt cs i) (cAt cs k))) ∧ Below W.heap.size W w' := by
  obtain ⟨b, off, rfl, -, hb, hcells⟩ := hcf (by omega)
  obtain ⟨g0, g1, g2, hce⟩ := hcells i (by omega)
  obtain ⟨k0, k1, k2, hck⟩ := hcells k (by omega)
  have HC : Hid (∀ W', Below W.heap.size W W' → Calls Try.prog 56 #[.agg #[.int .i64 (cAt cs i).1, .int .i64 (cAt cs i).2.1, .slice (ab i) (cAt cs i).2.2.length (cb i)], .agg #[.int .i64 (cAt cs k).1, .int .i64 (cAt cs k).2.1, .slice (ab k) (cAt cs k).2.2.length (cb k)]] W' fun e w' => e = .returned (.int .i64 (cmpC (cmpA n) (cAt cs i) (cAt cs k))) ∧ Below W.heap.size W w') := fun W' hW => by
    refine (cell_any n (cmp_any n) (cAt cs i) (cAt cs k) lo lo W' _ _ _ _ _ _ (hce.mono (Nat.le_refl _) hW fun x v g => g.mono (Nat.le_refl _) hW) (hck.mono (Nat.le_refl _) hW fun x v g => g.mono (Nat.le_refl _) hW)).mono ?_
    rintro e w' ⟨rfl, hb'⟩
    exact ⟨rfl, hW.trans (hb'.mono hW.size)⟩
  generalize cmpC (cmpA n) (cAt cs i) (cAt cs k) = r at *
  clear hce hck hcells hcf
  generalize (cAt cs i).1 = x0 at *
  generalize (cAt cs i).2.1 = x1 at *
  generalize (cAt cs i).2.2.length = x2 at *
  generalize (cAt cs k).1 = y0 at *
  generalize (cAt cs k).2.1 = y1 at *
  generalize (cAt cs k).2.2.length = y2 at *
  generalize ab i = x3 at *
  generalize ab k = y3 at *
  generalize cb i = x4 at *
  generalize cb k = y4 at *
  have KS : Hid (∀ W', Below W.heap.size W W' → (Below W.heap.size W W' ∧ W'.cell? ⟨bp, 0, none⟩ = some (.func (.func 56) #[] #[]) ∧ W'.cell? ⟨bq, 0, none⟩ = some (.slice (some ⟨b, off, none⟩) CA c2) ∧ W'.cell? ⟨b, off + i * 3, none⟩ = some (.int .i64 x0) ∧ W'.cell? ⟨b, off + i * 3 + 1, none⟩ = some (.int .i64 x1) ∧ W'.cell? ⟨b, off + i * 3 + 2, none⟩ = some (.slice x3 x2 x4) ∧ W'.cell? ⟨b, off + k * 3, none⟩ = some (.int .i64 y0) ∧ W'.cell? ⟨b, off + k * 3 + 1, none⟩ = some (.int .i64 y1) ∧ W'.cell? ⟨b, off + k * 3 + 2, none⟩ = some (.slice y3 y2 y4))) := fun W' h => ⟨h, (h.cell (p := ⟨bp, 0, none⟩) hbp).trans c0, (h.cell (p := ⟨bq, 0, none⟩) hbq).trans c1, (h.cell (p := ⟨b, off + i * 3, none⟩) hb).trans g0, (h.cell (p := ⟨b, off + i * 3 + 1, none⟩) hb).trans g1, (h.cell (p := ⟨b, off + i * 3 + 2, none⟩) hb).trans g2, (h.cell (p := ⟨b, off + k * 3, none⟩) hb).trans k0, (h.cell (p := ⟨b, off + k * 3 + 1, none⟩) hb).trans k1, (h.cell (p := ⟨b, off + k * 3 + 2, none⟩) hb).trans k2⟩
  have HD0 : Hid (Below W.heap.size W W.drew) := (Below.refl _ _).drew
  have hiz : (i : Int) < (CA : Int) := by omega
  have hkz : (k : Int) < (CA : Int) := by omega
  clear hCA
  go_enter Try.func87, Try.ntmps87
  go_upto_region 1 with fail
  go_region_held3 (fun W' => Below W.heap.size W W' ∧ W'.cell? ⟨bp, 0, none⟩ = some (.func (.func 56) #[] #[]) ∧ W'.cell? ⟨bq, 0, none⟩ = some (.slice (some ⟨b, off, none⟩) CA c2) ∧ W'.cell? ⟨b, off + i * 3, none⟩ = some (.int .i64 x0) ∧ W'.cell? ⟨b, off + i * 3 + 1, none⟩ = some (.int .i64 x1) ∧ W'.cell? ⟨b, off + i * 3 + 2, none⟩ = some (.slice x3 x2 x4) ∧ W'.cell? ⟨b, off + k * 3, none⟩ = some (.int .i64 y0) ∧ W'.cell? ⟨b, off + k * 3 + 1, none⟩ = some (.int .i64 y1) ∧ W'.cell? ⟨b, off + k * 3 + 2, none⟩ = some (.slice y3 y2 y4))
    (first | with_reducible exact KS.out _ HD0.out | with_reducible exact KS.out _ (by with_reducible assumption))
    (first | (go_at_call 56; refine (HC.out _ HD0.out).mono ?_; rintro e w5 ⟨rfl, hb5⟩))
  all_goals
    go_wp2
    go_ret
    exact ⟨rfl, hb5⟩
end Go.Proofs.Ytimkcpbgnoekcaa
namespace Go.Proofs.Ytimkcpbgnoekcaa
open Go.ChangeShapes Go.WideShapes Go.ChangeAt Go.RowKit
set_option linter.unusedVariables false
set_option maxRecDepth 100000
theorem CellsFn.next {n lo : Nat} {w w' : World} {cs : List Ce} {a : Option Addr} {ab : Nat → Option Addr} {cb : Nat → Nat} (h : CellsFn n lo w cs a ab cb) (hb : Below w.heap.size w w') : CellsFn n lo w' cs a ab cb := fun h0 => by
  obtain ⟨b, off, ha, hlo, hl, hc⟩ := h h0
  refine ⟨b, off, ha, hlo, Nat.lt_of_lt_of_le hl hb.size, fun i hi => ?_⟩
  obtain ⟨g0, g1, g2, g3⟩ := hc i hi
  exact ⟨(hb.cell (p := ⟨b, off + i * 3, none⟩) hl).trans g0, (hb.cell (p := ⟨b, off + i * 3 + 1, none⟩) hl).trans g1, (hb.cell (p := ⟨b, off + i * 3 + 2, none⟩) hl).trans g2, g3.mono (Nat.le_refl _) hb fun x v g => g.mono (Nat.le_refl _) hb⟩
theorem St.congr {W1 w : World} {b n : Nat} {f g : Nat → Int} (h : St W1 b n f w) (hfg : ∀ i, i < n → f i = g i) : St W1 b n g w := ⟨h.bel, h.lt, fun i hi => by rw [← hfg i hi]; exact h.row i hi⟩
/-- How cells stand, by their numbers. -/
def byC (n : Nat) (cs : List Ce) (x y : Int) : Int := cmpC (cmpA n) (cAt cs x.toNat) (cAt cs y.toNat)
theorem byC_ord (n : Nat) (cs : List Ce) (m : Nat) : OrdN m (byC n cs) := ordN_of (ord_cell (ord_arr n)) (fun x => cAt cs x.toNat) m
/-- A row of a call's own, with so many numbers in an order. -/
def InOrd (c : Int → Int → Int) (n : Nat) (w : World) (e : Ending) (w' : World) : Prop := (∃ b g, e = .returned (.slice (some ⟨b, 0, none⟩) n n) ∧ w.heap.size ≤ b ∧ b < w'.heap.size ∧ (∀ i, i < n → w'.cell? ⟨b, i, none⟩ = some (.int .i64 (g i))) ∧ Blk c g 0 n) ∧ Below w.heap.size w w'
set_option maxHeartbeats 4000000 in
theorem sorted72 {n lo CA c2 : Nat} {cs : List Ce} {a2 : Option Addr} {ab : Nat → Option Addr} {cb : Nat → Nat} {w : World} (hcf : CellsFn n lo w cs a2 ab cb) (hCA : cs.length = CA) (h16 : CA ≤ 16384) :
    Calls Try.prog 72 #[.slice a2 CA c2, .func (.func 56) #[] #[]] w fun e w' => InOrd (byC n cs) CA w e w' := by
  obtain ⟨W1, e1⟩ : ∃ W1, (w.alloc (.cells #[.slice a2 CA c2] 23)).alloc (.cells #[.func (.func 56) #[] #[]] 44) = W1 := ⟨_, rfl⟩
  have B1 : Below w.heap.size w W1 := by rw [← e1]; exact two_allocs _ _ _
  have z1 : W1.heap.size = w.heap.size + 2 := by rw [← e1]; simp
  have q0 : W1.cell? ⟨w.heap.size, 0, none⟩ = some (.slice a2 CA c2) := by rw [← e1]; exact cell_new1 w _ 23 (0, 0) _ 0 _ rfl
  have q1 : W1.cell? ⟨w.heap.size + 1, 0, none⟩ = some (.func (.func 56) #[] #[]) := by rw [← e1]; exact cell_new2 w _ 44 (0, 0) _ 0 _ rfl
  obtain ⟨b, hb⟩ : ∃ b, W1.heap.size = b := ⟨_, rfl⟩
  have mk := run_make_row' (P := Try.prog) 22 3 (.int .i64 0) 8 Try.underlying22 int3 rfl .i64 .i64 CA (by omega) (by omega)
  obtain ⟨W2, e2⟩ : ∃ W2, W1.alloc (.cells (madeCells #[.int .i64 0] CA) 3) = W2 := ⟨_, rfl⟩
  have rm : W2.rowIs b 3 CA (fun _ => .int .i64 0) := by rw [← e2, ← hb]; exact World.rowIs_made W1 (.int .i64 0) CA 3
  have B2 : Below b W1 W2 := by rw [← e2, ← hb]; exact one_alloc _ _
  have S0 : St W1 b CA (fun i => if i < 0 then (i : Int) else 0) W2 := ⟨B2, by rw [← e2]; simp [hb], fun i hi => ⟨by have := rm.cell (i := i) hi; simpa using this, rm.frozen i⟩⟩
  have HS0 := hide S0
  have HK : Hid (CmpOk W1 b CA 87 (.pointer (some ⟨w.heap.size + 1, 0, none⟩)) (.pointer (some ⟨w.heap.size, 0, none⟩)) (byC n cs)) := fun W hW x y hx0 hx1 hy0 hy1 => by
    obtain ⟨i, rfl⟩ : ∃ i : Nat, x = (i : Int) := ⟨x.toNat, by omega⟩
    obtain ⟨k, rfl⟩ : ∃ k : Nat, y = (k : Int) := ⟨y.toNat, by omega⟩
    have hBW : Below W1.heap.size W1 W := by rw [hb]; exact hW
    have hs := hBW.size
    have C := clo87 (bp := w.heap.size + 1) (bq := w.heap.size) (c2 := c2) ((hcf.next B1).next hBW) hCA ((hBW.cell (p := ⟨w.heap.size + 1, 0, none⟩) (by show w.heap.size + 1 < _; omega)).trans q1) ((hBW.cell (p := ⟨w.heap.size, 0, none⟩) (by show w.heap.size < _; omega)).trans q0) (by omega) (by omega) (show i < CA by omega) (show k < CA by omega)
    unfold byC
    rw [Int.toNat_natCast, Int.toNat_natCast]
    exact C
  have HB := hide (And.intro B1 (And.intro z1 hb))
  have HE1 := hide e1
  have HE2 := hide e2
  clear hcf hCA B1 rm B2 S0 e2
  go_enter Try.func72, Try.ntmps72
  go_wp2
  rw [HE2.out, show w.heap.size + 2 = b by omega]
  clear z1 hb e1 mk
  go_loopg [6, 12] CA (fun M _i j wr => ∃ k : Nat, M + k = CA ∧ j = .int .i64 (k : Int) ∧ St W1 b CA (fun i => if i < k then (i : Int) else 0) wr)
  case atStart => exact ⟨0, rfl, rfl, HS0.out⟩
  case round =>
    clear HS0
    obtain ⟨k, hM, rfl, hs⟩ := hrel
    by_cases hlt : k < CA
    · have hltz : (k : Int) < (CA : Int) := by omega
      obtain ⟨c0, f0⟩ := hs.row k hlt
      have HN : Hid (St W1 b CA (fun i => if i < k + 1 then (i : Int) else 0) (wr.setCell ⟨b, k, none⟩ (.int .i64 (k : Int)))) := by
        refine (hs.set hlt (k : Int)).congr fun i hi => ?_
        unfold upd
        by_cases e : i = k
        · rw [if_pos e, if_pos (by omega), e]
        · rw [if_neg e]
          show (if i < k then (i : Int) else 0) = _
          by_cases e2 : i < k
          · rw [if_pos e2, if_pos (by omega)]
          · rw [if_neg e2, if_neg (by omega)]
      replace c0 : ∃ z, wr.cell? ⟨b, k, none⟩ = some (.int .i64 z) := ⟨_, c0⟩
      obtain ⟨z, c0⟩ := c0
      clear hs
      go_wp2
      go_roundg (CA - (k + 1))
      case rel => exact ⟨k + 1, by omega, by go_num, HN.out⟩
      case measure => omega
    · have hke : k = CA := by omega
      subst hke
      have C := sortStable_87 (cap := k) HK.out (byC_ord n cs k) (hs.congr fun i hi => by rw [if_pos hi]) h16
      have hsb := hs.lt
      clear hs HK
      go_wp2_with fail
      refine C.mono ?_
      clear C
      rintro e w5 ⟨rfl, g, hs5, hb5⟩
      have HF : Hid (InOrd (byC n cs) k w (.returned (.slice (some ⟨b, 0, none⟩) k k)) w5) := by
        have hh := HB.out
        refine ⟨⟨b, g, rfl, by omega, hs5.lt, fun i hi => (hs5.row i hi).1, hb5⟩, hh.1.trans (hs5.bel.mono (by omega))⟩
      clear hs5 hb5
      go_wp2
      go_ret
      exact HF.out
end Go.Proofs.Ytimkcpbgnoekcaa
namespace Go.Proofs.Ytimkcpbgnoekcaa
set_option linter.unusedVariables false
set_option maxRecDepth 100000
/-- So many numbers, no two the same, all below so many: each one is there. -/
theorem all_there : ∀ (n : Nat) (g : Nat → Nat), (∀ i, i < n → g i < n) → (∀ i j, i < n → j < n → g i = g j → i = j) → ∀ p, p < n → ∃ i, i < n ∧ g i = p := by
  intro n
  induction n with
  | zero => intro g _ _ p hp; omega
  | succ n ih =>
    intro g hb hi p hp
    by_cases hn : g n = n
    · by_cases hpn : p = n
      · exact ⟨n, by omega, by omega⟩
      · obtain ⟨i, h1, h2⟩ := ih g (fun i h => by
          have a := hb i (by omega)
          have b : g i ≠ n := fun e => by have := hi i n (by omega) (by omega) (by omega); omega
          omega) (fun i j h1 h2 h3 => hi i j (by omega) (by omega) h3) p (by omega)
        exact ⟨i, by omega, h2⟩
    · have hk := hb n (by omega)
      obtain ⟨g', hg'⟩ : ∃ g' : Nat → Nat, g' = fun i => if g i = n then g n else g i := ⟨_, rfl⟩
      have gv : ∀ i, g' i = if g i = n then g n else g i := fun i => by rw [hg']
      have key := ih g' (fun i h => by
          rw [gv]
          by_cases e : g i = n
          · rw [if_pos e]; omega
          · rw [if_neg e]; have := hb i (by omega); omega) (fun i j h1 h2 h3 => by
          rw [gv, gv] at h3
          by_cases e1 : g i = n <;> by_cases e2 : g j = n
          · exact hi i j (by omega) (by omega) (by omega)
          · rw [if_pos e1, if_neg e2] at h3
            have := hi n j (by omega) (by omega) h3
            omega
          · rw [if_neg e1, if_pos e2] at h3
            have := hi i n (by omega) (by omega) h3
            omega
          · rw [if_neg e1, if_neg e2] at h3; exact hi i j (by omega) (by omega) h3)
      by_cases hpk : p = g n
      · exact ⟨n, by omega, hpk.symm⟩
      · by_cases hpn : p = n
        · obtain ⟨i, h1, h2⟩ := key (g n) (by omega)
          rw [gv] at h2
          by_cases e : g i = n
          · exact ⟨i, by omega, by omega⟩
          · rw [if_neg e] at h2
            have := hi i n (by omega) (by omega) h2
            omega
        · obtain ⟨i, h1, h2⟩ := key p (by omega)
          rw [gv] at h2
          by_cases e : g i = n
          · rw [if_pos e] at h2; omega
          · rw [if_neg e] at h2; exact ⟨i, by omega, h2⟩
theorem ltc_irrefl {n : Nat} {c : Int → Int → Int} {x : Int} (h : c x x = 0) : ¬ ltc c x x := by
  unfold ltc; omega
/-- A row in order has each number. -/
theorem blk_all {n : Nat} {c : Int → Int → Int} {g : Nat → Int} (h : Blk c g 0 n) (h0 : ∀ x, c x x = 0) : ∀ p : Nat, p < n → ∃ i, i < n ∧ g i = (p : Int) := by
  intro p hp
  have r := fun i (hi : i < n) => h.2 i (Nat.zero_le _) hi
  obtain ⟨i, h1, h2⟩ := all_there n (fun i => (g i).toNat) (fun i hi => by have := r i hi; show (g i).toNat < n; omega) (fun i j hi hj e => by
    have a := r i hi
    have b := r j hj
    have e' : g i = g j := by have : (g i).toNat = (g j).toNat := e; omega
    rcases Nat.lt_trichotomy i j with l | l | l
    · have := h.1 i j (Nat.zero_le _) l hj; rw [e'] at this; exact absurd this (ltc_irrefl (n := n) (h0 _))
    · exact l
    · have := h.1 j i (Nat.zero_le _) l hi; rw [e'] at this; exact absurd this (ltc_irrefl (n := n) (h0 _))) p hp
  have a := r i h1
  exact ⟨i, h1, by have : (g i).toNat = p := h2; omega⟩
/-- The first place at which a function is nought. -/
def fstZ (f : Nat → Int) : Nat → Nat
  | 0 => 0
  | m + 1 => if fstZ f m < m then fstZ f m else if f m = 0 then m else m + 1
theorem fstZ_le (f : Nat → Int) (m : Nat) : fstZ f m ≤ m := by
  induction m with
  | zero => exact Nat.le_refl _
  | succ m ih => show (if fstZ f m < m then fstZ f m else if f m = 0 then m else m + 1) ≤ _; split <;> (try split) <;> omega
theorem fstZ_spec (f : Nat → Int) (m : Nat) : (∀ x, x < fstZ f m → f x ≠ 0) ∧ (fstZ f m < m → f (fstZ f m) = 0) := by
  induction m with
  | zero => exact ⟨fun x hx => absurd hx (by show ¬ x < 0; omega), fun h => absurd h (by show ¬ 0 < 0; omega)⟩
  | succ m ih =>
    have hle := fstZ_le f m
    have hd : fstZ f (m + 1) = if fstZ f m < m then fstZ f m else if f m = 0 then m else m + 1 := rfl
    rw [hd]
    by_cases h1 : fstZ f m < m
    · rw [if_pos h1]; exact ⟨ih.1, fun _ => ih.2 h1⟩
    · rw [if_neg h1]
      have he : fstZ f m = m := by omega
      rw [he] at ih
      by_cases h2 : f m = 0
      · rw [if_pos h2]; exact ⟨ih.1, fun _ => h2⟩
      · rw [if_neg h2]
        refine ⟨fun x hx => ?_, fun h => by omega⟩
        by_cases hxm : x = m
        · rw [hxm]; exact h2
        · exact ih.1 x (by omega)
theorem fstZ_is {f : Nat → Int} {m p : Nat} (hp : p ≤ m) (h1 : ∀ x, x < p → f x ≠ 0) (h2 : p < m → f p = 0) : fstZ f m = p := by
  obtain ⟨a, b⟩ := fstZ_spec f m
  have c := fstZ_le f m
  rcases Nat.lt_trichotomy (fstZ f m) p with l | l | l
  · exact absurd (b (by omega)) (h1 _ l)
  · exact l
  · exact absurd (h2 (by omega)) (a p l)
/-- What a search in an order finds: the first place at which the same thing stands. -/
theorem search_is {α : Type} {f : α → α → Int} (F : Ord f) (T : Nat → α) (d : α) {n I : Nat} {g : Nat → Int} (hb : Blk (fun x y => f (T x.toNat) (T y.toNat)) g 0 n) (hI : I ≤ n) (hlo : ∀ x, x < I → f (T (g x).toNat) d < 0) (hhi : ∀ x, I ≤ x → x < n → ¬ f (T (g x).toNat) d < 0) :
    fstZ (fun p => f (T p) d) n = if I < n ∧ f (T (g I).toNat) d = 0 then (g I).toNat else n := by
  have hall := blk_all hb (fun x => F.self _)
  have r := fun i (hi : i < n) => hb.2 i (Nat.zero_le _) hi
  by_cases hc : I < n ∧ f (T (g I).toNat) d = 0
  · rw [if_pos hc]
    have rI := r I hc.1
    refine fstZ_is (by omega) (fun x hx => ?_) (fun _ => hc.2)
    intro hz
    obtain ⟨i, hi, hgi⟩ := hall x (by omega)
    have ex : (g i).toNat = x := by omega
    have hz' : f (T (g i).toNat) d = 0 := by rw [ex]; exact hz
    rcases Nat.lt_trichotomy i I with l | l | l
    · have := hlo i l; omega
    · subst l; omega
    · have hl := hb.1 I i (Nat.zero_le _) l hi
      have t1 : f (T (g I).toNat) (T (g i).toNat) = 0 := by
        have a1 := F.anti (T (g i).toNat) d
        have e := F.alike (x := T (g I).toNat) (y := d) (z := T (g i).toNat) hc.2
        omega
      unfold ltc at hl
      simp only at hl
      omega
  · rw [if_neg hc]
    refine fstZ_is (Nat.le_refl _) (fun x hx hz => ?_) (fun h => by omega)
    obtain ⟨i, hi, hgi⟩ := hall x hx
    have ex : (g i).toNat = x := by omega
    have hz' : f (T (g i).toNat) d = 0 := by rw [ex]; exact hz
    by_cases l : i < I
    · have := hlo i l; omega
    · have hIn : I < n := by omega
      have hI0 : ¬ f (T (g I).toNat) d = 0 := fun e => hc ⟨hIn, e⟩
      have hI1 := hhi I (Nat.le_refl _) hIn
      by_cases e : i = I
      · rw [e] at hz'; exact hI0 hz'
      · have hl := hb.1 I i (Nat.zero_le _) (by omega) hi
        have e2 := F.alike (x := T (g i).toNat) (y := d) (z := T (g I).toNat) hz'
        have a1 := F.anti (T (g I).toNat) d
        have a2 := F.anti (T (g I).toNat) (T (g i).toNat)
        unfold ltc at hl
        simp only at hl
        omega
/-- A step of the search. -/
theorem search_lo {α : Type} {f : α → α → Int} (F : Ord f) (T : Nat → α) (d : α) {n H : Nat} {g : Nat → Int} (hb : Blk (fun x y => f (T x.toNat) (T y.toNat)) g 0 n) (hH : H < n) (h : f (T (g H).toNat) d < 0) : ∀ x, x < H + 1 → f (T (g x).toNat) d < 0 := by
  intro x hx
  by_cases e : x = H
  · rw [e]; exact h
  · have hl := hb.1 x H (Nat.zero_le _) (by omega) hH
    unfold ltc at hl
    simp only at hl
    have t := F.trans (T (g x).toNat) (T (g H).toNat) d
    have t2 := F.trans d (T (g x).toNat) (T (g H).toNat)
    have a1 := F.anti (T (g x).toNat) d
    have a2 := F.anti (T (g H).toNat) d
    omega
theorem search_hi {α : Type} {f : α → α → Int} (F : Ord f) (T : Nat → α) (d : α) {n H : Nat} {g : Nat → Int} (hb : Blk (fun x y => f (T x.toNat) (T y.toNat)) g 0 n) (h : ¬ f (T (g H).toNat) d < 0) : ∀ x, H ≤ x → x < n → ¬ f (T (g x).toNat) d < 0 := by
  intro x hx hn hc
  by_cases e : x = H
  · rw [e] at hc; exact h hc
  · exact h (search_lo F T d hb hn hc H (by omega))
end Go.Proofs.Ytimkcpbgnoekcaa
namespace Go.Proofs.Ytimkcpbgnoekcaa
open Go.ChangeShapes Go.WideShapes Go.ChangeAt Go.RowKit
set_option linter.unusedVariables false
set_option maxRecDepth 100000
set_option maxHeartbeats 4000000 in
theorem clo75 {n lo lo' : Nat} {cs : List Ce} {a2 ad : Option Addr} {c2 CA bq i cd : Nat} {d : Ce} {ab : Nat → Option Addr} {cb : Nat → Nat} {W : World} (hcf : CellsFn n lo W cs a2 ab cb) (hCA : cs.length = CA) (hd : CeIn (ArIn n lo' W) lo' W d (.int .i64 d.1) (.int .i64 d.2.1) (.slice ad d.2.2.length cd)) (c1 : W.cell? ⟨bq, 0, none⟩ = some (.slice a2 CA c2)) (hbq : bq < W.heap.size) (hi : i < CA) :
    Calls Try.prog 75 #[.int .i64 (i : Int), .agg #[.int .i64 d.1, .int .i64 d.2.1, .slice ad d.2.2.length cd], .pointer (some ⟨bq, 0, none⟩)] W fun e w' => e = .returned (.int .i64 (cmpC (cmpA n) (cAt cs i) d)) ∧ Below W.heap.size W w' := by
  obtain ⟨b, off, rfl, -, hb, hcells⟩ := hcf (by omega)
  obtain ⟨g0, g1, g2, hce⟩ := hcells i (by omega)
  obtain ⟨W1, e1⟩ : ∃ W1, W.alloc (.cells #[.int .i64 d.1, .int .i64 d.2.1, .slice ad d.2.2.length cd] 39) = W1 := ⟨_, rfl⟩
  have B1 : Below W.heap.size W W1 := by rw [← e1]; exact one_alloc _ _
  have z1 : W1.heap.size = W.heap.size + 1 := by rw [← e1]; simp
  have k0 : W1.cell? ⟨W.heap.size, 0, none⟩ = some (.int .i64 d.1) := by rw [← e1]; exact cell_new0 W _ 39 0 _ rfl
  have k1 : W1.cell? ⟨W.heap.size, 1, none⟩ = some (.int .i64 d.2.1) := by rw [← e1]; exact cell_new0 W _ 39 1 _ rfl
  have k2 : W1.cell? ⟨W.heap.size, 2, none⟩ = some (.slice ad d.2.2.length cd) := by rw [← e1]; exact cell_new0 W _ 39 2 _ rfl
  have HC : Hid (∀ W', Below W1.heap.size W1 W' → Calls Try.prog 56 #[.agg #[.int .i64 (cAt cs i).1, .int .i64 (cAt cs i).2.1, .slice (ab i) (cAt cs i).2.2.length (cb i)], .agg #[.int .i64 d.1, .int .i64 d.2.1, .slice ad d.2.2.length cd]] W' fun e w' => e = .returned (.int .i64 (cmpC (cmpA n) (cAt cs i) d)) ∧ Below W1.heap.size W1 w') := fun W' hW1 => by
    have hW : Below W.heap.size W W' := B1.trans (hW1.mono B1.size)
    refine (cell_any n (cmp_any n) (cAt cs i) d lo lo' W' _ _ _ _ _ _ (hce.mono (Nat.le_refl _) hW fun x v g => g.mono (Nat.le_refl _) hW) (hd.mono (Nat.le_refl _) hW fun x v g => g.mono (Nat.le_refl _) hW)).mono ?_
    rintro e w' ⟨rfl, hb'⟩
    exact ⟨rfl, hW1.trans (hb'.mono hW1.size)⟩
  have u0 := (B1.cell (p := ⟨bq, 0, none⟩) hbq).trans c1
  have u1 := (B1.cell (p := ⟨b, off + i * 3, none⟩) hb).trans g0
  have u2 := (B1.cell (p := ⟨b, off + i * 3 + 1, none⟩) hb).trans g1
  have u3 := (B1.cell (p := ⟨b, off + i * 3 + 2, none⟩) hb).trans g2
  have hs1 := B1.size
  have HB1 := hide B1
  generalize cmpC (cmpA n) (cAt cs i) d = r at *
  clear hce hcells hcf hd c1 g0 g1 g2 B1
  generalize (cAt cs i).1 = x0 at *
  generalize (cAt cs i).2.1 = x1 at *
  generalize (cAt cs i).2.2.length = x2 at *
  generalize d.1 = y0 at *
  generalize d.2.1 = y1 at *
  generalize d.2.2.length = y2 at *
  generalize ab i = x3 at *
  generalize cb i = x4 at *
  obtain ⟨bd, hbd⟩ : ∃ bd, W.heap.size = bd := ⟨_, rfl⟩
  have HBD := hide hbd
  rw [hbd] at k0 k1 k2
  have KS : Hid (∀ W', Below W1.heap.size W1 W' → (Below W1.heap.size W1 W' ∧ W'.cell? ⟨bq, 0, none⟩ = some (.slice (some ⟨b, off, none⟩) CA c2) ∧ W'.cell? ⟨b, off + i * 3, none⟩ = some (.int .i64 x0) ∧ W'.cell? ⟨b, off + i * 3 + 1, none⟩ = some (.int .i64 x1) ∧ W'.cell? ⟨b, off + i * 3 + 2, none⟩ = some (.slice x3 x2 x4) ∧ W'.cell? ⟨bd, 0, none⟩ = some (.int .i64 y0) ∧ W'.cell? ⟨bd, 1, none⟩ = some (.int .i64 y1) ∧ W'.cell? ⟨bd, 2, none⟩ = some (.slice ad y2 cd))) := fun W' h => ⟨h, (h.cell (p := ⟨bq, 0, none⟩) (by show bq < _; omega)).trans u0, (h.cell (p := ⟨b, off + i * 3, none⟩) (by show b < _; omega)).trans u1, (h.cell (p := ⟨b, off + i * 3 + 1, none⟩) (by show b < _; omega)).trans u2, (h.cell (p := ⟨b, off + i * 3 + 2, none⟩) (by show b < _; omega)).trans u3, (h.cell (p := ⟨bd, 0, none⟩) (by show bd < _; omega)).trans k0, (h.cell (p := ⟨bd, 1, none⟩) (by show bd < _; omega)).trans k1, (h.cell (p := ⟨bd, 2, none⟩) (by show bd < _; omega)).trans k2⟩
  have HD0 : Hid (Below W1.heap.size W1 W1.drew) := (Below.refl _ _).drew
  have hiz : (i : Int) < (CA : Int) := by omega
  have HE1 := hide e1
  clear hCA u0 u1 u2 u3 k0 k1 k2 z1 e1 hbd
  go_enter Try.func75, Try.ntmps75
  go_upto_region 1 with fail
  rw [HE1.out, HBD.out]
  go_region_held3 (fun W' => Below W1.heap.size W1 W' ∧ W'.cell? ⟨bq, 0, none⟩ = some (.slice (some ⟨b, off, none⟩) CA c2) ∧ W'.cell? ⟨b, off + i * 3, none⟩ = some (.int .i64 x0) ∧ W'.cell? ⟨b, off + i * 3 + 1, none⟩ = some (.int .i64 x1) ∧ W'.cell? ⟨b, off + i * 3 + 2, none⟩ = some (.slice x3 x2 x4) ∧ W'.cell? ⟨bd, 0, none⟩ = some (.int .i64 y0) ∧ W'.cell? ⟨bd, 1, none⟩ = some (.int .i64 y1) ∧ W'.cell? ⟨bd, 2, none⟩ = some (.slice ad y2 cd))
    (first | with_reducible exact KS.out _ HD0.out | with_reducible exact KS.out _ (by with_reducible assumption))
    (first | (go_at_call 56; refine (HC.out _ HD0.out).mono ?_; rintro e w5 ⟨rfl, hb5⟩))
  all_goals
    have HF := hide (HB1.out.trans (hb5.mono HB1.out.size))
    clear hb5
    go_wp2
    go_ret
    exact ⟨rfl, HF.out⟩
set_option maxHeartbeats 4000000 in
theorem bsearch_any {b N cap : Nat} {g : Nat → Int} {v : Nat → Int} {y0 y1 : Int} {ad : Option Addr} {y2 cd : Nat} {P : Value} {w : World} (hrow : ∀ i, i < N → w.cell? ⟨b, i, none⟩ = some (.int .i64 (g i))) (hb : b < w.heap.size) (hN : N ≤ 16384)
    (K : ∀ W, Below w.heap.size w W → ∀ i, i < N → Calls Try.prog 75 #[.int .i64 (g i), .agg #[.int .i64 y0, .int .i64 y1, .slice ad y2 cd], P] W fun e w' => e = .returned (.int .i64 (v i)) ∧ Below W.heap.size W w')
    (hlo : ∀ H, H < N → v H < 0 → ∀ x, x < H + 1 → v x < 0) (hhi : ∀ H, H < N → 0 ≤ v H → ∀ x, H ≤ x → x < N → 0 ≤ v x) :
    Calls Try.prog 74 #[.slice (some ⟨b, 0, none⟩) N cap, .agg #[.int .i64 y0, .int .i64 y1, .slice ad y2 cd], .func (.func 75) #[] #[P]] w fun e w' => ∃ I, I ≤ N ∧ (∀ x, x < I → v x < 0) ∧ (∀ x, I ≤ x → x < N → 0 ≤ v x) ∧ e = .returned (.tuple #[.int .i64 (I : Int), .bool (decide (I < N ∧ v I = 0))]) ∧ Below w.heap.size w w' := by
  obtain ⟨W1, e1⟩ : ∃ W1, w.alloc (.cells #[.int .i64 y0, .int .i64 y1, .slice ad y2 cd] 39) = W1 := ⟨_, rfl⟩
  have B1 : Below w.heap.size w W1 := by rw [← e1]; exact one_alloc _ _
  obtain ⟨bd, hbd⟩ : ∃ bd, w.heap.size = bd := ⟨_, rfl⟩
  have z1 : W1.heap.size = bd + 1 := by rw [← e1]; simp [hbd]
  have k0 : W1.cell? ⟨bd, 0, none⟩ = some (.int .i64 y0) := by rw [← e1, ← hbd]; exact cell_new0 w _ 39 0 _ rfl
  have k1 : W1.cell? ⟨bd, 1, none⟩ = some (.int .i64 y1) := by rw [← e1, ← hbd]; exact cell_new0 w _ 39 1 _ rfl
  have k2 : W1.cell? ⟨bd, 2, none⟩ = some (.slice ad y2 cd) := by rw [← e1, ← hbd]; exact cell_new0 w _ 39 2 _ rfl
  have KSG : Hid (∀ (W0 : World), Below W1.heap.size W1 W0 → ∀ i, i < N → ∀ W, Below W0.heap.size W0 W → (Below W0.heap.size W0 W ∧ W.cell? ⟨b, i, none⟩ = some (.int .i64 (g i)) ∧ W.cell? ⟨bd, 0, none⟩ = some (.int .i64 y0) ∧ W.cell? ⟨bd, 1, none⟩ = some (.int .i64 y1) ∧ W.cell? ⟨bd, 2, none⟩ = some (.slice ad y2 cd))) := fun W0 h0 i hi W hW => by
    have h1 : Below W1.heap.size W1 W := h0.trans (hW.mono h0.size)
    have h2 : Below w.heap.size w W := B1.trans (h1.mono B1.size)
    exact ⟨hW, (h2.cell (p := ⟨b, i, none⟩) hb).trans (hrow i hi), (h1.cell (p := ⟨bd, 0, none⟩) (by show bd < _; omega)).trans k0, (h1.cell (p := ⟨bd, 1, none⟩) (by show bd < _; omega)).trans k1, (h1.cell (p := ⟨bd, 2, none⟩) (by show bd < _; omega)).trans k2⟩
  have HCG : Hid (∀ (W0 : World), Below W1.heap.size W1 W0 → ∀ i, i < N → ∀ W, Below W0.heap.size W0 W → Calls Try.prog 75 #[.int .i64 (g i), .agg #[.int .i64 y0, .int .i64 y1, .slice ad y2 cd], P] W fun e w' => e = .returned (.int .i64 (v i)) ∧ Below W0.heap.size W0 w') := fun W0 h0 i hi W hW => by
    have h1 : Below W1.heap.size W1 W := h0.trans (hW.mono h0.size)
    have h2 : Below w.heap.size w W := B1.trans (h1.mono B1.size)
    refine (K W h2 i hi).mono ?_
    rintro e w' ⟨rfl, hb'⟩
    exact ⟨rfl, hW.trans (hb'.mono hW.size)⟩
  have HLH := hide (And.intro hlo hhi)
  have HB1 := hide B1
  have HE1 := hide (And.intro e1 hbd)
  clear K hrow hb k0 k1 k2 B1 z1 e1 hbd hlo hhi
  go_enter Try.func74, Try.ntmps74
  go_wp2
  rw [HE1.out.1, HE1.out.2]
  go_loopg [9, 10] N (fun M i j wr => ∃ I J : Nat, I ≤ J ∧ J ≤ N ∧ J - I ≤ M ∧ i = .int .i64 (I : Int) ∧ j = .int .i64 (J : Int) ∧ Below W1.heap.size W1 wr ∧ (∀ x, x < I → v x < 0) ∧ (∀ x, J ≤ x → x < N → 0 ≤ v x))
  case atStart => exact ⟨0, N, Nat.zero_le _, Nat.le_refl _, by omega, rfl, rfl, Below.refl _ _, fun x h => by omega, fun x h1 h2 => by omega⟩
  case round =>
    obtain ⟨I, J, hIJ, hJ, hM, rfl, rfl, hbw, hll, hhh⟩ := hrel
    have HL := hide (And.intro hll hhh)
    have HBW := hide hbw
    have HD0 : Hid (Below wr.heap.size wr wr.drew) := (Below.refl _ _).drew
    by_cases hlt : I < J
    · have hltz : (I : Int) < (J : Int) := by omega
      obtain ⟨H, hH⟩ : ∃ H : Nat, (I + J) / 2 = H := ⟨_, rfl⟩
      have hHz : ((I : Int) + (J : Int)) / 2 = (H : Int) := by omega
      have hHN : H < N := by omega
      have hHNz : (H : Int) < (N : Int) := by omega
      have KS := hide (KSG.out wr hbw H hHN)
      have HC := hide (HCG.out wr hbw H hHN)
      have HS1 : Hid (v H < 0 → ∀ x, x < H + 1 → v x < 0) := HLH.out.1 H hHN
      have HS2 : Hid (0 ≤ v H → ∀ x, H ≤ x → x < N → 0 ≤ v x) := HLH.out.2 H hHN
      obtain ⟨r, hr⟩ : ∃ r, v H = r := ⟨_, rfl⟩
      obtain ⟨gv, hgv⟩ : ∃ gv, g H = gv := ⟨_, rfl⟩
      rw [hr] at HC HS1 HS2
      rw [hgv] at HC KS
      obtain ⟨lb, hlb⟩ : ∃ lb, decide (r < 0) = lb := ⟨_, rfl⟩
      have HLB := hide hlb
      clear hr hgv hll hhh hbw hlb
      go_upto_region 5 with fail
      go_cut [31] from 24 to 31 (fun s wx => s = .bool lb ∧ Below wr.heap.size wr wx)
      case first =>
        have hlb := HLB.out
        go_region_held3 (fun W => Below wr.heap.size wr W ∧ W.cell? ⟨b, H, none⟩ = some (.int .i64 gv) ∧ W.cell? ⟨bd, 0, none⟩ = some (.int .i64 y0) ∧ W.cell? ⟨bd, 1, none⟩ = some (.int .i64 y1) ∧ W.cell? ⟨bd, 2, none⟩ = some (.slice ad y2 cd))
          (first | with_reducible exact KS.out _ HD0.out | with_reducible exact KS.out _ (by with_reducible assumption))
          (first | (go_at_call 75; refine (HC.out _ HD0.out).mono ?_; rintro e w5 ⟨rfl, hb5⟩))
        all_goals
          go_wp2
          go_meet
        all_goals
          case rel => exact ⟨rfl, hb5⟩
      case rest =>
      obtain ⟨rfl, hb9⟩ := hcut
      have HB9 := hide (HBW.out.trans (hb9.mono HBW.out.size))
      clear hb9 HC KS HD0
      go_upto_if 31 with fail
      cases lb
      case true =>
        have HN := hide (HS1.out (of_decide_eq_true HLB.out))
        go_wp2
        go_roundg (J - (H + 1))
        case rel => exact ⟨H + 1, J, by omega, hJ, by omega, by go_num, rfl, HB9.out, HN.out, HL.out.2⟩
        case measure => omega
      case false =>
        have HN := hide (HS2.out (by have := of_decide_eq_false HLB.out; omega))
        go_wp2
        go_roundg (H - I)
        case rel => exact ⟨I, H, by omega, by omega, by omega, rfl, rfl, HB9.out, HL.out.1, HN.out⟩
        case measure => omega
    · have hIe : J = I := by omega
      subst hIe
      have HFIN : Hid (∀ w' tb, tb = decide (J < N ∧ v J = 0) → Below wr.heap.size wr w' → ∃ I, I ≤ N ∧ (∀ x, x < I → v x < 0) ∧ (∀ x, I ≤ x → x < N → 0 ≤ v x) ∧ Ending.returned (.tuple #[.int .i64 (J : Int), .bool tb]) = .returned (.tuple #[.int .i64 (I : Int), .bool (decide (I < N ∧ v I = 0))]) ∧ Below w.heap.size w w') := fun w' tb ht h5 => by
        refine ⟨J, hJ, HL.out.1, HL.out.2, by rw [ht], ?_⟩
        have h1 := HBW.out.trans (h5.mono HBW.out.size)
        exact HB1.out.trans (h1.mono HB1.out.size)
      by_cases hJN : J < N
      · have hJNz : (J : Int) < (N : Int) := by omega
        have KS := hide (KSG.out wr hbw J hJN)
        have HC := hide (HCG.out wr hbw J hJN)
        obtain ⟨tb, htb⟩ : ∃ tb, decide (v J = 0) = tb := ⟨_, rfl⟩
        have HTB : Hid (tb = decide (J < N ∧ v J = 0)) := by unfold Hid; rw [← htb]; simp [hJN]
        obtain ⟨r, hr⟩ : ∃ r, v J = r := ⟨_, rfl⟩
        obtain ⟨gv, hgv⟩ : ∃ gv, g J = gv := ⟨_, rfl⟩
        rw [hr] at HC htb
        rw [hgv] at HC KS
        have hrb : (r == 0) = tb := by rw [← htb]; rfl
        clear hr hgv hll hhh hbw htb
        go_upto_region 8 with fail
        go_region_held3 (fun W => Below wr.heap.size wr W ∧ W.cell? ⟨b, J, none⟩ = some (.int .i64 gv) ∧ W.cell? ⟨bd, 0, none⟩ = some (.int .i64 y0) ∧ W.cell? ⟨bd, 1, none⟩ = some (.int .i64 y1) ∧ W.cell? ⟨bd, 2, none⟩ = some (.slice ad y2 cd))
          (first | with_reducible exact KS.out _ HD0.out | with_reducible exact KS.out _ (by with_reducible assumption))
          (first | (go_at_call 75; refine (HC.out _ HD0.out).mono ?_; rintro e w5 ⟨rfl, hb5⟩))
        all_goals
          have HF := hide (HFIN.out _ _ HTB.out hb5)
          clear hb5
          go_wp2
          go_ret2
          exact HF.out
      · have hJe : J = N := by omega
        have HF := hide fun m => HFIN.out (wr.drewN m) false (by simp [hJN]) (drewN_below (Below.refl _ _) _)
        clear hll hhh hbw
        subst hJe
        go_upto_region 8 with fail
        go_quiet (fail)
        go_wp2
        go_ret2
        exact HF.out _
/-- What the function that finder hands back leans on, in a world. -/
structure FindW (n lo : Nat) (cs : List Ce) (a2 : Option Addr) (CA c2 bo bc : Nat) (ab : Nat → Option Addr) (cb : Nat → Nat) (b : Nat) (g : Nat → Int) (W : World) : Prop where
  cf : CellsFn n lo W cs a2 ab cb
  len : cs.length = CA
  c0 : W.cell? ⟨bo, 0, none⟩ = some (.slice (some ⟨b, 0, none⟩) CA CA)
  c1 : W.cell? ⟨bc, 0, none⟩ = some (.slice a2 CA c2)
  row : ∀ i, i < CA → W.cell? ⟨b, i, none⟩ = some (.int .i64 (g i))
  lo1 : bo < W.heap.size
  lo2 : bc < W.heap.size
  lo3 : b < W.heap.size
  blk : Blk (byC n cs) g 0 CA
theorem FindW.next {n lo : Nat} {cs : List Ce} {a2 : Option Addr} {CA c2 bo bc : Nat} {ab : Nat → Option Addr} {cb : Nat → Nat} {b : Nat} {g : Nat → Int} {W W' : World} (h : FindW n lo cs a2 CA c2 bo bc ab cb b g W) (hb : Below W.heap.size W W') : FindW n lo cs a2 CA c2 bo bc ab cb b g W' :=
  ⟨h.cf.next hb, h.len, (hb.cell (p := ⟨bo, 0, none⟩) h.lo1).trans h.c0, (hb.cell (p := ⟨bc, 0, none⟩) h.lo2).trans h.c1, fun i hi => (hb.cell (p := ⟨b, i, none⟩) h.lo3).trans (h.row i hi), Nat.lt_of_lt_of_le h.lo1 hb.size, Nat.lt_of_lt_of_le h.lo2 hb.size, Nat.lt_of_lt_of_le h.lo3 hb.size, h.blk⟩
/-- The first place at which the same cell stands. -/
def plcC (n : Nat) (cs : List Ce) (d : Ce) : Nat := fstZ (fun p => cmpC (cmpA n) (cAt cs p) d) cs.length
set_option maxHeartbeats 4000000 in
theorem place73 {n lo lo' : Nat} {cs : List Ce} {a2 ad : Option Addr} {CA c2 bo bc cd : Nat} {ab : Nat → Option Addr} {cb : Nat → Nat} {b : Nat} {g : Nat → Int} {d : Ce} {w : World} (F : FindW n lo cs a2 CA c2 bo bc ab cb b g w) (h16 : CA ≤ 16384) (hd : CeIn (ArIn n lo' w) lo' w d (.int .i64 d.1) (.int .i64 d.2.1) (.slice ad d.2.2.length cd)) :
    Calls Try.prog 73 #[.agg #[.int .i64 d.1, .int .i64 d.2.1, .slice ad d.2.2.length cd], .pointer (some ⟨bo, 0, none⟩), .pointer (some ⟨bc, 0, none⟩)] w fun e w' => e = .returned (.int .i64 (plcC n cs d : Int)) ∧ Below w.heap.size w w' := by
  obtain ⟨W1, e1⟩ : ∃ W1, w.alloc (.cells #[.int .i64 d.1, .int .i64 d.2.1, .slice ad d.2.2.length cd] 39) = W1 := ⟨_, rfl⟩
  have B1 : Below w.heap.size w W1 := by rw [← e1]; exact one_alloc _ _
  have F1 := F.next B1
  have hr := fun i (hi : i < CA) => F.blk.2 i (Nat.zero_le _) hi
  have O := ord_cell (ord_arr n)
  have C := bsearch_any (b := b) (N := CA) (cap := CA) (g := g) (v := fun i => cmpC (cmpA n) (cAt cs (g i).toNat) d) (y0 := d.1) (y1 := d.2.1) (ad := ad) (y2 := d.2.2.length) (cd := cd) (P := .pointer (some ⟨bc, 0, none⟩)) (w := W1) F1.row F1.lo3 h16 (fun W hW i hi => by
      have h0 := hr i hi
      obtain ⟨j, hj⟩ : ∃ j : Nat, g i = (j : Int) := ⟨(g i).toNat, by omega⟩
      have FW := F1.next hW
      have hwW := B1.trans (hW.mono B1.size)
      simp only [hj, Int.toNat_natCast]
      exact clo75 FW.cf FW.len (hd.mono (Nat.le_refl _) hwW fun x v g => g.mono (Nat.le_refl _) hwW) FW.c1 FW.lo2 (by omega))
    (fun H hH h => search_lo O (fun p => cAt cs p) d (n := CA) F.blk hH h)
    (fun H hH h x h1 h2 => by
      have := search_hi O (fun p => cAt cs p) d (n := CA) (H := H) F.blk (by show ¬ _ < 0; omega) x h1 h2
      exact Int.not_lt.1 this)
  have HS : Hid (∀ I, I ≤ CA → (∀ x, x < I → cmpC (cmpA n) (cAt cs (g x).toNat) d < 0) → (∀ x, I ≤ x → x < CA → 0 ≤ cmpC (cmpA n) (cAt cs (g x).toNat) d) → plcC n cs d = if I < CA ∧ cmpC (cmpA n) (cAt cs (g I).toNat) d = 0 then (g I).toNat else CA) := fun I h1 h2 h3 => by
    unfold plcC
    rw [F.len]
    exact search_is O (fun p => cAt cs p) d F.blk h1 h2 (fun x a b => by have := h3 x a b; show ¬ _ < 0; omega)
  have q0 := F1.c0
  have HB1 := hide B1
  have HF1 := hide F1
  have HR := hide hr
  have k0 : W1.cell? ⟨w.heap.size, 0, none⟩ = some (.int .i64 d.1) := by rw [← e1]; exact cell_new0 w _ 39 0 _ rfl
  have k1 : W1.cell? ⟨w.heap.size, 1, none⟩ = some (.int .i64 d.2.1) := by rw [← e1]; exact cell_new0 w _ 39 1 _ rfl
  have k2 : W1.cell? ⟨w.heap.size, 2, none⟩ = some (.slice ad d.2.2.length cd) := by rw [← e1]; exact cell_new0 w _ 39 2 _ rfl
  obtain ⟨PL, hPL⟩ : ∃ PL, plcC n cs d = PL := ⟨_, rfl⟩
  rw [hPL] at HS ⊢
  generalize d.1 = y0 at *
  generalize d.2.1 = y1 at *
  generalize d.2.2.length = y2 at *
  clear F F1 hd B1 hr O hPL
  go_enter Try.func73, Try.ntmps73
  go_wp2_with fail
  clear e1 k0 k1 k2 q0
  refine C.mono ?_
  clear C
  rintro e w5 ⟨I, hI, hl, hh, rfl, hb5⟩
  have F5 := HF1.out.next hb5
  have HB5 := hide (HB1.out.trans (hb5.mono HB1.out.size))
  have hPL := HS.out I hI hl hh
  have HL := hide hPL
  clear hl hh hb5 HS hPL
  by_cases hc : I < CA ∧ cmpC (cmpA n) (cAt cs (g I).toNat) d = 0
  · have ht : decide (I < CA ∧ cmpC (cmpA n) (cAt cs (g I).toNat) d = 0) = true := decide_eq_true hc
    have q0 := F5.c0
    have q1 := F5.row I hc.1
    have hIz : (I : Int) < (CA : Int) := by have := hc.1; omega
    have HE : Hid (g I = (PL : Int)) := by
      have := HL.out
      rw [if_pos hc] at this
      have := HR.out I hc.1
      unfold Hid
      omega
    rw [ht]
    clear hc ht F5
    generalize g I = z at *
    go_wp2
    go_ret
    exact ⟨by rw [← HE.out]; rfl, HB5.out⟩
  · have ht : decide (I < CA ∧ cmpC (cmpA n) (cAt cs (g I).toNat) d = 0) = false := decide_eq_false hc
    have q1 := F5.c1
    have HE : Hid (CA = PL) := by
      have := HL.out
      rw [if_neg hc] at this
      exact this.symm
    rw [ht]
    clear hc ht F5
    go_wp2
    go_ret
    exact ⟨by rw [← HE.out]; rfl, HB5.out⟩
end Go.Proofs.Ytimkcpbgnoekcaa
namespace Go.Proofs.Ytimkcpbgnoekcaa
open Go.ChangeShapes Go.WideShapes Go.ChangeAt Go.RowKit
set_option linter.unusedVariables false
set_option maxRecDepth 100000
/-- All cells are of a kind. -/
def allK (K : Int) (cs : List Ce) : Bool := decide (∀ i, i < cs.length → (cAt cs i).1 = K)
set_option maxHeartbeats 2000000 in
theorem clo77 {k y1 K : Int} {ad : Option Addr} {y2 cd bk : Nat} {w : World} (hk : w.cell? ⟨bk, 0, none⟩ = some (.int .i64 K)) (hbk : bk < w.heap.size) :
    Calls Try.prog 77 #[.agg #[.int .i64 k, .int .i64 y1, .slice ad y2 cd], .pointer (some ⟨bk, 0, none⟩)] w fun e w' => e = .returned (.bool (!(k == K))) ∧ Below w.heap.size w w' := by
  obtain ⟨W1, e1⟩ : ∃ W1, w.alloc (.cells #[.int .i64 k, .int .i64 y1, .slice ad y2 cd] 39) = W1 := ⟨_, rfl⟩
  have B1 : Below w.heap.size w W1 := by rw [← e1]; exact one_alloc _ _
  have k0 : W1.cell? ⟨w.heap.size, 0, none⟩ = some (.int .i64 k) := by rw [← e1]; exact cell_new0 w _ 39 0 _ rfl
  have u0 := (B1.cell (p := ⟨bk, 0, none⟩) hbk).trans hk
  have HB := hide B1
  obtain ⟨nb, hnb⟩ : ∃ nb, (k == K) = nb := ⟨_, rfl⟩
  have hnb2 : (k != K) = !nb := by rw [← hnb]; rfl
  rw [hnb]
  clear hk hbk B1
  go_enter Try.func77, Try.ntmps77
  go_wp2
  go_ret
  exact ⟨by first | rfl | rw [hnb2] | (rw [← hnb]; rfl), HB.out⟩
set_option maxHeartbeats 2000000 in
theorem idx88 {n lo CA c2 bk : Nat} {K : Int} {cs : List Ce} {a2 : Option Addr} {ab : Nat → Option Addr} {cb : Nat → Nat} {w : World} (hcf : CellsFn n lo w cs a2 ab cb) (hCA : cs.length = CA) (h16 : CA ≤ 16384) (hk : w.cell? ⟨bk, 0, none⟩ = some (.int .i64 K)) (hbk : bk < w.heap.size) :
    Calls Try.prog 88 #[.slice a2 CA c2, .func (.func 77) #[] #[.pointer (some ⟨bk, 0, none⟩)]] w fun e w' => (∃ r : Int, e = .returned (.int .i64 r) ∧ ((r = -1 ∧ allK K cs = true) ∨ (0 ≤ r ∧ allK K cs = false))) ∧ Below w.heap.size w w' := by
  have HC : Hid (∀ W, Below w.heap.size w W → ∀ i, Calls Try.prog 77 #[.agg #[.int .i64 (cAt cs i).1, .int .i64 (cAt cs i).2.1, .slice (ab i) (cAt cs i).2.2.length (cb i)], .pointer (some ⟨bk, 0, none⟩)] W fun e w' => e = .returned (.bool (!((cAt cs i).1 == K))) ∧ Below W.heap.size W w') := fun W h i =>
    clo77 ((h.cell (p := ⟨bk, 0, none⟩) hbk).trans hk) (Nat.lt_of_lt_of_le hbk h.size)
  have HCF := hide hcf
  have HLEN := hide hCA
  clear hcf hCA hk hbk
  go_enter Try.func88, Try.ntmps88
  go_wp2
  go_loopg [8] CA (fun M i wr => ∃ t : Nat, M + t = CA ∧ i = .int .i64 (t : Int) ∧ Below w.heap.size w wr ∧ ∀ x, x < t → (cAt cs x).1 = K)
  case atStart => exact ⟨0, rfl, rfl, Below.refl _ _, fun x h => by omega⟩
  case round =>
    obtain ⟨t, hM, rfl, hbw, hall⟩ := hrel
    have HAL := hide hall
    have HBW := hide hbw
    by_cases hlt : t < CA
    · have hltz : (t : Int) < (CA : Int) := by omega
      obtain ⟨b, off, rfl, -, hb, hcells⟩ := HCF.out (by rw [HLEN.out]; omega)
      obtain ⟨g0, g1, g2, -⟩ := hcells t (by rw [HLEN.out]; exact hlt)
      have u0 := (hbw.cell (p := ⟨b, off + t * 3, none⟩) hb).trans g0
      have u1 := (hbw.cell (p := ⟨b, off + t * 3 + 1, none⟩) hb).trans g1
      have u2 := (hbw.cell (p := ⟨b, off + t * 3 + 2, none⟩) hb).trans g2
      have C := HC.out wr hbw t
      obtain ⟨k, hk⟩ : ∃ k, (cAt cs t).1 = k := ⟨_, rfl⟩
      have HKk := hide hk
      obtain ⟨nb, hnb⟩ : ∃ nb, (k == K) = nb := ⟨_, rfl⟩
      have HNB := hide hnb
      rw [hk] at C u0
      rw [hnb] at C
      generalize (cAt cs t).2.1 = x1 at *
      generalize (cAt cs t).2.2.length = x2 at *
      generalize ab t = x3 at *
      generalize cb t = x4 at *
      clear hk hnb hcells g0 g1 g2 hall hbw hb
      go_wp2_with fail
      refine C.mono ?_
      clear C u0 u1 u2
      rintro e w5 ⟨rfl, hb5⟩
      have HB5 := hide (HBW.out.trans (hb5.mono HBW.out.size))
      clear hb5
      cases nb
      case false =>
        have HF : Hid (allK K cs = false) := by
          unfold Hid allK
          refine decide_eq_false fun h => ?_
          have := h t (by rw [HLEN.out]; exact hlt)
          rw [HKk.out] at this
          exact absurd this (beq_eq_false_iff_ne.1 HNB.out)
        go_wp2
        go_ret
        exact ⟨⟨_, rfl, Or.inr ⟨by omega, HF.out⟩⟩, HB5.out⟩
      case true =>
        have HN : Hid (∀ x, x < t + 1 → (cAt cs x).1 = K) := fun x hx => by
          by_cases e : x = t
          · rw [e, HKk.out]; exact eq_of_beq HNB.out
          · exact HAL.out x (by omega)
        go_wp2
        go_roundg (CA - (t + 1))
        case rel => exact ⟨t + 1, by omega, by go_num, HB5.out, HN.out⟩
        case measure => omega
    · have hte : t = CA := by omega
      subst hte
      have HF : Hid (allK K cs = true) := decide_eq_true fun i hi => HAL.out i (by rw [← HLEN.out]; exact hi)
      clear hbw hall
      go_wp2
      go_ret
      exact ⟨⟨_, rfl, Or.inl ⟨rfl, HF.out⟩⟩, HBW.out⟩
set_option maxHeartbeats 2000000 in
theorem contains76 {n lo CA c2 bk : Nat} {K : Int} {cs : List Ce} {a2 : Option Addr} {ab : Nat → Option Addr} {cb : Nat → Nat} {w : World} (hcf : CellsFn n lo w cs a2 ab cb) (hCA : cs.length = CA) (h16 : CA ≤ 16384) (hk : w.cell? ⟨bk, 0, none⟩ = some (.int .i64 K)) (hbk : bk < w.heap.size) :
    Calls Try.prog 76 #[.slice a2 CA c2, .func (.func 77) #[] #[.pointer (some ⟨bk, 0, none⟩)]] w fun e w' => e = .returned (.bool (!(allK K cs))) ∧ Below w.heap.size w w' := by
  have C := idx88 (c2 := c2) hcf hCA h16 hk hbk
  generalize allK K cs = A at *
  clear hcf hCA hk hbk
  go_enter Try.func76, Try.ntmps76
  go_wp2_with fail
  refine C.mono ?_
  clear C
  rintro e w5 ⟨⟨r, rfl, hr⟩, hb5⟩
  have HB := hide hb5
  clear hb5
  rcases hr with ⟨rfl, rfl⟩ | ⟨h0, rfl⟩
  · go_wp2
    go_ret
    exact ⟨rfl, HB.out⟩
  · go_wp2
    go_ret
    exact ⟨rfl, HB.out⟩
set_option maxHeartbeats 2000000 in
theorem allOf_any {n lo CA c2 : Nat} {K : Int} {cs : List Ce} {a2 : Option Addr} {ab : Nat → Option Addr} {cb : Nat → Nat} {w : World} (hcf : CellsFn n lo w cs a2 ab cb) (hCA : cs.length = CA) (h16 : CA ≤ 16384) :
    Calls Try.prog 51 #[.slice a2 CA c2, .int .i64 K] w fun e w' => e = .returned (.bool (allK K cs)) ∧ Below w.heap.size w w' := by
  obtain ⟨W1, e1⟩ : ∃ W1, w.alloc (.cells #[.int .i64 K] 3) = W1 := ⟨_, rfl⟩
  have B1 : Below w.heap.size w W1 := by rw [← e1]; exact one_alloc _ _
  have z1 : W1.heap.size = w.heap.size + 1 := by rw [← e1]; simp
  have k0 : W1.cell? ⟨w.heap.size, 0, none⟩ = some (.int .i64 K) := by rw [← e1]; exact cell_new0 w _ 3 0 _ rfl
  have C := contains76 (c2 := c2) (hcf.next B1) hCA h16 k0 (by omega)
  generalize allK K cs = A at *
  have HB1 := hide B1
  clear hcf hCA B1 z1 k0
  go_enter Try.func51, Try.ntmps51
  go_wp2_with fail
  clear e1
  refine C.mono ?_
  clear C
  rintro e w5 ⟨rfl, hb5⟩
  have HB := hide (HB1.out.trans (hb5.mono HB1.out.size))
  clear hb5
  cases A
  · go_wp2
    go_ret
    exact ⟨rfl, HB.out⟩
  · go_wp2
    go_ret
    exact ⟨rfl, HB.out⟩
end Go.Proofs.Ytimkcpbgnoekcaa
namespace Go.Proofs.Ytimkcpbgnoekcaa
open Go.ChangeShapes Go.WideShapes Go.ChangeAt Go.RowKit
set_option linter.unusedVariables false
set_option maxRecDepth 100000
set_option maxHeartbeats 4000000 in
theorem clo79_30 {N M ci bi bp bq i k : Nat} {sa : Nat → Option Addr} {sc : Nat → Nat} {r : Int} {W : World} (hrow : ∀ i, i < N → W.cell? ⟨bi, i, none⟩ = some (.slice (sa i) M (sc i))) (hbi : bi < W.heap.size) (c0 : W.cell? ⟨bp, 0, none⟩ = some (.func (.func 30) #[] #[])) (c1 : W.cell? ⟨bq, 0, none⟩ = some (.slice (some ⟨bi, 0, none⟩) N ci)) (hbp : bp < W.heap.size) (hbq : bq < W.heap.size) (hi : i < N) (hk : k < N)
    (K : ∀ W', Below W.heap.size W W' → Calls Try.prog 30 #[.slice (sa i) M (sc i), .slice (sa k) M (sc k)] W' fun e w' => e = .returned (.int .i64 r) ∧ Below W'.heap.size W' w') :
    Calls Try.prog 79 #[.int .i64 (i : Int), .int .i64 (k : Int), .pointer (some ⟨bp, 0, none⟩), .pointer (some ⟨bq, 0, none⟩)] W fun e w' => e = .returned (.int .i64 r) ∧ Below W.heap.size W w' := by
  have g0 := hrow i hi
  have k0 := hrow k hk
  have HC : Hid (∀ W', Below W.heap.size W W' → Calls Try.prog 30 #[.slice (sa i) M (sc i), .slice (sa k) M (sc k)] W' fun e w' => e = .returned (.int .i64 r) ∧ Below W.heap.size W w') := fun W' hW => by
    refine (K W' hW).mono ?_
    rintro e w' ⟨rfl, hb'⟩
    exact ⟨rfl, hW.trans (hb'.mono hW.size)⟩
  generalize sa i = x0 at *
  generalize sa k = y0 at *
  generalize sc i = x1 at *
  generalize sc k = y1 at *
  have KS : Hid (∀ W', Below W.heap.size W W' → (Below W.heap.size W W' ∧ W'.cell? ⟨bp, 0, none⟩ = some (.func (.func 30) #[] #[]) ∧ W'.cell? ⟨bq, 0, none⟩ = some (.slice (some ⟨bi, 0, none⟩) N ci) ∧ W'.cell? ⟨bi, i, none⟩ = some (.slice x0 M x1) ∧ W'.cell? ⟨bi, k, none⟩ = some (.slice y0 M y1))) := fun W' h => ⟨h, (h.cell (p := ⟨bp, 0, none⟩) hbp).trans c0, (h.cell (p := ⟨bq, 0, none⟩) hbq).trans c1, (h.cell (p := ⟨bi, i, none⟩) hbi).trans g0, (h.cell (p := ⟨bi, k, none⟩) hbi).trans k0⟩
  have HD0 : Hid (Below W.heap.size W W.drew) := (Below.refl _ _).drew
  have hiz : (i : Int) < (N : Int) := by omega
  have hkz : (k : Int) < (N : Int) := by omega
  clear hrow K c0 c1 g0 k0
  go_enter Try.func79, Try.ntmps79
  go_upto_region 1 with fail
  go_region_held3 (fun W' => Below W.heap.size W W' ∧ W'.cell? ⟨bp, 0, none⟩ = some (.func (.func 30) #[] #[]) ∧ W'.cell? ⟨bq, 0, none⟩ = some (.slice (some ⟨bi, 0, none⟩) N ci) ∧ W'.cell? ⟨bi, i, none⟩ = some (.slice x0 M x1) ∧ W'.cell? ⟨bi, k, none⟩ = some (.slice y0 M y1))
    (first | with_reducible exact KS.out _ HD0.out | with_reducible exact KS.out _ (by with_reducible assumption))
    (first | (go_at_call 30; refine (HC.out _ HD0.out).mono ?_; rintro e w5 ⟨rfl, hb5⟩))
  all_goals
    go_wp2
    go_ret
    exact ⟨rfl, hb5⟩
set_option maxHeartbeats 4000000 in
theorem sorted52_30 {N M ci bi : Nat} {sa : Nat → Option Addr} {sc : Nat → Nat} {c : Int → Int → Int} {w : World} (hrow : ∀ i, i < N → w.cell? ⟨bi, i, none⟩ = some (.slice (sa i) M (sc i))) (hbi : bi < w.heap.size) (h16 : N ≤ 16384) (O : OrdN N c)
    (K : ∀ W, Below w.heap.size w W → ∀ i k, i < N → k < N → Calls Try.prog 30 #[.slice (sa i) M (sc i), .slice (sa k) M (sc k)] W fun e w' => e = .returned (.int .i64 (c (i : Int) (k : Int))) ∧ Below W.heap.size W w') :
    Calls Try.prog 52 #[.slice (some ⟨bi, 0, none⟩) N ci, .func (.func 30) #[] #[]] w fun e w' => InOrd c N w e w' := by
  obtain ⟨W1, e1⟩ : ∃ W1, (w.alloc (.cells #[.slice (some ⟨bi, 0, none⟩) N ci] 73)).alloc (.cells #[.func (.func 30) #[] #[]] 53) = W1 := ⟨_, rfl⟩
  have B1 : Below w.heap.size w W1 := by rw [← e1]; exact two_allocs _ _ _
  have z1 : W1.heap.size = w.heap.size + 2 := by rw [← e1]; simp
  have q0 : W1.cell? ⟨w.heap.size, 0, none⟩ = some (.slice (some ⟨bi, 0, none⟩) N ci) := by rw [← e1]; exact cell_new1 w _ 73 (0, 0) _ 0 _ rfl
  have q1 : W1.cell? ⟨w.heap.size + 1, 0, none⟩ = some (.func (.func 30) #[] #[]) := by rw [← e1]; exact cell_new2 w _ 53 (0, 0) _ 0 _ rfl
  obtain ⟨b, hb⟩ : ∃ b, W1.heap.size = b := ⟨_, rfl⟩
  have mk := run_make_row' (P := Try.prog) 22 3 (.int .i64 0) 8 Try.underlying22 int3 rfl .i64 .i64 N (by omega) (by omega)
  obtain ⟨W2, e2⟩ : ∃ W2, W1.alloc (.cells (madeCells #[.int .i64 0] N) 3) = W2 := ⟨_, rfl⟩
  have rm : W2.rowIs b 3 N (fun _ => .int .i64 0) := by rw [← e2, ← hb]; exact World.rowIs_made W1 (.int .i64 0) N 3
  have B2 : Below b W1 W2 := by rw [← e2, ← hb]; exact one_alloc _ _
  have S0 : St W1 b N (fun i => if i < 0 then (i : Int) else 0) W2 := ⟨B2, by rw [← e2]; simp [hb], fun i hi => ⟨by have := rm.cell (i := i) hi; simpa using this, rm.frozen i⟩⟩
  have HS0 := hide S0
  have HK : Hid (CmpOk W1 b N 79 (.pointer (some ⟨w.heap.size + 1, 0, none⟩)) (.pointer (some ⟨w.heap.size, 0, none⟩)) c) := fun W hW x y hx0 hx1 hy0 hy1 => by
    obtain ⟨i, rfl⟩ : ∃ i : Nat, x = (i : Int) := ⟨x.toNat, by omega⟩
    obtain ⟨k, rfl⟩ : ∃ k : Nat, y = (k : Int) := ⟨y.toNat, by omega⟩
    have hBW : Below W1.heap.size W1 W := by rw [hb]; exact hW
    have hs := hBW.size
    exact clo79_30 (bp := w.heap.size + 1) (bq := w.heap.size) (ci := ci) (sa := sa) (sc := sc) (fun i hi => ((B1.trans (hBW.mono B1.size)).cell (p := ⟨bi, i, none⟩) hbi).trans (hrow i hi)) (by omega) ((hBW.cell (p := ⟨w.heap.size + 1, 0, none⟩) (by show w.heap.size + 1 < _; omega)).trans q1) ((hBW.cell (p := ⟨w.heap.size, 0, none⟩) (by show w.heap.size < _; omega)).trans q0) (by omega) (by omega) (show i < N by omega) (show k < N by omega) (fun W' h' => K W' ((B1.trans (hBW.mono B1.size)).trans (h'.mono (by omega))) i k (by omega) (by omega))
  have HB := hide (And.intro B1 (And.intro z1 hb))
  have HE1 := hide e1
  have HE2 := hide e2
  have HO := hide O
  clear hrow K O B1 rm B2 S0 e2
  go_enter Try.func52, Try.ntmps52
  go_wp2
  rw [HE2.out, show w.heap.size + 2 = b by omega]
  clear z1 hb e1 mk
  go_loopg [6, 12] N (fun M _i j wr => ∃ k : Nat, M + k = N ∧ j = .int .i64 (k : Int) ∧ St W1 b N (fun i => if i < k then (i : Int) else 0) wr)
  case atStart => exact ⟨0, rfl, rfl, HS0.out⟩
  case round =>
    clear HS0
    obtain ⟨k, hM, rfl, hs⟩ := hrel
    by_cases hlt : k < N
    · have hltz : (k : Int) < (N : Int) := by omega
      obtain ⟨c0, f0⟩ := hs.row k hlt
      have HN : Hid (St W1 b N (fun i => if i < k + 1 then (i : Int) else 0) (wr.setCell ⟨b, k, none⟩ (.int .i64 (k : Int)))) := by
        refine (hs.set hlt (k : Int)).congr fun i hi => ?_
        unfold upd
        by_cases e : i = k
        · rw [if_pos e, if_pos (by omega), e]
        · rw [if_neg e]
          show (if i < k then (i : Int) else 0) = _
          by_cases e2 : i < k
          · rw [if_pos e2, if_pos (by omega)]
          · rw [if_neg e2, if_neg (by omega)]
      replace c0 : ∃ z, wr.cell? ⟨b, k, none⟩ = some (.int .i64 z) := ⟨_, c0⟩
      obtain ⟨z, c0⟩ := c0
      clear hs
      go_wp2
      go_roundg (N - (k + 1))
      case rel => exact ⟨k + 1, by omega, by go_num, HN.out⟩
      case measure => omega
    · have hke : k = N := by omega
      subst hke
      have C := sortStable_79 (cap := k) HK.out HO.out (hs.congr fun i hi => by rw [if_pos hi]) h16
      have hsb := hs.lt
      clear hs HK
      go_wp2_with fail
      refine C.mono ?_
      clear C
      rintro e w5 ⟨rfl, g, hs5, hb5⟩
      have HF : Hid (InOrd c k w (.returned (.slice (some ⟨b, 0, none⟩) k k)) w5) := by
        have hh := HB.out
        refine ⟨⟨b, g, rfl, by omega, hs5.lt, fun i hi => (hs5.row i hi).1, hb5⟩, hh.1.trans (hs5.bel.mono (by omega))⟩
      clear hs5 hb5
      go_wp2
      go_ret
      exact HF.out
set_option maxHeartbeats 4000000 in
theorem clo79_31 {N M ci bi bp bq i k : Nat} {sa : Nat → Option Addr} {sc : Nat → Nat} {r : Int} {W : World} (hrow : ∀ i, i < N → W.cell? ⟨bi, i, none⟩ = some (.slice (sa i) M (sc i))) (hbi : bi < W.heap.size) (c0 : W.cell? ⟨bp, 0, none⟩ = some (.func (.func 31) #[] #[])) (c1 : W.cell? ⟨bq, 0, none⟩ = some (.slice (some ⟨bi, 0, none⟩) N ci)) (hbp : bp < W.heap.size) (hbq : bq < W.heap.size) (hi : i < N) (hk : k < N)
    (K : ∀ W', Below W.heap.size W W' → Calls Try.prog 31 #[.slice (sa i) M (sc i), .slice (sa k) M (sc k)] W' fun e w' => e = .returned (.int .i64 r) ∧ Below W'.heap.size W' w') :
    Calls Try.prog 79 #[.int .i64 (i : Int), .int .i64 (k : Int), .pointer (some ⟨bp, 0, none⟩), .pointer (some ⟨bq, 0, none⟩)] W fun e w' => e = .returned (.int .i64 r) ∧ Below W.heap.size W w' := by
  have g0 := hrow i hi
  have k0 := hrow k hk
  have HC : Hid (∀ W', Below W.heap.size W W' → Calls Try.prog 31 #[.slice (sa i) M (sc i), .slice (sa k) M (sc k)] W' fun e w' => e = .returned (.int .i64 r) ∧ Below W.heap.size W w') := fun W' hW => by
    refine (K W' hW).mono ?_
    rintro e w' ⟨rfl, hb'⟩
    exact ⟨rfl, hW.trans (hb'.mono hW.size)⟩
  generalize sa i = x0 at *
  generalize sa k = y0 at *
  generalize sc i = x1 at *
  generalize sc k = y1 at *
  have KS : Hid (∀ W', Below W.heap.size W W' → (Below W.heap.size W W' ∧ W'.cell? ⟨bp, 0, none⟩ = some (.func (.func 31) #[] #[]) ∧ W'.cell? ⟨bq, 0, none⟩ = some (.slice (some ⟨bi, 0, none⟩) N ci) ∧ W'.cell? ⟨bi, i, none⟩ = some (.slice x0 M x1) ∧ W'.cell? ⟨bi, k, none⟩ = some (.slice y0 M y1))) := fun W' h => ⟨h, (h.cell (p := ⟨bp, 0, none⟩) hbp).trans c0, (h.cell (p := ⟨bq, 0, none⟩) hbq).trans c1, (h.cell (p := ⟨bi, i, none⟩) hbi).trans g0, (h.cell (p := ⟨bi, k, none⟩) hbi).trans k0⟩
  have HD0 : Hid (Below W.heap.size W W.drew) := (Below.refl _ _).drew
  have hiz : (i : Int) < (N : Int) := by omega
  have hkz : (k : Int) < (N : Int) := by omega
  clear hrow K c0 c1 g0 k0
  go_enter Try.func79, Try.ntmps79
  go_upto_region 1 with fail
  go_region_held3 (fun W' => Below W.heap.size W W' ∧ W'.cell? ⟨bp, 0, none⟩ = some (.func (.func 31) #[] #[]) ∧ W'.cell? ⟨bq, 0, none⟩ = some (.slice (some ⟨bi, 0, none⟩) N ci) ∧ W'.cell? ⟨bi, i, none⟩ = some (.slice x0 M x1) ∧ W'.cell? ⟨bi, k, none⟩ = some (.slice y0 M y1))
    (first | with_reducible exact KS.out _ HD0.out | with_reducible exact KS.out _ (by with_reducible assumption))
    (first | (go_at_call 31; refine (HC.out _ HD0.out).mono ?_; rintro e w5 ⟨rfl, hb5⟩))
  all_goals
    go_wp2
    go_ret
    exact ⟨rfl, hb5⟩
set_option maxHeartbeats 4000000 in
theorem sorted52_31 {N M ci bi : Nat} {sa : Nat → Option Addr} {sc : Nat → Nat} {c : Int → Int → Int} {w : World} (hrow : ∀ i, i < N → w.cell? ⟨bi, i, none⟩ = some (.slice (sa i) M (sc i))) (hbi : bi < w.heap.size) (h16 : N ≤ 16384) (O : OrdN N c)
    (K : ∀ W, Below w.heap.size w W → ∀ i k, i < N → k < N → Calls Try.prog 31 #[.slice (sa i) M (sc i), .slice (sa k) M (sc k)] W fun e w' => e = .returned (.int .i64 (c (i : Int) (k : Int))) ∧ Below W.heap.size W w') :
    Calls Try.prog 52 #[.slice (some ⟨bi, 0, none⟩) N ci, .func (.func 31) #[] #[]] w fun e w' => InOrd c N w e w' := by
  obtain ⟨W1, e1⟩ : ∃ W1, (w.alloc (.cells #[.slice (some ⟨bi, 0, none⟩) N ci] 73)).alloc (.cells #[.func (.func 31) #[] #[]] 53) = W1 := ⟨_, rfl⟩
  have B1 : Below w.heap.size w W1 := by rw [← e1]; exact two_allocs _ _ _
  have z1 : W1.heap.size = w.heap.size + 2 := by rw [← e1]; simp
  have q0 : W1.cell? ⟨w.heap.size, 0, none⟩ = some (.slice (some ⟨bi, 0, none⟩) N ci) := by rw [← e1]; exact cell_new1 w _ 73 (0, 0) _ 0 _ rfl
  have q1 : W1.cell? ⟨w.heap.size + 1, 0, none⟩ = some (.func (.func 31) #[] #[]) := by rw [← e1]; exact cell_new2 w _ 53 (0, 0) _ 0 _ rfl
  obtain ⟨b, hb⟩ : ∃ b, W1.heap.size = b := ⟨_, rfl⟩
  have mk := run_make_row' (P := Try.prog) 22 3 (.int .i64 0) 8 Try.underlying22 int3 rfl .i64 .i64 N (by omega) (by omega)
  obtain ⟨W2, e2⟩ : ∃ W2, W1.alloc (.cells (madeCells #[.int .i64 0] N) 3) = W2 := ⟨_, rfl⟩
  have rm : W2.rowIs b 3 N (fun _ => .int .i64 0) := by rw [← e2, ← hb]; exact World.rowIs_made W1 (.int .i64 0) N 3
  have B2 : Below b W1 W2 := by rw [← e2, ← hb]; exact one_alloc _ _
  have S0 : St W1 b N (fun i => if i < 0 then (i : Int) else 0) W2 := ⟨B2, by rw [← e2]; simp [hb], fun i hi => ⟨by have := rm.cell (i := i) hi; simpa using this, rm.frozen i⟩⟩
  have HS0 := hide S0
  have HK : Hid (CmpOk W1 b N 79 (.pointer (some ⟨w.heap.size + 1, 0, none⟩)) (.pointer (some ⟨w.heap.size, 0, none⟩)) c) := fun W hW x y hx0 hx1 hy0 hy1 => by
    obtain ⟨i, rfl⟩ : ∃ i : Nat, x = (i : Int) := ⟨x.toNat, by omega⟩
    obtain ⟨k, rfl⟩ : ∃ k : Nat, y = (k : Int) := ⟨y.toNat, by omega⟩
    have hBW : Below W1.heap.size W1 W := by rw [hb]; exact hW
    have hs := hBW.size
    exact clo79_31 (bp := w.heap.size + 1) (bq := w.heap.size) (ci := ci) (sa := sa) (sc := sc) (fun i hi => ((B1.trans (hBW.mono B1.size)).cell (p := ⟨bi, i, none⟩) hbi).trans (hrow i hi)) (by omega) ((hBW.cell (p := ⟨w.heap.size + 1, 0, none⟩) (by show w.heap.size + 1 < _; omega)).trans q1) ((hBW.cell (p := ⟨w.heap.size, 0, none⟩) (by show w.heap.size < _; omega)).trans q0) (by omega) (by omega) (show i < N by omega) (show k < N by omega) (fun W' h' => K W' ((B1.trans (hBW.mono B1.size)).trans (h'.mono (by omega))) i k (by omega) (by omega))
  have HB := hide (And.intro B1 (And.intro z1 hb))
  have HE1 := hide e1
  have HE2 := hide e2
  have HO := hide O
  clear hrow K O B1 rm B2 S0 e2
  go_enter Try.func52, Try.ntmps52
  go_wp2
  rw [HE2.out, show w.heap.size + 2 = b by omega]
  clear z1 hb e1 mk
  go_loopg [6, 12] N (fun M _i j wr => ∃ k : Nat, M + k = N ∧ j = .int .i64 (k : Int) ∧ St W1 b N (fun i => if i < k then (i : Int) else 0) wr)
  case atStart => exact ⟨0, rfl, rfl, HS0.out⟩
  case round =>
    clear HS0
    obtain ⟨k, hM, rfl, hs⟩ := hrel
    by_cases hlt : k < N
    · have hltz : (k : Int) < (N : Int) := by omega
      obtain ⟨c0, f0⟩ := hs.row k hlt
      have HN : Hid (St W1 b N (fun i => if i < k + 1 then (i : Int) else 0) (wr.setCell ⟨b, k, none⟩ (.int .i64 (k : Int)))) := by
        refine (hs.set hlt (k : Int)).congr fun i hi => ?_
        unfold upd
        by_cases e : i = k
        · rw [if_pos e, if_pos (by omega), e]
        · rw [if_neg e]
          show (if i < k then (i : Int) else 0) = _
          by_cases e2 : i < k
          · rw [if_pos e2, if_pos (by omega)]
          · rw [if_neg e2, if_neg (by omega)]
      replace c0 : ∃ z, wr.cell? ⟨b, k, none⟩ = some (.int .i64 z) := ⟨_, c0⟩
      obtain ⟨z, c0⟩ := c0
      clear hs
      go_wp2
      go_roundg (N - (k + 1))
      case rel => exact ⟨k + 1, by omega, by go_num, HN.out⟩
      case measure => omega
    · have hke : k = N := by omega
      subst hke
      have C := sortStable_79 (cap := k) HK.out HO.out (hs.congr fun i hi => by rw [if_pos hi]) h16
      have hsb := hs.lt
      clear hs HK
      go_wp2_with fail
      refine C.mono ?_
      clear C
      rintro e w5 ⟨rfl, g, hs5, hb5⟩
      have HF : Hid (InOrd c k w (.returned (.slice (some ⟨b, 0, none⟩) k k)) w5) := by
        have hh := HB.out
        refine ⟨⟨b, g, rfl, by omega, hs5.lt, fun i hi => (hs5.row i hi).1, hb5⟩, hh.1.trans (hs5.bel.mono (by omega))⟩
      clear hs5 hb5
      go_wp2
      go_ret
      exact HF.out
end Go.Proofs.Ytimkcpbgnoekcaa
