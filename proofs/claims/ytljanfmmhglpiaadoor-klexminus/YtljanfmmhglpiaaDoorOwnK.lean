/-
  The contract of the document's Cell; for all cells.
-/
import Derived.Test.YtljanfmmhglpiaaDoorOwnG
import Derived.Test.YtljanfmmhglpiaaDoorOwnI
import Derived.Test.YtljanfmmhglpiaaDoorRows
import Derived.WalkKit
import Derived.ProofKit
import Derived.Below
import Derived.Deep.OwnRows
import Derived.Deep.QuietTactic
import Derived.BigQuiet
import Derived.Deep.RegionWith
namespace Go.Proofs.YtljanfmmhglpiaaDoor
open Go.ChangeShapes Go.WideShapes Go.ChangeAt Go.RowKit
set_option maxRecDepth 100000
set_option linter.unusedVariables false
set_option maxHeartbeats 1000000 in
theorem rcell_any (n : Nat) (IH : CmpC 21 n) (c d : Ce) (lo lo' : Nat) (w : World) (v0 v1 v2 u0 u1 u2 : Value) (hc : CeIn (ArIn n lo w) lo w c v0 v1 v2) (hd : CeIn (ArIn n lo' w) lo' w d u0 u1 u2) :
    Calls Tryd.prog 29 #[.agg #[v0, v1, v2], .agg #[u0, u1, u2]] w fun e w' => e = .returned (.int .i64 (cmpC (cmpA n) c d)) ∧ Below w.heap.size w w' := by
  obtain ⟨rfl, rfl, a, cap, rfl, hl, hx⟩ := hc
  obtain ⟨rfl, rfl, a', cap', rfl, hl', hx'⟩ := hd
  obtain ⟨k, N, box⟩ := c
  obtain ⟨k', N', box'⟩ := d
  simp only at hl hl' hx hx' ⊢
  have K1 : Hid (cmp3 k k' ≠ 0 → cmpC (cmpA n) (k, N, box) (k', N', box') = cmp3 k k') := fun h => by simp [cmpC, h]
  have K2 : Hid (¬ cmp3 k k' ≠ 0 → cmp3 N N' ≠ 0 → cmpC (cmpA n) (k, N, box) (k', N', box') = cmp3 N N') := fun h h' => by simp [cmpC, h, h']
  have K3 : Hid (¬ cmp3 k k' ≠ 0 → ¬ cmp3 N N' ≠ 0 → 0 < box.length ∧ 0 < box'.length → cmpC (cmpA n) (k, N, box) (k', N', box') = cmpA n (bAt box 0) (bAt box' 0)) := fun h h' h'' => by
    unfold cmpC; rw [if_neg h, if_neg h', if_pos h'']
  have K4 : Hid (¬ cmp3 k k' ≠ 0 → ¬ cmp3 N N' ≠ 0 → ¬ (0 < box.length ∧ 0 < box'.length) → cmpC (cmpA n) (k, N, box) (k', N', box') = cmp3 box.length box'.length) := fun h h' h'' => by
    unfold cmpC; rw [if_neg h, if_neg h', if_neg h'']
  generalize cmpC (cmpA n) (k, N, box) (k', N', box') = r at K1 K2 K3 K4
  by_cases h1 : cmp3 k k' ≠ 0
  · have hr : Hid (r = cmp3 k k') := K1.out h1
    clear K1 K2 K3 K4 hx hx'
    generalize box.length = B1
    generalize box'.length = B2
    go_enter Tryd.func29, Tryd.ntmps29
    go_wp2_with fail
    refine (ref_ints _ _ _).mono ?_
    rintro e w1 ⟨rfl, hw⟩
    rw [hw]
    clear hw
    go_wp2
    go_ret
    exact ⟨retI hr.out.symm, two_allocs _ _ _⟩
  · have H1 : Hid (¬ cmp3 k k' ≠ 0) := h1
    have z1 : cmp3 k k' = 0 := by simpa using h1
    clear h1 K1
    by_cases h2 : cmp3 N N' ≠ 0
    · have hr : Hid (r = cmp3 N N') := K2.out H1.out h2
      clear K2 K3 K4 hx hx'
      generalize box.length = B1
      generalize box'.length = B2
      go_enter Tryd.func29, Tryd.ntmps29
      go_wp2_with fail
      refine (ref_ints _ _ _).mono ?_
      rintro e w1 ⟨rfl, hw⟩
      rw [hw, z1]
      clear hw
      go_wp2_with fail
      refine (ref_ints _ _ _).mono ?_
      rintro e w1 ⟨rfl, hw⟩
      rw [hw]
      clear hw
      go_wp2
      go_ret
      exact ⟨retI hr.out.symm, two_allocs _ _ _⟩
    · have H2 : Hid (¬ cmp3 N N' ≠ 0) := h2
      have z2 : cmp3 N N' = 0 := by simpa using h2
      clear h2 K2
      by_cases h3 : 0 < box.length ∧ 0 < box'.length
      · have hr : Hid (r = cmpA n (bAt box 0) (bAt box' 0)) := K3.out H1.out H2.out h3
        rcases hx with hx | ⟨b, off, rfl, hlo, hb, hx⟩
        · rw [hx] at h3; simp at h3
        rcases hx' with hx' | ⟨b', off', rfl, hlo', hb', hx'⟩
        · rw [hx'] at h3; simp at h3
        obtain ⟨s0, s1, e0, e1, e2⟩ := hx 0 h3.1
        obtain ⟨t0, t1, f0, f1, f2⟩ := hx' 0 h3.2
        simp only [Nat.zero_mul, Nat.add_zero] at e0 e1 f0 f1
        have g0 := cell_two e0 hb
        have g1 := cell_two e1 hb
        have j0 := cell_two f0 hb'
        have j1 := cell_two f1 hb'
        obtain ⟨h3a, h3b⟩ := h3
        have HX : Hid (Calls Tryd.prog 21 #[.agg #[s0, s1], .agg #[t0, t1]] ((w.alloc (.cells #[.int .i64 k, .int .i64 N, .slice (some ⟨b, off, none⟩) box.length cap] 42)).alloc (.cells #[.int .i64 k', .int .i64 N', .slice (some ⟨b', off', none⟩) box'.length cap'] 42)).drew fun e w' => e = .returned (.int .i64 r) ∧ Below w.heap.size w w') := by
          have hbel := (two_allocs w (.cells #[.int .i64 k, .int .i64 N, .slice (some ⟨b, off, none⟩) box.length cap] 42) (.cells #[.int .i64 k', .int .i64 N', .slice (some ⟨b', off', none⟩) box'.length cap'] 42)).drew
          refine (IH _ _ lo lo' _ _ _ (e2.next hbel) (f2.next hbel)).mono ?_
          rintro e w1 ⟨rfl, hb1⟩
          exact ⟨retI hr.out.symm, hbel.trans (hb1.mono hbel.size)⟩
        clear K3 K4 hx hx' IH e2 f2 e0 e1 f0 f1 hr H1 H2
        generalize box.length = B1 at h3a hl HX
        generalize box'.length = B2 at h3b hl' HX
        go_enter Tryd.func29, Tryd.ntmps29
        go_wp2_with fail
        refine (ref_ints _ _ _).mono ?_
        rintro e w1 ⟨rfl, hw⟩
        rw [hw, z1]
        clear hw
        go_wp2_with fail
        refine (ref_ints _ _ _).mono ?_
        rintro e w1 ⟨rfl, hw⟩
        rw [hw, z2]
        clear hw z1 z2
        go_wp2
        go_region_with (go_at_call 21; refine HX.out.mono ?_; rintro e w1 ⟨rfl, hb1⟩)
        all_goals go_wp2
        all_goals go_ret
        all_goals exact ⟨rfl, hb1⟩
      · have hr : Hid (r = cmp3 box.length box'.length) := K4.out H1.out H2.out h3
        clear K3 K4 hx hx' IH H1 H2
        generalize box.length = B1 at h3 hl hr
        generalize box'.length = B2 at h3 hl' hr
        by_cases h4 : 0 < B1
        · have h5 : B2 = 0 := by omega
          subst h5
          clear h3
          go_enter Tryd.func29, Tryd.ntmps29
          go_wp2_with fail
          refine (ref_ints _ _ _).mono ?_
          rintro e w1 ⟨rfl, hw⟩
          rw [hw, z1]
          clear hw
          go_wp2_with fail
          refine (ref_ints _ _ _).mono ?_
          rintro e w1 ⟨rfl, hw⟩
          rw [hw, z2]
          clear hw z1 z2
          go_wp2_with fail
          refine (ref_ints _ _ _).mono ?_
          rintro e w1 ⟨rfl, hw⟩
          rw [hw]
          clear hw
          go_wp2
          go_ret
          exact ⟨retI hr.out.symm, two_allocs _ _ _⟩
        · have h5 : B1 = 0 := by omega
          subst h5
          clear h3 h4
          go_enter Tryd.func29, Tryd.ntmps29
          go_wp2_with fail
          refine (ref_ints _ _ _).mono ?_
          rintro e w1 ⟨rfl, hw⟩
          rw [hw, z1]
          clear hw
          go_wp2_with fail
          refine (ref_ints _ _ _).mono ?_
          rintro e w1 ⟨rfl, hw⟩
          rw [hw, z2]
          clear hw z1 z2
          go_wp2_with fail
          refine (ref_ints _ _ _).mono ?_
          rintro e w1 ⟨rfl, hw⟩
          rw [hw]
          clear hw
          go_wp2
          go_ret
          exact ⟨retI hr.out.symm, two_allocs _ _ _⟩
end Go.Proofs.YtljanfmmhglpiaaDoor
