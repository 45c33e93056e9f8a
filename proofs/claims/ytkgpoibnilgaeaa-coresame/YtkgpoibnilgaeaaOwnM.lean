/-
  The contracts of what layer 3's Check and the document's rest on: whether there is a sign of a number, and whether a cell may be; for all numbers and cells.
-/
import Derived.Test.YtkgpoibnilgaeaaOwnF
import Derived.Test.YtkgpoibnilgaeaaRows
import Derived.WalkKit
import Derived.ProofKit
import Derived.Below
import Derived.Deep.OwnRows
import Derived.Deep.QuietTactic
import Derived.BigQuiet
import Derived.Deep.RegionWith
namespace Go.Proofs.Ytkgpoibnilgaeaa
open Go.ChangeShapes Go.WideShapes Go.ChangeAt Go.RowKit
set_option linter.unusedVariables false
def Good (z : Int) : Prop := (0 ≤ z ∧ z < 55296) ∨ (57343 < z ∧ z < 1114112)
instance (z : Int) : Decidable (Good z) := inferInstanceAs (Decidable (_ ∨ _))
set_option maxHeartbeats 1000000 in
theorem validRune_any (z : Int) (w : World) : Calls Try.prog 87 #[.int .i32 z] w fun e w' => e = .returned (.bool (decide (Good z))) ∧ w' = w := by
  by_cases h1 : z < 0
  · have hr : decide (Good z) = false := decide_eq_false (by unfold Good; omega)
    rw [hr]
    clear hr
    have : ¬ 0 ≤ z := by omega
    have : ¬ 57343 < z := by omega
    go_enter Try.func87, Try.ntmps87
    go_wp2
    go_ret
    exact ⟨rfl, rfl⟩
  · have h1' : 0 ≤ z := by omega
    clear h1
    by_cases h2 : z < 55296
    · have hr : decide (Good z) = true := decide_eq_true (by unfold Good; omega)
      rw [hr]
      clear hr
      go_enter Try.func87, Try.ntmps87
      go_wp2
      go_ret
      exact ⟨rfl, rfl⟩
    · by_cases h3 : 57343 < z
      · by_cases h4 : z ≤ 1114111
        · have hr : decide (Good z) = true := decide_eq_true (by unfold Good; omega)
          rw [hr]
          clear hr
          go_enter Try.func87, Try.ntmps87
          go_wp2
          go_ret
          exact ⟨rfl, rfl⟩
        · have hr : decide (Good z) = false := decide_eq_false (by unfold Good; omega)
          rw [hr]
          clear hr
          go_enter Try.func87, Try.ntmps87
          go_wp2
          go_ret
          exact ⟨rfl, rfl⟩
      · have hr : decide (Good z) = false := decide_eq_false (by unfold Good; omega)
        rw [hr]
        clear hr
        go_enter Try.func87, Try.ntmps87
        go_wp2
        go_ret
        exact ⟨rfl, rfl⟩
set_option maxHeartbeats 1000000 in
theorem isSign_any (z : Int) (w : World) : Calls Try.prog 84 #[.int .i64 z] w fun e w' => e = .returned (.bool (decide (Good z))) ∧ w' = w := by
  have C := validRune_any (wrap32 z) w
  by_cases h : -2147483648 ≤ z ∧ z ≤ 2147483647
  · have hw : wrap32 z = z := by unfold wrap32; omega
    rw [hw] at C
    clear hw
    obtain ⟨h1, h2⟩ := h
    go_enter Try.func84, Try.ntmps84
    go_wp2_with (go_at_call 87; refine C.mono ?_; rintro e w' ⟨rfl, hw⟩; rw [hw])
    go_ret
    exact ⟨rfl, rfl⟩
  · have hr : decide (Good z) = false := decide_eq_false (by unfold Good; omega)
    have hw : ¬ z = wrap32 z := by unfold wrap32; omega
    rw [hr]
    clear hr C h
    have hb1 : -2147483648 ≤ wrap32 z := by unfold wrap32; omega
    have hb2 : wrap32 z ≤ 2147483647 := by unfold wrap32; omega
    have hd : decide (z = wrap32 z) = false := decide_eq_false hw
    generalize hy : wrap32 z = y at hw hb1 hb2 hd
    go_enter Try.func84, Try.ntmps84
    go_wp2_with fail
    go_ret
    exact ⟨rfl, rfl⟩
set_option maxHeartbeats 1000000 in
theorem rgood_any (z : Int) (w : World) : Calls Try.prog 85 #[.int .i64 z] w fun e w' => e = .returned (.bool (decide (Good z))) ∧ w' = w := by
  by_cases h1 : z < 0
  · have hr : decide (Good z) = false := decide_eq_false (by unfold Good; omega)
    rw [hr]
    clear hr
    have : ¬ 0 ≤ z := by omega
    have : ¬ 57343 < z := by omega
    go_enter Try.func85, Try.ntmps85
    go_wp2
    go_ret
    exact ⟨rfl, rfl⟩
  · have h1' : 0 ≤ z := by omega
    clear h1
    by_cases h2 : z < 55296
    · have hr : decide (Good z) = true := decide_eq_true (by unfold Good; omega)
      rw [hr]
      clear hr
      go_enter Try.func85, Try.ntmps85
      go_wp2
      go_ret
      exact ⟨rfl, rfl⟩
    · by_cases h3 : 57343 < z
      · by_cases h4 : z < 1114112
        · have hr : decide (Good z) = true := decide_eq_true (by unfold Good; omega)
          rw [hr]
          clear hr
          go_enter Try.func85, Try.ntmps85
          go_wp2
          go_ret
          exact ⟨rfl, rfl⟩
        · have hr : decide (Good z) = false := decide_eq_false (by unfold Good; omega)
          rw [hr]
          clear hr
          go_enter Try.func85, Try.ntmps85
          go_wp2
          go_ret
          exact ⟨rfl, rfl⟩
      · have hr : decide (Good z) = false := decide_eq_false (by unfold Good; omega)
        rw [hr]
        clear hr
        go_enter Try.func85, Try.ntmps85
        go_wp2
        go_ret
        exact ⟨rfl, rfl⟩
/-- Whether a cell may be, given the same of the array in its box. -/
def chkC (f : Ar → Int) (c : Ce) : Int :=
  if c.1 = 2 ∧ c.2.1 = 0 ∧ c.2.2.length = 1 then f (bAt c.2.2 0) else if c.2.2.length = 0 ∧ (c.1 = 0 ∨ c.1 = 1 ∧ Good c.2.1) then 0 else 1
def chkF (f : Ar → Int) (x : Ar) (i : Nat) : Int := chkC f (cAt x.cells i)
/-- Whether an array may be, given the same of the arrays in its boxes. -/
def chkB (f : Ar → Int) (x : Ar) : Int :=
  if sizeE x.shape ≠ 0 then sizeE x.shape else if sizeV x.shape ≠ x.cells.length then 1 else if hasLong x.shape then 12 else firstUp (chkF f x) x.cells.length
/-- Whether an array may be that may bear so many boxes within one another. -/
def chkA : Nat → Ar → Int
  | 0, x => chkB (fun _ => 15) x
  | r + 1, x => chkB (chkA r) x
/-- What the look into the next box promises. -/
def InnerC (k n B : Nat) (f : Ar → Int) : Prop := B ≤ 8 ∧ (B = 8 → f = fun _ => 15) ∧ (B < 8 → ∀ y lo vb w, ArIn n lo w y vb → Calls Try.prog k #[vb, .int .i64 ((B : Int) + 1)] w fun e w' => e = .returned (.int .i64 (f y)) ∧ Below w.heap.size w w')
theorem one_alloc (w : World) (o : Obj) : Below w.heap.size w (w.alloc o) := (Below.refl _ _).alloc (Nat.le_refl _) _
theorem cell_one {w : World} {b off : Nat} {v : Value} (h : w.cell? ⟨b, off, none⟩ = some v) (hb : b < w.heap.size) (o : Obj) : (w.alloc o).cell? ⟨b, off, none⟩ = some v :=
  ((one_alloc w o).cell (p := ⟨b, off, none⟩) hb).trans h
set_option maxHeartbeats 1000000 in
theorem checkCell_any (n B : Nat) (f : Ar → Int) (IH : InnerC 54 n B f) (c : Ce) (lo : Nat) (w : World) (v0 v1 v2 : Value) (hc : CeIn (ArIn n lo w) lo w c v0 v1 v2) :
    Calls Try.prog 76 #[.agg #[v0, v1, v2], .int .i64 (B : Int)] w fun e w' => e = .returned (.int .i64 (chkC f c)) ∧ Below w.heap.size w w' := by
  obtain ⟨rfl, rfl, a, cap, rfl, hl, hx⟩ := hc
  obtain ⟨k, N, box⟩ := c
  simp only at hl hx ⊢
  obtain ⟨i1, i2, i3⟩ := IH
  have K1 : Hid (k = 2 ∧ N = 0 ∧ box.length = 1 → chkC f (k, N, box) = f (bAt box 0)) := fun h => by unfold chkC; rw [if_pos h]
  have K2 : Hid (¬ (k = 2 ∧ N = 0 ∧ box.length = 1) → box.length = 0 ∧ (k = 0 ∨ k = 1 ∧ Good N) → chkC f (k, N, box) = 0) := fun h h' => by unfold chkC; rw [if_neg h, if_pos h']
  have K3 : Hid (¬ (k = 2 ∧ N = 0 ∧ box.length = 1) → ¬ (box.length = 0 ∧ (k = 0 ∨ k = 1 ∧ Good N)) → chkC f (k, N, box) = 1) := fun h h' => by unfold chkC; rw [if_neg h, if_neg h']
  generalize chkC f (k, N, box) = r at K1 K2 K3
  by_cases h1 : k = 2 ∧ N = 0 ∧ box.length = 1
  · have hr := K1.out h1
    obtain ⟨rfl, rfl, hb1⟩ := h1
    rcases hx with hx | ⟨b, off, rfl, hlo, hb, hx⟩
    · rw [hx] at hb1; simp at hb1
    obtain ⟨s0, s1, e0, e1, e2⟩ := hx 0 (by omega)
    simp only [Nat.zero_mul, Nat.add_zero] at e0 e1
    have g0 := cell_one e0 hb
    have g1 := cell_one e1 hb
    clear K1 K2 K3 hx hlo
    by_cases h8 : B = 8
    · subst h8
      have hr' : Hid (r = 15) := by rw [hr, i2 rfl]; exact rfl
      clear hr i2 i3 e2
      rw [hb1]
      go_enter Try.func76, Try.ntmps76
      go_wp2
      go_ret
      exact ⟨retI hr'.out.symm, one_alloc _ _⟩
    · have i4 := i3 (by omega) (bAt box 0) lo _ ((w.alloc (.cells #[.int .i64 2, .int .i64 0, .slice (some ⟨b, off, none⟩) 1 cap] 60))) (e2.next (one_alloc _ _))
      rw [← hr] at i4
      have hB : (B : Int) < 8 := by omega
      have HB1 : Hid (Below w.heap.size w (w.alloc (.cells #[.int .i64 2, .int .i64 0, .slice (some ⟨b, off, none⟩) 1 cap] 60))) := one_alloc _ _
      clear i2 i3 h8 hr e2
      rw [hb1]
      clear hb1
      go_enter Try.func76, Try.ntmps76
      go_wp2_with fail
      refine i4.mono ?_
      rintro e w1 ⟨rfl, hb1⟩
      go_wp2
      go_ret
      exact ⟨rfl, HB1.out.trans (hb1.mono HB1.out.size)⟩
  · have K2' : Hid (box.length = 0 ∧ (k = 0 ∨ k = 1 ∧ Good N) → r = 0) := K2.out h1
    have K3' : Hid (¬ (box.length = 0 ∧ (k = 0 ∨ k = 1 ∧ Good N)) → r = 1) := K3.out h1
    clear K1 K2 K3 hx i2 i3
    generalize box.length = L at *
    by_cases hk2 : k = 2
    · have hr : Hid (r = 1) := K3'.out (by omega)
      subst hk2
      clear K2' K3'
      by_cases hN : N = 0
      · subst hN
        have hL : ¬ L = 1 := by omega
        clear h1
        by_cases hL0 : L = 0
        · subst hL0
          go_enter Try.func76, Try.ntmps76
          go_wp2
          go_ret
          exact ⟨retI hr.out.symm, one_alloc _ _⟩
        · have hL' : ¬ (L : Int) = 1 := by omega
          have hL0' : ¬ (L : Int) = 0 := by omega
          go_enter Try.func76, Try.ntmps76
          go_wp2
          go_ret
          exact ⟨retI hr.out.symm, one_alloc _ _⟩
      · clear h1
        by_cases hL0 : L = 0
        · subst hL0
          go_enter Try.func76, Try.ntmps76
          go_wp2
          go_ret
          exact ⟨retI hr.out.symm, one_alloc _ _⟩
        · have hL0' : ¬ (L : Int) = 0 := by omega
          go_enter Try.func76, Try.ntmps76
          go_wp2
          go_ret
          exact ⟨retI hr.out.symm, one_alloc _ _⟩
    · clear h1
      by_cases hL0 : L = 0
      · by_cases hk0 : k = 0
        · have hr : Hid (r = 0) := K2'.out ⟨hL0, Or.inl hk0⟩
          subst hL0
          subst hk0
          clear K2' K3'
          go_enter Try.func76, Try.ntmps76
          go_wp2
          go_ret
          exact ⟨retI hr.out.symm, one_alloc _ _⟩
        · by_cases hk1 : k = 1
          · by_cases hg : Good N
            · have hr : Hid (r = 0) := K2'.out ⟨hL0, Or.inr ⟨hk1, hg⟩⟩
              subst hL0
              subst hk1
              have C := fun w => isSign_any N w
              rw [decide_eq_true hg] at C
              clear K2' K3' hg
              go_enter Try.func76, Try.ntmps76
              go_wp2_with (go_at_call 84; refine (C _).mono ?_; rintro e w' ⟨rfl, hw⟩; rw [hw])
              go_ret
              exact ⟨retI hr.out.symm, one_alloc _ _⟩
            · have hr : Hid (r = 1) := K3'.out (by
                rintro ⟨_, h | h⟩
                · exact hk0 h
                · exact hg h.2)
              subst hL0
              subst hk1
              have C := fun w => isSign_any N w
              rw [decide_eq_false hg] at C
              clear K2' K3' hg
              go_enter Try.func76, Try.ntmps76
              go_wp2_with (go_at_call 84; refine (C _).mono ?_; rintro e w' ⟨rfl, hw⟩; rw [hw])
              go_ret
              exact ⟨retI hr.out.symm, one_alloc _ _⟩
          · have hr : Hid (r = 1) := K3'.out (by
              rintro ⟨_, h | h⟩
              · exact hk0 h
              · exact hk1 h.1)
            subst hL0
            clear K2' K3'
            go_enter Try.func76, Try.ntmps76
            go_wp2
            go_ret
            exact ⟨retI hr.out.symm, one_alloc _ _⟩
      · have hr : Hid (r = 1) := K3'.out (fun h => hL0 h.1)
        have hL0' : ¬ (L : Int) = 0 := by omega
        clear K2' K3'
        go_enter Try.func76, Try.ntmps76
        go_wp2
        go_ret
        exact ⟨retI hr.out.symm, one_alloc _ _⟩
end Go.Proofs.Ytkgpoibnilgaeaa
