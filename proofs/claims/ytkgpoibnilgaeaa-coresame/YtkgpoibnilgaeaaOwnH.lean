/-
  The contracts of layer 3's Cmp and Cell; for all arrays and cells.
-/
import Derived.Test.YtkgpoibnilgaeaaOwnD
import Derived.Test.YtkgpoibnilgaeaaOwnG
import Derived.Test.YtkgpoibnilgaeaaRows
import Derived.WalkKit
import Derived.ProofKit
import Derived.Below
import Derived.Deep.OwnRows
import Derived.Deep.QuietTactic
import Derived.BigQuiet
import Derived.Deep.RegionWith
namespace Go.Proofs.Ytkgpoibnilgaeaa
open Go.ChangeShapes Go.WideShapes Go.ChangeAt Go.RowKit
set_option linter.unusedVariables false
set_option maxHeartbeats 1000000 in
theorem axis_any {lo lo' : Nat} (l m : List Int) (i : Nat) (hi : i < l.length) (hi' : i < m.length) (A B : Nat) (a1 a2 : Option Addr) (n1 n2 c1 c2 : Nat) (w : World) (e1 : l.length = n1) (e2 : m.length = n2)
    (hA : w.cell? ⟨A, 0, none⟩ = some (.slice a1 n1 c1)) (hB : w.cell? ⟨B, 0, none⟩ = some (.slice a2 n2 c2)) (R : Row lo w a1 l) (R' : Row lo' w a2 m) :
    Calls Try.prog 57 #[.int .i64 (i : Int), .pointer (some ⟨A, 0, none⟩), .pointer (some ⟨B, 0, none⟩)] w fun e w' => e = .returned (.int .i64 (cmp3 (l[i]?.getD 0) (m[i]?.getD 0))) ∧ Below w.heap.size w w' := by
  obtain ⟨b, off, ha, hb, hck⟩ := row_at R hi
  obtain ⟨b', off', ha', hb', hck'⟩ := row_at R' hi'
  subst ha
  subst ha'
  have hl := R.1
  have hl' := R'.1
  rw [e1] at hi hl
  rw [e2] at hi' hl'
  generalize l[i]?.getD 0 = s at hck
  generalize m[i]?.getD 0 = t at hck'
  clear R R' e1 e2
  go_enter Try.func57, Try.ntmps57
  go_wp2
  go_quiet ((go_at_call 56; exact Calls.quiet_of_same (compare_any _ _ _)))
  go_wp2
  go_ret
  exact ⟨rfl, drewN_below (Below.refl _ _) _⟩
set_option maxHeartbeats 1000000 in
theorem cellf_any (b off b' off' i n1 n2 c1 c2 A B : Nat) (v0 v1 v2 u0 u1 u2 : Value) (r : Int) (w : World) (hi : i < n1) (hi' : i < n2) (hn1 : n1 ≤ 5864062014805) (hn2 : n2 ≤ 5864062014805)
    (hA : w.cell? ⟨A, 1, none⟩ = some (.slice (some ⟨b, off, none⟩) n1 c1)) (hB : w.cell? ⟨B, 1, none⟩ = some (.slice (some ⟨b', off', none⟩) n2 c2))
    (p0 : w.cell? ⟨b, off + i * 3, none⟩ = some v0) (p1 : w.cell? ⟨b, off + i * 3 + 1, none⟩ = some v1) (p2 : w.cell? ⟨b, off + i * 3 + 2, none⟩ = some v2)
    (q0 : w.cell? ⟨b', off' + i * 3, none⟩ = some u0) (q1 : w.cell? ⟨b', off' + i * 3 + 1, none⟩ = some u1) (q2 : w.cell? ⟨b', off' + i * 3 + 2, none⟩ = some u2)
    (hc : ∀ m, Calls Try.prog 60 #[.agg #[v0, v1, v2], .agg #[u0, u1, u2]] (w.drewN m) fun e w' => e = .returned (.int .i64 r) ∧ Below w.heap.size w w') :
    Calls Try.prog 59 #[.int .i64 (i : Int), .pointer (some ⟨A, 0, none⟩), .pointer (some ⟨B, 0, none⟩)] w fun e w' => e = .returned (.int .i64 r) ∧ Below w.heap.size w w' := by
  have HC : Hid _ := hc
  clear hc
  go_enter Try.func59, Try.ntmps59
  go_wp2
  go_region_with (go_at_call 60; refine (HC.out 1).mono ?_; rintro e w1 ⟨rfl, hb1⟩)
  all_goals go_wp2
  all_goals go_ret
  all_goals exact ⟨rfl, hb1⟩
end Go.Proofs.Ytkgpoibnilgaeaa
