/-
  The contracts of the document's Check and of layer 3's; for all arrays.
-/
import Derived.Test.YtkgpoibnilgaeaaOwnN
import Derived.Test.YtkgpoibnilgaeaaRows
import Derived.WalkKit
import Derived.ProofKit
import Derived.Below
import Derived.Deep.OwnRows
import Derived.Deep.QuietTactic
import Derived.BigQuiet
import Derived.Deep.RegionWith
namespace Go.Proofs.Ytkgpoibnilgaeaa
open Go.ChangeShapes Go.WideShapes Go.ChangeAt Go.RowKit
set_option linter.unusedVariables false
set_option maxHeartbeats 2000000 in
theorem rcheckB_any (n B : Nat) (f : Ar → Int) (IH : InnerC 55 n B f) (x : Ar) (lo : Nat) (va : Value) (w : World) (hx : ArIn (n + 1) lo w x va) :
    Calls Try.prog 55 #[va, .int .i64 (B : Int)] w fun e w' => e = .returned (.int .i64 (chkB f x)) ∧ Below w.heap.size w w' := by
  obtain ⟨a1, c1, a2, c2, rfl, R, hl, hc⟩ := hx
  have K1 : Hid (¬ sizeE x.shape = 0 → chkB f x = sizeE x.shape) := fun h => by unfold chkB; rw [if_pos h]
  have K2 : Hid (sizeE x.shape = 0 → ¬ sizeV x.shape = x.cells.length → chkB f x = 1) := fun h h' => by unfold chkB; rw [if_neg (fun k => k h), if_pos h']
  have K3 : Hid (sizeE x.shape = 0 → sizeV x.shape = x.cells.length → hasLong x.shape → chkB f x = 12) := fun h h' h'' => by unfold chkB; rw [if_neg (fun k => k h), if_neg (fun k => k h'), if_pos h'']
  have K4 : Hid (sizeE x.shape = 0 → sizeV x.shape = x.cells.length → ¬ hasLong x.shape → chkB f x = firstUp (chkF f x) x.cells.length) := fun h h' h'' => by unfold chkB; rw [if_neg (fun k => k h), if_neg (fun k => k h'), if_neg h'']
  generalize chkB f x = r at K1 K2 K3 K4
  have b0 := one_alloc w (.cells #[.slice a1 x.shape.length c1, .slice a2 x.cells.length c2] 25)
  have C1 := rsize_any x.shape a1 c1 _ (R.next b0)
  have hlR := R.1
  have HB0 : Hid (Below w.heap.size w (w.alloc (.cells #[.slice a1 x.shape.length c1, .slice a2 x.cells.length c2] 25))) := b0
  have HS : Hid (∀ i, i < x.shape.length → ∃ b off s, a1 = some ⟨b, off, none⟩ ∧ (16384 < s → hasLong x.shape) ∧ (x.shape[i]?.getD 0 = s) ∧ (w.alloc (.cells #[.slice a1 x.shape.length c1, .slice a2 x.cells.length c2] 25)).cell? ⟨b, off + i, none⟩ = some (.int .i64 s)) := by
    intro i hi
    obtain ⟨b, off, ha, hb, hck⟩ := row_at (R.next b0) hi
    exact ⟨b, off, _, ha, fun h => ⟨_, getD_mem hi, h⟩, rfl, hck⟩
  have D3 : Hid ((∀ i, i < x.shape.length → ¬ 16384 < x.shape[i]?.getD 0) → ¬ hasLong x.shape) := by
    rintro h ⟨z, hz, hz'⟩
    obtain ⟨k, hk, e⟩ := mem_getD hz
    exact h k hk (by omega)
  have HC : Hid (∀ i, i < x.cells.length → ∃ b off z0 z1 ab nb cb, a2 = some ⟨b, off, none⟩ ∧ ∀ wr, Below w.heap.size w wr → (wr.cell? ⟨b, off + i * 3, none⟩ = some (.int .i64 z0) ∧ wr.cell? ⟨b, off + i * 3 + 1, none⟩ = some (.int .i64 z1) ∧ wr.cell? ⟨b, off + i * 3 + 2, none⟩ = some (.slice ab nb cb)) ∧ Calls Try.prog 78 #[.agg #[.int .i64 z0, .int .i64 z1, .slice ab nb cb], .int .i64 (B : Int)] wr fun e w' => e = .returned (.int .i64 (chkF f x i)) ∧ Below wr.heap.size wr w') := by
    intro i hi
    obtain ⟨b, off, z0, z1, ab, nb, cb, ha, h⟩ := cells_at hc i hi
    refine ⟨b, off, z0, z1, ab, nb, cb, ha, fun wr hw => ?_⟩
    obtain ⟨e0, e1, e2, e3⟩ := h wr hw
    exact ⟨⟨e0, e1, e2⟩, rcheckCell_any n B f IH _ lo wr _ _ _ e3⟩
  clear R hc b0 IH
  by_cases h1 : sizeE x.shape = 0
  · rw [h1] at C1
    by_cases h2 : sizeV x.shape = x.cells.length
    · rw [h2] at C1
      have K3' : Hid (hasLong x.shape → r = 12) := K3.out h1 h2
      have K4' : Hid (¬ hasLong x.shape → r = firstUp (chkF f x) x.cells.length) := K4.out h1 h2
      clear K1 K2 K3 K4 h1 h2
      have H0 : Hid (firstUp (chkF f x) 0 = 0) := rfl
      generalize chkF f x = F at *
      generalize x.shape = SS at *
      generalize x.cells.length = CA at *
      have W1 := one_alloc w (.cells #[.slice a1 SS.length c1, .slice a2 CA c2] 25)
      go_enter Try.func55, Try.ntmps55
      go_wp2_with fail
      refine C1.mono ?_
      rintro e w1 ⟨rfl, hw⟩
      rw [hw]
      clear hw C1 W1
      go_wp2
      go_loop [7] (fun i => ∃ j : Nat, j ≤ SS.length ∧ i = .int .i64 (j : Int) ∧ ∀ i, i < j → ¬ 16384 < SS[i]?.getD 0) (fun i => SS.length - (intOf i).toNat)
      case atStart => exact ⟨0, Nat.zero_le _, rfl, by simp⟩
      case round =>
        obtain ⟨j, hj, rfl, hall⟩ := hrel
        have HALL := hide hall
        clear hall
        by_cases hlt : j < SS.length
        · obtain ⟨b, off, s, rfl, hL, hs, hck⟩ := HS.out j hlt
          have HSS := hide hs
          have HL := hide hL
          clear HS HC hs hL
          by_cases hlong : 16384 < s
          · have hr : Hid (r = 12) := K3'.out (HL.out hlong)
            go_wp2
            go_ret
            exact ⟨retI hr.out.symm, HB0.out⟩
          · have HN := hide hlong
            go_wp2
            go_round
            case rel =>
              refine ⟨j + 1, by omega, by go_num, ?_⟩
              intro i hi
              rcases Nat.lt_succ_iff_lt_or_eq.1 hi with h | rfl
              · exact HALL.out i h
              · rw [HSS.out]; exact HN.out
            case measure => simp [intOf]; omega
        · have hje : j = SS.length := by omega
          subst hje
          have HR := hide (K4'.out (D3.out (fun i hi => by have := HALL.out i hi; omega)))
          clear HS HALL D3 K3' K4'
          go_wp2
          go_loopw [8] (fun i wr => ∃ j : Nat, j ≤ CA ∧ i = .int .i64 (j : Int) ∧ firstUp F j = 0 ∧ wr.cell? ⟨w.heap.size, 1, none⟩ = some (.slice a2 CA c2) ∧ w.heap.size + 1 ≤ wr.heap.size ∧ Below w.heap.size w wr) (fun i _ => CA - (intOf i).toNat)
          case atStart => exact ⟨0, Nat.zero_le _, rfl, H0.out, cell_new0 w _ 25 1 _ rfl, by simp, HB0.out⟩
          case round =>
            clear HB0
            obtain ⟨j, hj, rfl, hz, hcl, hsz, hnx⟩ := hrel
            have HZ := hide hz
            have HSZ := hide hsz
            clear hz hsz
            by_cases hlt : j < CA
            · obtain ⟨b, off, z0, z1, ab, nb, cb, rfl, hcs⟩ := HC.out j hlt
              obtain ⟨⟨k0, k1, k2⟩, C⟩ := hcs wr hnx
              have HT : Hid (F j ≠ 0 → r = F j) := fun h => by rw [HR.out]; exact firstUp_hit HZ.out h CA hlt
              have HS : Hid (firstUp F (j + 1) = F j) := firstUp_step HZ.out
              clear hcs HC
              obtain ⟨z, ez⟩ : ∃ z, F j = z := ⟨_, rfl⟩
              rw [ez] at C HT HS
              clear ez
              by_cases hz0 : z = 0
              · subst hz0
                go_wp2_with fail
                refine C.mono ?_
                rintro e w1 ⟨rfl, hb1⟩
                go_wp2
                go_roundw
                case rel => exact ⟨j + 1, by omega, by go_num, HS.out, (hb1.cell (p := ⟨w.heap.size, 1, none⟩) (by have := HSZ.out; show w.heap.size < _; omega)).trans hcl, Nat.le_trans HSZ.out hb1.size, hnx.trans (hb1.mono hnx.size)⟩
                case measure => simp [intOf]; omega
              · have HN := hide hz0
                go_wp2_with fail
                refine C.mono ?_
                rintro e w1 ⟨rfl, hb1⟩
                go_wp2
                go_ret
                exact ⟨retI (HT.out HN.out).symm, hnx.trans (hb1.mono hnx.size)⟩
            · have hje : j = CA := by omega
              subst hje
              have hr : Hid (r = 0) := by show r = 0; rw [HR.out]; exact HZ.out
              clear HC HR HZ
              go_wp2
              go_ret
              exact ⟨retI hr.out.symm, hnx⟩
    · have hr : Hid (r = 1) := K2.out h1 h2
      clear K1 K2 K3 K4 HC h1 HS D3
      generalize sizeV x.shape = S at C1 h2
      generalize x.shape.length = SA at *
      generalize x.cells.length = CA at *
      go_enter Try.func55, Try.ntmps55
      go_wp2_with fail
      refine C1.mono ?_
      rintro e w1 ⟨rfl, hw⟩
      rw [hw]
      clear hw
      go_wp2
      go_ret
      exact ⟨retI hr.out.symm, HB0.out⟩
  · have hr := hide (K1.out h1)
    clear K1 K2 K3 K4 HC HS D3
    generalize sizeV x.shape = S at C1
    generalize sizeE x.shape = E at C1 h1 hr
    generalize x.shape.length = SA at *
    generalize x.cells.length = CA at *
    go_enter Try.func55, Try.ntmps55
    go_wp2_with fail
    refine C1.mono ?_
    rintro e w1 ⟨rfl, hw⟩
    rw [hw]
    clear hw
    go_wp2
    go_ret
    exact ⟨retI hr.out.symm, HB0.out⟩
theorem within_any (r : Nat) : ∀ (hr : r ≤ 8) (n : Nat) (x : Ar) (lo : Nat) (va : Value) (w : World), ArIn n lo w x va → Calls Try.prog 54 #[va, .int .i64 ((8 - r : Nat) : Int)] w fun e w' => e = .returned (.int .i64 (chkA r x)) ∧ Below w.heap.size w w' := by
  induction r with
  | zero =>
    intro hr n x lo va w hx
    cases n with
    | zero => exact hx.elim
    | succ n => exact checkB_any n 8 (fun _ => 15) ⟨by omega, fun _ => rfl, fun h => absurd h (by omega)⟩ x lo va w hx
  | succ r ih =>
    intro hr n x lo va w hx
    cases n with
    | zero => exact hx.elim
    | succ n =>
      refine checkB_any n (8 - (r + 1)) (chkA r) ⟨by omega, fun h => absurd h (by omega), fun _ => ?_⟩ x lo va w hx
      intro y lo vb w hy
      have := ih (by omega) n y lo vb w hy
      have e : ((8 - r : Nat) : Int) = ((8 - (r + 1) : Nat) : Int) + 1 := by omega
      rw [e] at this
      exact this
theorem rwithin_any (r : Nat) : ∀ (hr : r ≤ 8) (n : Nat) (x : Ar) (lo : Nat) (va : Value) (w : World), ArIn n lo w x va → Calls Try.prog 55 #[va, .int .i64 ((8 - r : Nat) : Int)] w fun e w' => e = .returned (.int .i64 (chkA r x)) ∧ Below w.heap.size w w' := by
  induction r with
  | zero =>
    intro hr n x lo va w hx
    cases n with
    | zero => exact hx.elim
    | succ n => exact rcheckB_any n 8 (fun _ => 15) ⟨by omega, fun _ => rfl, fun h => absurd h (by omega)⟩ x lo va w hx
  | succ r ih =>
    intro hr n x lo va w hx
    cases n with
    | zero => exact hx.elim
    | succ n =>
      refine rcheckB_any n (8 - (r + 1)) (chkA r) ⟨by omega, fun h => absurd h (by omega), fun _ => ?_⟩ x lo va w hx
      intro y lo vb w hy
      have := ih (by omega) n y lo vb w hy
      have e : ((8 - r : Nat) : Int) = ((8 - (r + 1) : Nat) : Int) + 1 := by omega
      rw [e] at this
      exact this
theorem check_any (n : Nat) (x : Ar) (lo : Nat) (va : Value) (w : World) (hx : ArIn n lo w x va) : Calls Try.prog 41 #[va] w fun e w' => e = .returned (.int .i64 (chkA 8 x)) ∧ Below w.heap.size w w' := by
  have C := fun w' hb => within_any 8 (Nat.le_refl _) n x lo va w' (hx.next hb)
  cases n with
  | zero => exact hx.elim
  | succ n =>
    obtain ⟨a1, c1, a2, c2, rfl, -⟩ := hx
    generalize chkA 8 x = r at C
    generalize x.shape.length = SA at *
    generalize x.cells.length = CA at *
    have C1 := C _ (one_alloc w (.cells #[.slice a1 SA c1, .slice a2 CA c2] 25))
    clear C
    go_enter Try.func41, Try.ntmps41
    go_wp2_with fail
    refine C1.mono ?_
    rintro e w1 ⟨rfl, hb1⟩
    go_wp2
    go_ret
    exact ⟨rfl, (one_alloc _ _).trans (hb1.mono (one_alloc _ _).size)⟩
theorem rcheck_any (n : Nat) (x : Ar) (lo : Nat) (va : Value) (w : World) (hx : ArIn n lo w x va) : Calls Try.prog 42 #[va] w fun e w' => e = .returned (.int .i64 (chkA 8 x)) ∧ Below w.heap.size w w' := by
  have C := fun w' hb => rwithin_any 8 (Nat.le_refl _) n x lo va w' (hx.next hb)
  cases n with
  | zero => exact hx.elim
  | succ n =>
    obtain ⟨a1, c1, a2, c2, rfl, -⟩ := hx
    generalize chkA 8 x = r at C
    generalize x.shape.length = SA at *
    generalize x.cells.length = CA at *
    have C1 := C _ (one_alloc w (.cells #[.slice a1 SA c1, .slice a2 CA c2] 25))
    clear C
    go_enter Try.func42, Try.ntmps42
    go_wp2_with fail
    refine C1.mono ?_
    rintro e w1 ⟨rfl, hb1⟩
    go_wp2
    go_ret
    exact ⟨rfl, (one_alloc _ _).trans (hb1.mono (one_alloc _ _).size)⟩
end Go.Proofs.Ytkgpoibnilgaeaa
