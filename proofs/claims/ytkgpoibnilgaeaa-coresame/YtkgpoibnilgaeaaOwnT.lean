/-
  The contract of the statements' own look whether an array is not more than is waited for: what is light is thin: no more than so many boxes within one another; for all arrays.
-/
import Derived.Test.YtkgpoibnilgaeaaOwnN
import Derived.Test.YtkgpoibnilgaeaaOwnP
import Derived.Test.YtkgpoibnilgaeaaRows
import Derived.WalkKit
import Derived.ProofKit
import Derived.Below
import Derived.Deep.OwnRows
import Derived.Deep.QuietTactic
import Derived.BigQuiet
import Derived.Deep.RegionWith
import Derived.Laws.MakeOwn
import Derived.Deep.RegionHeld3
import Derived.Deep.LoopGhost
namespace Go.Proofs.Ytkgpoibnilgaeaa
open Go.ChangeShapes Go.WideShapes Go.ChangeAt Go.RowKit
set_option linter.unusedVariables false
/-- No more than d boxes within one another, whatever array of a box is gone into. -/
def Thin : Nat → Ar → Prop
  | 0, x => ∀ i, i < x.cells.length → ∀ k, k < (cAt x.cells i).2.2.length → False
  | d + 1, x => ∀ i, i < x.cells.length → ∀ k, k < (cAt x.cells i).2.2.length → Thin d (bAt (cAt x.cells i).2.2 k)
/-- The same, of one array of a box. -/
def ThinK (d : Nat) (y : Ar) : Prop := match d with
  | 0 => False
  | d + 1 => Thin d y
theorem thin_iff (d : Nat) (x : Ar) : Thin d x ↔ ∀ i, i < x.cells.length → ∀ k, k < (cAt x.cells i).2.2.length → ThinK d (bAt (cAt x.cells i).2.2 k) := by
  cases d <;> rfl
/-- The arrays of a cell's box, in whatever world is later. -/
theorem boxes_at {n lo : Nat} {w : World} {x : Ar} {a2 : Option Addr} (hc : CellsIn n lo w x.cells a2) (i : Nat) (hi : i < x.cells.length) :
    ∃ b off ab cb, a2 = some ⟨b, off, none⟩ ∧ (cAt x.cells i).2.2.length ≤ 5864062014805 ∧ (∀ wr, Below w.heap.size w wr → wr.cell? ⟨b, off + i * 3 + 2, none⟩ = some (.slice ab (cAt x.cells i).2.2.length cb)) ∧
      ∀ k, k < (cAt x.cells i).2.2.length → ∃ bb ob u0 u1, ab = some ⟨bb, ob, none⟩ ∧ ∀ wr, Below w.heap.size w wr → wr.cell? ⟨bb, ob + k * 2, none⟩ = some u0 ∧ wr.cell? ⟨bb, ob + k * 2 + 1, none⟩ = some u1 ∧ ArIn n lo wr (bAt (cAt x.cells i).2.2 k) (.agg #[u0, u1]) := by
  rcases hc with hc | ⟨b, off, ha, hlo, hb, hc⟩
  · rw [hc] at hi; simp at hi
  obtain ⟨v0, v1, v2, e0, e1, e2, rfl, rfl, ab, cb, rfl, hl, hx⟩ := hc i hi
  refine ⟨b, off, ab, cb, ha, hl, fun wr hw => (hw.cell (p := ⟨b, off + i * 3 + 2, none⟩) hb).trans e2, ?_⟩
  intro k hk
  rcases hx with hx | ⟨bb, ob, rfl, hlo', hbb, hx⟩
  · rw [hx] at hk; simp at hk
  obtain ⟨u0, u1, g0, g1, g2⟩ := hx k hk
  exact ⟨bb, ob, u0, u1, rfl, fun wr hw => ⟨(hw.cell (p := ⟨bb, ob + k * 2, none⟩) hbb).trans g0, (hw.cell (p := ⟨bb, ob + k * 2 + 1, none⟩) hbb).trans g1, g2.next hw⟩⟩
/-- What the weighing of an array no deeper than d promises. -/
def WeighC (d : Nat) : Prop := ∀ n x lo va w (M : Int), ArIn n lo w x va → 0 ≤ M → M ≤ 4000 → Calls Try.prog 34 #[va, .int .i64 M, .int .i64 (d : Int)] w fun e w' => (∃ r : Int, e = .returned (.int .i64 r) ∧ 0 ≤ r ∧ r ≤ 147000000000000 + 5000 * (d : Int) ∧ (r ≤ M → Thin d x)) ∧ Below w.heap.size w w'
set_option maxHeartbeats 4000000 in
theorem weigh_step (d : Nat) (hd : d ≤ 16) (IH : ∀ d', d = d' + 1 → WeighC d') : WeighC d := by
  intro n x lo va w M hx hM0 hM
  cases n with
  | zero => exact hx.elim
  | succ n =>
  obtain ⟨a1, c1, a2, c2, rfl, R, hl, hc⟩ := hx
  have hlR := R.1
  have HT : Hid ((∀ i, i < x.cells.length → ∀ k, k < (cAt x.cells i).2.2.length → ThinK d (bAt (cAt x.cells i).2.2 k)) → Thin d x) := (thin_iff d x).2
  have hb0 := one_alloc w (.cells #[.slice a1 x.shape.length c1, .slice a2 x.cells.length c2] 25)
  have q := cell_new0 w #[.slice a1 x.shape.length c1, .slice a2 x.cells.length c2] 25 1 _ rfl
  have HB := hide (boxes_at hc)
  /- A world later on: the memory that came in, and the array's own cells. -/
  have HQ := hide (And.intro hb0 (And.intro q (show w.heap.size < (w.alloc (.cells #[.slice a1 x.shape.length c1, .slice a2 x.cells.length c2] 25)).heap.size by simp)))
  clear R hc hb0 q
  generalize hNL : (fun i => (cAt x.cells i).2.2.length) = NL at *
  generalize hY : (fun i k => bAt (cAt x.cells i).2.2 k) = Y at *
  have HB' : Hid (∀ i, i < x.cells.length → ∃ b off ab cb, a2 = some ⟨b, off, none⟩ ∧ NL i ≤ 5864062014805 ∧ (∀ wr, Below w.heap.size w wr → wr.cell? ⟨b, off + i * 3 + 2, none⟩ = some (.slice ab (NL i) cb)) ∧
      ∀ k, k < NL i → ∃ bb ob u0 u1, ab = some ⟨bb, ob, none⟩ ∧ ∀ wr, Below w.heap.size w wr → wr.cell? ⟨bb, ob + k * 2, none⟩ = some u0 ∧ wr.cell? ⟨bb, ob + k * 2 + 1, none⟩ = some u1 ∧ ArIn n lo wr (Y i k) (.agg #[u0, u1])) := by
    subst hNL hY
    exact HB.out
  have HT' : Hid ((∀ i, i < x.cells.length → ∀ k, k < NL i → ThinK d (Y i k)) → Thin d x) := by
    subst hNL hY
    exact HT.out
  clear HB HT hNL hY
  generalize x.shape.length = SA at *
  generalize x.cells.length = CA at *
  go_enter Try.func34, Try.ntmps34
  go_wp2
  go_loopg [7, 8] CA (fun g nv i wr => ∃ (j : Nat) (N : Int), g + j = CA ∧ i = .int .i64 (j : Int) ∧ nv = .int .i64 N ∧ 0 ≤ N ∧ N ≤ 147000000000000 + 5000 * (d : Int) ∧ (N ≤ M → ∀ i, i < j → ∀ k, k < NL i → ThinK d (Y i k)) ∧ Below w.heap.size w wr ∧ wr.cell? ⟨w.heap.size, 1, none⟩ = some (.slice a2 CA c2) ∧ w.heap.size < wr.heap.size)
  case atStart => exact ⟨0, (CA : Int) + (SA : Int), rfl, rfl, by go_num, by omega, by omega, by intro _ i hi; omega, HQ.out.1, HQ.out.2.1, HQ.out.2.2⟩
  case round =>
    clear HQ
    obtain ⟨j, N, hj, rfl, rfl, hN0, hN1, hthin, hnx, hcl, hsz⟩ := hrel
    have HTH := hide hthin
    have HSZ := hide hsz
    clear hthin hsz
    by_cases hlt : j < CA
    · by_cases hNM : N ≤ M
      · have HOUT := hide (HTH.out hNM)
        clear HTH
        obtain ⟨b, off, ab, cb, rfl, hnl, hbox, hboxes⟩ := HB'.out j hlt
        have HBOX := hide hbox
        have HBXS := hide hboxes
        have HS1 : Hid (NL j = NL j) := rfl
        clear hbox hboxes HB'
        obtain ⟨L, hL⟩ : ∃ L, NL j = L := ⟨_, rfl⟩
        have HLL := hide hL
        rw [hL] at hnl HBOX HBXS
        clear hL HS1
        go_wp2
        go_loopg [7, 9] L (fun g nv kv wr => ∃ (k : Nat) (N' : Int), g + k = L ∧ kv = .int .i64 (k : Int) ∧ nv = .int .i64 N' ∧ 0 ≤ N' ∧ N' ≤ 147000000000000 + 5000 * (d : Int) ∧ (N' ≤ M → ∀ k', k' < k → ThinK d (Y j k')) ∧ Below w.heap.size w wr ∧ wr.cell? ⟨w.heap.size, 1, none⟩ = some (.slice (some ⟨b, off, none⟩) CA c2) ∧ w.heap.size < wr.heap.size)
        case atStart => exact ⟨0, N, rfl, rfl, rfl, hN0, hN1, by intro _ k' hk'; omega, hnx, hcl, HSZ.out⟩
        case round =>
          clear hnx hcl HSZ hN0 hN1 hNM
          obtain ⟨k, N', hk, rfl, rfl, hN0, hN1, hthin, hnx, hcl, hsz⟩ := hrel
          have HTH := hide hthin
          have HSZ := hide hsz
          have hbx := HBOX.out _ hnx
          clear hthin hsz
          by_cases hkl : k < L
          · by_cases hNM : N' ≤ M
            · by_cases hd0 : d = 0
              · subst hd0
                clear HBXS HBOX
                go_wp2
                go_ret
                exact ⟨⟨M + 1, by go_num, by omega, by omega, fun h => absurd h (by omega)⟩, hnx⟩
              · obtain ⟨d', rfl⟩ : ∃ d', d = d' + 1 := ⟨d - 1, by omega⟩
                obtain ⟨bb, ob, u0, u1, rfl, hcs⟩ := HBXS.out k hkl
                obtain ⟨g0, g1, g2⟩ := hcs _ hnx
                have C : Hid (∀ D : Int, D = (d' : Int) → Calls Try.prog 34 #[.agg #[u0, u1], .int .i64 (M - N'), .int .i64 D] wr fun e w' => (∃ r : Int, e = .returned (.int .i64 r) ∧ 0 ≤ r ∧ r ≤ 147000000000000 + 5000 * (d' : Int) ∧ (r ≤ M - N' → Thin d' (Y j k))) ∧ Below wr.heap.size wr w') := by
                  rintro D rfl
                  exact IH d' rfl n _ lo _ wr (M - N') g2 (by omega) (by omega)
                have hd1 : ((d' + 1 : Nat) : Int) ≠ 0 := by omega
                clear hcs g2 HBXS hd0
                go_wp2_with fail
                refine (C.out _ (by omega)).mono ?_
                rintro e w1 ⟨⟨r, rfl, hr0, hr1, hrt⟩, hb1⟩
                have HRT := hide hrt
                clear hrt C
                go_wp2
                go_roundg (L - (k + 1))
                case rel =>
                  refine ⟨k + 1, N' + 1 + r, by omega, by go_num, by go_num, by omega, by omega, ?_, hnx.trans (hb1.mono hnx.size), (hb1.cell (p := ⟨w.heap.size, 1, none⟩) HSZ.out).trans hcl, Nat.lt_of_lt_of_le HSZ.out hb1.size⟩
                  intro hle k' hk'
                  rcases Nat.lt_succ_iff_lt_or_eq.1 hk' with h | rfl
                  · exact HTH.out hNM k' h
                  · exact HRT.out (by omega)
                case measure => omega
            · clear HBXS HBOX
              go_wp2
              go_roundg (CA - (j + 1))
              case rel => exact ⟨j + 1, N', by omega, by go_num, rfl, hN0, hN1, fun h => absurd h (by omega), hnx, hcl, HSZ.out⟩
              case measure => omega
          · have hke : k = L := by omega
            subst hke
            clear HBXS HBOX
            go_wp2
            go_roundg (CA - (j + 1))
            case rel =>
              refine ⟨j + 1, N', by omega, by go_num, rfl, hN0, hN1, ?_, hnx, hcl, HSZ.out⟩
              intro hle i hi k' hk'
              rcases Nat.lt_succ_iff_lt_or_eq.1 hi with h | rfl
              · exact HOUT.out i h k' hk'
              · exact HTH.out hle k' (by rw [HLL.out] at hk'; exact hk')
            case measure => omega
      · go_wp2
        go_ret
        exact ⟨⟨N, rfl, hN0, hN1, fun h => absurd h (by omega)⟩, hnx⟩
    · have hje : j = CA := by omega
      subst hje
      have HFIN : Hid (N ≤ M → Thin d x) := fun h => HT'.out (HTH.out h)
      clear HB' HTH HT'
      go_wp2
      go_ret
      exact ⟨⟨N, rfl, hN0, hN1, HFIN.out⟩, hnx⟩
theorem weigh_any (d : Nat) (hd : d ≤ 16) : WeighC d := by
  induction d with
  | zero => exact weigh_step 0 hd fun d' h => absurd h (by omega)
  | succ d ih =>
    refine weigh_step (d + 1) hd fun d' h => ?_
    have : d' = d := by omega
    subst this
    exact ih (by omega)
set_option maxHeartbeats 1000000 in
theorem weight_any {n lo : Nat} {x : Ar} {va : Value} {w : World} (hx : ArIn n lo w x va) : Calls Try.prog 14 #[va, .int .i64 4000] w fun e w' => (∃ r : Int, e = .returned (.int .i64 r) ∧ (r ≤ 4000 → Thin 16 x)) ∧ Below w.heap.size w w' := by
  have C := fun w' hb => weigh_any 16 (Nat.le_refl _) n x lo va w' 4000 (hx.next hb) (by omega) (by omega)
  cases n with
  | zero => exact hx.elim
  | succ n =>
    obtain ⟨a1, c1, a2, c2, rfl, -⟩ := hx
    generalize x.shape.length = SA at *
    generalize x.cells.length = CA at *
    have C1 := C _ (one_alloc w (.cells #[.slice a1 SA c1, .slice a2 CA c2] 25))
    clear C
    go_enter Try.func14, Try.ntmps14
    go_wp2_with fail
    refine C1.mono ?_
    rintro e w1 ⟨⟨r, rfl, -, -, hr⟩, hb1⟩
    have HR := hide hr
    clear hr
    go_wp2
    go_ret
    exact ⟨⟨r, rfl, HR.out⟩, (one_alloc _ _).trans (hb1.mono (one_alloc _ _).size)⟩
end Go.Proofs.Ytkgpoibnilgaeaa
