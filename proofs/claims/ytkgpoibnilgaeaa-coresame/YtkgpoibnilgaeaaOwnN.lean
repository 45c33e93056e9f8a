/-
  The contracts of the document's look at a cell, and of layer 3's Check and the document's; for all arrays.
-/
import Derived.Test.YtkgpoibnilgaeaaOwnL
import Derived.Test.YtkgpoibnilgaeaaOwnM
import Derived.Test.YtkgpoibnilgaeaaRows
import Derived.WalkKit
import Derived.ProofKit
import Derived.Below
import Derived.Deep.OwnRows
import Derived.Deep.QuietTactic
import Derived.BigQuiet
import Derived.Deep.RegionWith
namespace Go.Proofs.Ytkgpoibnilgaeaa
open Go.ChangeShapes Go.WideShapes Go.ChangeAt Go.RowKit
set_option linter.unusedVariables false
set_option maxHeartbeats 1000000 in
theorem rcheckCell_any (n B : Nat) (f : Ar → Int) (IH : InnerC 55 n B f) (c : Ce) (lo : Nat) (w : World) (v0 v1 v2 : Value) (hc : CeIn (ArIn n lo w) lo w c v0 v1 v2) :
    Calls Try.prog 78 #[.agg #[v0, v1, v2], .int .i64 (B : Int)] w fun e w' => e = .returned (.int .i64 (chkC f c)) ∧ Below w.heap.size w w' := by
  obtain ⟨rfl, rfl, a, cap, rfl, hl, hx⟩ := hc
  obtain ⟨k, N, box⟩ := c
  simp only at hl hx ⊢
  obtain ⟨i1, i2, i3⟩ := IH
  have K1 : Hid (k = 2 ∧ N = 0 ∧ box.length = 1 → chkC f (k, N, box) = f (bAt box 0)) := fun h => by unfold chkC; rw [if_pos h]
  have K2 : Hid (¬ (k = 2 ∧ N = 0 ∧ box.length = 1) → box.length = 0 ∧ (k = 0 ∨ k = 1 ∧ Good N) → chkC f (k, N, box) = 0) := fun h h' => by unfold chkC; rw [if_neg h, if_pos h']
  have K3 : Hid (¬ (k = 2 ∧ N = 0 ∧ box.length = 1) → ¬ (box.length = 0 ∧ (k = 0 ∨ k = 1 ∧ Good N)) → chkC f (k, N, box) = 1) := fun h h' => by unfold chkC; rw [if_neg h, if_neg h']
  generalize chkC f (k, N, box) = r at K1 K2 K3
  by_cases h1 : k = 2 ∧ N = 0 ∧ box.length = 1
  · have hr := K1.out h1
    obtain ⟨rfl, rfl, hb1⟩ := h1
    rcases hx with hx | ⟨b, off, rfl, hlo, hb, hx⟩
    · rw [hx] at hb1; simp at hb1
    obtain ⟨s0, s1, e0, e1, e2⟩ := hx 0 (by omega)
    simp only [Nat.zero_mul, Nat.add_zero] at e0 e1
    have g0 := cell_one e0 hb
    have g1 := cell_one e1 hb
    clear K1 K2 K3 hx hlo
    by_cases h8 : B = 8
    · subst h8
      have hr' : Hid (r = 15) := by rw [hr, i2 rfl]; exact rfl
      clear hr i2 i3 e2
      rw [hb1]
      go_enter Try.func78, Try.ntmps78
      go_wp2
      go_ret
      exact ⟨retI hr'.out.symm, one_alloc _ _⟩
    · have i4 := i3 (by omega) (bAt box 0) lo _ ((w.alloc (.cells #[.int .i64 2, .int .i64 0, .slice (some ⟨b, off, none⟩) 1 cap] 60))) (e2.next (one_alloc _ _))
      rw [← hr] at i4
      have hB : (B : Int) < 8 := by omega
      have hB8 : ¬ (B : Int) = 8 := by omega
      have HB1 : Hid (Below w.heap.size w (w.alloc (.cells #[.int .i64 2, .int .i64 0, .slice (some ⟨b, off, none⟩) 1 cap] 60))) := one_alloc _ _
      clear i2 i3 h8 hr e2
      rw [hb1]
      clear hb1
      go_enter Try.func78, Try.ntmps78
      go_wp2_with fail
      refine i4.mono ?_
      rintro e w1 ⟨rfl, hb1⟩
      go_wp2
      go_ret
      exact ⟨rfl, HB1.out.trans (hb1.mono HB1.out.size)⟩
  · have K2' : Hid (box.length = 0 ∧ (k = 0 ∨ k = 1 ∧ Good N) → r = 0) := K2.out h1
    have K3' : Hid (¬ (box.length = 0 ∧ (k = 0 ∨ k = 1 ∧ Good N)) → r = 1) := K3.out h1
    clear K1 K2 K3 hx i2 i3
    generalize box.length = L at *
    by_cases hk2 : k = 2
    · have hr : Hid (r = 1) := K3'.out (by omega)
      subst hk2
      clear K2' K3'
      by_cases hN : N = 0
      · subst hN
        have hL : ¬ L = 1 := by omega
        clear h1
        by_cases hL0 : L = 0
        · subst hL0
          go_enter Try.func78, Try.ntmps78
          go_wp2
          go_ret
          exact ⟨retI hr.out.symm, one_alloc _ _⟩
        · have hL' : ¬ (L : Int) = 1 := by omega
          have hL0' : ¬ (L : Int) = 0 := by omega
          have hLp : (0 : Int) < (L : Int) := by omega
          go_enter Try.func78, Try.ntmps78
          go_wp2
          go_ret
          exact ⟨retI hr.out.symm, one_alloc _ _⟩
      · clear h1
        by_cases hL0 : L = 0
        · subst hL0
          go_enter Try.func78, Try.ntmps78
          go_wp2
          go_ret
          exact ⟨retI hr.out.symm, one_alloc _ _⟩
        · have hL0' : ¬ (L : Int) = 0 := by omega
          have hLp : (0 : Int) < (L : Int) := by omega
          go_enter Try.func78, Try.ntmps78
          go_wp2
          go_ret
          exact ⟨retI hr.out.symm, one_alloc _ _⟩
    · clear h1
      by_cases hL0 : L = 0
      · by_cases hk0 : k = 0
        · have hr : Hid (r = 0) := K2'.out ⟨hL0, Or.inl hk0⟩
          subst hL0
          subst hk0
          clear K2' K3'
          go_enter Try.func78, Try.ntmps78
          go_wp2
          go_ret
          exact ⟨retI hr.out.symm, one_alloc _ _⟩
        · by_cases hk1 : k = 1
          · by_cases hg : Good N
            · have hr : Hid (r = 0) := K2'.out ⟨hL0, Or.inr ⟨hk1, hg⟩⟩
              subst hL0
              subst hk1
              have C := fun w => rgood_any N w
              rw [decide_eq_true hg] at C
              clear K2' K3' hg
              go_enter Try.func78, Try.ntmps78
              go_wp2_with (go_at_call 85; refine (C _).mono ?_; rintro e w' ⟨rfl, hw⟩; rw [hw])
              go_ret
              exact ⟨retI hr.out.symm, one_alloc _ _⟩
            · have hr : Hid (r = 1) := K3'.out (by
                rintro ⟨_, h | h⟩
                · exact hk0 h
                · exact hg h.2)
              subst hL0
              subst hk1
              have C := fun w => rgood_any N w
              rw [decide_eq_false hg] at C
              clear K2' K3' hg
              go_enter Try.func78, Try.ntmps78
              go_wp2_with (go_at_call 85; refine (C _).mono ?_; rintro e w' ⟨rfl, hw⟩; rw [hw])
              go_ret
              exact ⟨retI hr.out.symm, one_alloc _ _⟩
          · have hr : Hid (r = 1) := K3'.out (by
              rintro ⟨_, h | h⟩
              · exact hk0 h
              · exact hk1 h.1)
            subst hL0
            clear K2' K3'
            go_enter Try.func78, Try.ntmps78
            go_wp2
            go_ret
            exact ⟨retI hr.out.symm, one_alloc _ _⟩
      · have hr : Hid (r = 1) := K3'.out (fun h => hL0 h.1)
        have hL0' : ¬ (L : Int) = 0 := by omega
        have hLp : (0 : Int) < (L : Int) := by omega
        clear K2' K3'
        go_enter Try.func78, Try.ntmps78
        go_wp2
        go_ret
        exact ⟨retI hr.out.symm, one_alloc _ _⟩
theorem cells_at {n lo : Nat} {w : World} {a2 : Option Addr} {cs : List Ce} (hc : cs = [] ∨ ∃ b off, a2 = some ⟨b, off, none⟩ ∧ lo ≤ b ∧ b < w.heap.size ∧
      ∀ i, i < cs.length → ∃ v0 v1 v2, w.cell? ⟨b, off + i * 3, none⟩ = some v0 ∧ w.cell? ⟨b, off + i * 3 + 1, none⟩ = some v1 ∧ w.cell? ⟨b, off + i * 3 + 2, none⟩ = some v2 ∧ CeIn (ArIn n lo w) lo w (cAt cs i) v0 v1 v2) (i : Nat) (hi : i < cs.length) :
    ∃ b off z0 z1 ab nb cb, a2 = some ⟨b, off, none⟩ ∧ ∀ wr, Below w.heap.size w wr → wr.cell? ⟨b, off + i * 3, none⟩ = some (.int .i64 z0) ∧ wr.cell? ⟨b, off + i * 3 + 1, none⟩ = some (.int .i64 z1) ∧ wr.cell? ⟨b, off + i * 3 + 2, none⟩ = some (.slice ab nb cb) ∧ CeIn (ArIn n lo wr) lo wr (cAt cs i) (.int .i64 z0) (.int .i64 z1) (.slice ab nb cb) := by
  rcases hc with hc | ⟨b, off, ha, hlo, hb, hc⟩
  · rw [hc] at hi; simp at hi
  obtain ⟨v0, v1, v2, e0, e1, e2, e3⟩ := hc i hi
  have e4 := e3
  obtain ⟨rfl, rfl, ab, cb, rfl, -⟩ := e4
  exact ⟨b, off, _, _, ab, _, cb, ha, fun wr hw => ⟨(hw.cell (p := ⟨b, off + i * 3, none⟩) hb).trans e0, (hw.cell (p := ⟨b, off + i * 3 + 1, none⟩) hb).trans e1, (hw.cell (p := ⟨b, off + i * 3 + 2, none⟩) hb).trans e2, e3.mono (Nat.le_refl _) hw fun x v h => h.next hw⟩⟩
theorem cell_new0 (w : World) (cs : Array Value) (t : TypeId) (i : Nat) (v : Value) (h : cs[i]? = some v) : (w.alloc (.cells cs t)).cell? ⟨w.heap.size, i, none⟩ = some v := cell_new w cs t (0, 0) i v h
set_option maxHeartbeats 2000000 in
theorem checkB_any (n B : Nat) (f : Ar → Int) (IH : InnerC 54 n B f) (x : Ar) (lo : Nat) (va : Value) (w : World) (hx : ArIn (n + 1) lo w x va) :
    Calls Try.prog 54 #[va, .int .i64 (B : Int)] w fun e w' => e = .returned (.int .i64 (chkB f x)) ∧ Below w.heap.size w w' := by
  obtain ⟨a1, c1, a2, c2, rfl, R, hl, hc⟩ := hx
  have K1 : Hid (¬ sizeE x.shape = 0 → chkB f x = sizeE x.shape) := fun h => by unfold chkB; rw [if_pos h]
  have K2 : Hid (sizeE x.shape = 0 → ¬ sizeV x.shape = x.cells.length → chkB f x = 1) := fun h h' => by unfold chkB; rw [if_neg (fun k => k h), if_pos h']
  have K3 : Hid (sizeE x.shape = 0 → sizeV x.shape = x.cells.length → hasLong x.shape → chkB f x = 12) := fun h h' h'' => by unfold chkB; rw [if_neg (fun k => k h), if_neg (fun k => k h'), if_pos h'']
  have K4 : Hid (sizeE x.shape = 0 → sizeV x.shape = x.cells.length → ¬ hasLong x.shape → chkB f x = firstUp (chkF f x) x.cells.length) := fun h h' h'' => by unfold chkB; rw [if_neg (fun k => k h), if_neg (fun k => k h'), if_neg h'']
  generalize chkB f x = r at K1 K2 K3 K4
  have b0 := one_alloc w (.cells #[.slice a1 x.shape.length c1, .slice a2 x.cells.length c2] 25)
  have C1 := size_any x.shape a1 c1 _ (R.next b0)
  have C2 := ends_any x.shape a1 c1 _ (R.next b0)
  have hlR := R.1
  have HB0 : Hid (Below w.heap.size w (w.alloc (.cells #[.slice a1 x.shape.length c1, .slice a2 x.cells.length c2] 25))) := b0
  have HC : Hid (∀ i, i < x.cells.length → ∃ b off z0 z1 ab nb cb, a2 = some ⟨b, off, none⟩ ∧ ∀ wr, Below w.heap.size w wr → (wr.cell? ⟨b, off + i * 3, none⟩ = some (.int .i64 z0) ∧ wr.cell? ⟨b, off + i * 3 + 1, none⟩ = some (.int .i64 z1) ∧ wr.cell? ⟨b, off + i * 3 + 2, none⟩ = some (.slice ab nb cb)) ∧ Calls Try.prog 76 #[.agg #[.int .i64 z0, .int .i64 z1, .slice ab nb cb], .int .i64 (B : Int)] wr fun e w' => e = .returned (.int .i64 (chkF f x i)) ∧ Below wr.heap.size wr w') := by
    intro i hi
    obtain ⟨b, off, z0, z1, ab, nb, cb, ha, h⟩ := cells_at hc i hi
    refine ⟨b, off, z0, z1, ab, nb, cb, ha, fun wr hw => ?_⟩
    obtain ⟨e0, e1, e2, e3⟩ := h wr hw
    exact ⟨⟨e0, e1, e2⟩, checkCell_any n B f IH _ lo wr _ _ _ e3⟩
  clear R hc b0 IH
  by_cases h1 : sizeE x.shape = 0
  · rw [h1] at C1
    by_cases h2 : sizeV x.shape = x.cells.length
    · rw [h2] at C1
      by_cases h3 : hasLong x.shape
      · have hr : Hid (r = 12) := K3.out h1 h2 h3
        have hm := most_long.2 h3
        clear K1 K2 K3 K4 HC h1 h2 h3
        generalize leastL x.shape = P at C2
        generalize mostL x.shape = Q at C2 hm
        generalize x.shape.length = SA at *
        generalize x.cells.length = CA at *
        go_enter Try.func54, Try.ntmps54
        go_wp2_with fail
        refine C1.mono ?_
        rintro e w1 ⟨rfl, hw⟩
        rw [hw]
        clear hw
        go_wp2_with fail
        refine C2.mono ?_
        rintro e w1 ⟨rfl, hw⟩
        rw [hw]
        clear hw
        go_wp2
        go_ret
        exact ⟨retI hr.out.symm, HB0.out⟩
      · have hr := K4.out h1 h2 h3
        have hm : ¬ 16384 < mostL x.shape := fun h => h3 (most_long.1 h)
        clear K1 K2 K3 K4 h1 h2 h3
        have H0 : Hid (firstUp (chkF f x) 0 = 0) := rfl
        generalize leastL x.shape = P at C2
        generalize mostL x.shape = Q at C2 hm
        generalize chkF f x = F at *
        generalize x.shape.length = SA at *
        generalize x.cells.length = CA at *
        have HR := hide hr
        clear hr
        go_enter Try.func54, Try.ntmps54
        go_wp2_with fail
        refine C1.mono ?_
        rintro e w1 ⟨rfl, hw⟩
        rw [hw]
        clear hw
        go_wp2_with fail
        refine C2.mono ?_
        rintro e w1 ⟨rfl, hw⟩
        rw [hw]
        clear hw C1 C2
        go_wp2
        go_loopw [37] (fun i wr => ∃ j : Nat, j ≤ CA ∧ i = .int .i64 (j : Int) ∧ firstUp F j = 0 ∧ Below w.heap.size w wr) (fun i _ => CA - (intOf i).toNat)
        case atStart => exact ⟨0, Nat.zero_le _, rfl, H0.out, HB0.out⟩
        case round =>
          clear HB0
          obtain ⟨j, hj, rfl, hz, hnx⟩ := hrel
          have HZ := hide hz
          clear hz
          by_cases hlt : j < CA
          · obtain ⟨b, off, z0, z1, ab, nb, cb, rfl, hcs⟩ := HC.out j hlt
            obtain ⟨⟨k0, k1, k2⟩, -⟩ := hcs wr hnx
            have C : Hid (∀ o, Calls Try.prog 76 #[.agg #[.int .i64 z0, .int .i64 z1, .slice ab nb cb], .int .i64 (B : Int)] (wr.alloc o) fun e w' => e = .returned (.int .i64 (F j)) ∧ Below w.heap.size w w') := by
              intro o
              refine ((hcs (wr.alloc o) (hnx.alloc hnx.size o)).2).mono ?_
              rintro e w1 ⟨he, hb⟩
              exact ⟨he, (hnx.alloc hnx.size o).trans (hb.mono (hnx.alloc hnx.size o).size)⟩
            have HT : Hid (F j ≠ 0 → r = F j) := fun h => by rw [HR.out]; exact firstUp_hit HZ.out h CA hlt
            have HS : Hid (firstUp F (j + 1) = F j) := firstUp_step HZ.out
            clear hcs HC
            obtain ⟨z, ez⟩ : ∃ z, F j = z := ⟨_, rfl⟩
            rw [ez] at C HT HS
            clear ez
            by_cases hz0 : z = 0
            · subst hz0
              go_wp2_with fail
              refine (C.out _).mono ?_
              rintro e w1 ⟨rfl, hb1⟩
              go_wp2
              go_roundw
              case rel => exact ⟨j + 1, by omega, by go_num, HS.out, hb1⟩
              case measure => simp [intOf]; omega
            · have HN := hide hz0
              go_wp2_with fail
              refine (C.out _).mono ?_
              rintro e w1 ⟨rfl, hb1⟩
              go_wp2
              go_ret
              exact ⟨retI (HT.out HN.out).symm, hb1⟩
          · have hje : j = CA := by omega
            subst hje
            have hr : Hid (r = 0) := by show r = 0; rw [HR.out]; exact HZ.out
            clear HC HR HZ
            go_wp2
            go_ret
            exact ⟨retI hr.out.symm, hnx⟩
    · have hr : Hid (r = 1) := K2.out h1 h2
      clear K1 K2 K3 K4 HC C2 h1
      generalize sizeV x.shape = S at C1 h2
      generalize x.shape.length = SA at *
      generalize x.cells.length = CA at *
      go_enter Try.func54, Try.ntmps54
      go_wp2_with fail
      refine C1.mono ?_
      rintro e w1 ⟨rfl, hw⟩
      rw [hw]
      clear hw
      go_wp2
      go_ret
      exact ⟨retI hr.out.symm, HB0.out⟩
  · have hr := hide (K1.out h1)
    clear K1 K2 K3 K4 HC C2
    generalize sizeV x.shape = S at C1
    generalize sizeE x.shape = E at C1 h1 hr
    generalize x.shape.length = SA at *
    generalize x.cells.length = CA at *
    go_enter Try.func54, Try.ntmps54
    go_wp2_with fail
    refine C1.mono ?_
    rintro e w1 ⟨rfl, hw⟩
    rw [hw]
    clear hw
    go_wp2
    go_ret
    exact ⟨retI hr.out.symm, HB0.out⟩
end Go.Proofs.Ytkgpoibnilgaeaa
