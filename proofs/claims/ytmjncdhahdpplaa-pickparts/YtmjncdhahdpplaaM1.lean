/-
  The contracts of the document's look at a cell, and of layer 3's Check and the document's; for all arrays.
  The contracts of the document's Check and of layer 3's; for all arrays.
  The contracts of layer 3's Atom, Nums and Text: numbers and signs as arrays, in memory of their own; the numbers not more than a machine holds.
  The contracts of layer 3's Atom and of the document's, and of layer 3's trial run: it answers true.
  Memory that a call made and that may be written: no cell from the old memory's end on is frozen, and none of the old ones turned in that; kept by every step.
  The contract of layer 3's copy of a cell, given that of the array in its box: the same cell, its box in memory of its own; for all cells that may be.
  The contract of layer 3's Copy: the same array in memory of its own; for all arrays that may be.
  The contract of the statements' own look whether an array is not more than is waited for: what is light is thin: no more than so many boxes within one another; for all arrays.
-/
import Derived.Test.YtmjncdhahdpplaaM0
import Derived.Laws.MakeOwn
import Derived.Deep.RegionHeld3
import Derived.Laws.IdiomCopy
import Derived.Deep.Cut
import Derived.Deep.LoopGhost
namespace Go.Proofs.Ytmjncdhahdpplaa
open Go.ChangeShapes Go.WideShapes Go.ChangeAt Go.RowKit
set_option linter.unusedVariables false
set_option maxHeartbeats 1000000 in
theorem rcheckCell_any (n B : Nat) (f : Ar → Int) (IH : InnerC 45 n B f) (c : Ce) (lo : Nat) (w : World) (v0 v1 v2 : Value) (hc : CeIn (ArIn n lo w) lo w c v0 v1 v2) :
    Calls Try.prog 74 #[.agg #[v0, v1, v2], .int .i64 (B : Int)] w fun e w' => e = .returned (.int .i64 (chkC f c)) ∧ Below w.heap.size w w' := by
  obtain ⟨rfl, rfl, a, cap, rfl, hl, hx⟩ := hc
  obtain ⟨k, N, box⟩ := c
  simp only at hl hx ⊢
  obtain ⟨i1, i2, i3⟩ := IH
  have K1 : Hid (k = 2 ∧ N = 0 ∧ box.length = 1 → chkC f (k, N, box) = f (bAt box 0)) := fun h => by unfold chkC; rw [if_pos h]
  have K2 : Hid (¬ (k = 2 ∧ N = 0 ∧ box.length = 1) → box.length = 0 ∧ (k = 0 ∨ k = 1 ∧ Good N) → chkC f (k, N, box) = 0) := fun h h' => by unfold chkC; rw [if_neg h, if_pos h']
  have K3 : Hid (¬ (k = 2 ∧ N = 0 ∧ box.length = 1) → ¬ (box.length = 0 ∧ (k = 0 ∨ k = 1 ∧ Good N)) → chkC f (k, N, box) = 1) := fun h h' => by unfold chkC; rw [if_neg h, if_neg h']
  generalize chkC f (k, N, box) = r at K1 K2 K3
  by_cases h1 : k = 2 ∧ N = 0 ∧ box.length = 1
  · have hr := K1.out h1
    obtain ⟨rfl, rfl, hb1⟩ := h1
    rcases hx with hx | ⟨b, off, rfl, hlo, hb, hx⟩
    · rw [hx] at hb1; simp at hb1
    obtain ⟨s0, s1, e0, e1, e2⟩ := hx 0 (by omega)
    simp only [Nat.zero_mul, Nat.add_zero] at e0 e1
    have g0 := cell_one e0 hb
    have g1 := cell_one e1 hb
    clear K1 K2 K3 hx hlo
    by_cases h8 : B = 8
    · subst h8
      have hr' : Hid (r = 15) := by rw [hr, i2 rfl]; exact rfl
      clear hr i2 i3 e2
      rw [hb1]
      go_enter Try.func74, Try.ntmps74
      go_wp2
      go_ret
      exact ⟨retI hr'.out.symm, one_alloc _ _⟩
    · have i4 := i3 (by omega) (bAt box 0) lo _ ((w.alloc (.cells #[.int .i64 2, .int .i64 0, .slice (some ⟨b, off, none⟩) 1 cap] 36))) (e2.next (one_alloc _ _))
      rw [← hr] at i4
      have hB : (B : Int) < 8 := by omega
      have hB8 : ¬ (B : Int) = 8 := by omega
      have HB1 : Hid (Below w.heap.size w (w.alloc (.cells #[.int .i64 2, .int .i64 0, .slice (some ⟨b, off, none⟩) 1 cap] 36))) := one_alloc _ _
      clear i2 i3 h8 hr e2
      rw [hb1]
      clear hb1
      go_enter Try.func74, Try.ntmps74
      go_wp2_with fail
      refine i4.mono ?_
      rintro e w1 ⟨rfl, hb1⟩
      go_wp2
      go_ret
      exact ⟨rfl, HB1.out.trans (hb1.mono HB1.out.size)⟩
  · have K2' : Hid (box.length = 0 ∧ (k = 0 ∨ k = 1 ∧ Good N) → r = 0) := K2.out h1
    have K3' : Hid (¬ (box.length = 0 ∧ (k = 0 ∨ k = 1 ∧ Good N)) → r = 1) := K3.out h1
    clear K1 K2 K3 hx i2 i3
    generalize box.length = L at *
    by_cases hk2 : k = 2
    · have hr : Hid (r = 1) := K3'.out (by omega)
      subst hk2
      clear K2' K3'
      by_cases hN : N = 0
      · subst hN
        have hL : ¬ L = 1 := by omega
        clear h1
        by_cases hL0 : L = 0
        · subst hL0
          go_enter Try.func74, Try.ntmps74
          go_wp2
          go_ret
          exact ⟨retI hr.out.symm, one_alloc _ _⟩
        · have hL' : ¬ (L : Int) = 1 := by omega
          have hL0' : ¬ (L : Int) = 0 := by omega
          have hLp : (0 : Int) < (L : Int) := by omega
          go_enter Try.func74, Try.ntmps74
          go_wp2
          go_ret
          exact ⟨retI hr.out.symm, one_alloc _ _⟩
      · clear h1
        by_cases hL0 : L = 0
        · subst hL0
          go_enter Try.func74, Try.ntmps74
          go_wp2
          go_ret
          exact ⟨retI hr.out.symm, one_alloc _ _⟩
        · have hL0' : ¬ (L : Int) = 0 := by omega
          have hLp : (0 : Int) < (L : Int) := by omega
          go_enter Try.func74, Try.ntmps74
          go_wp2
          go_ret
          exact ⟨retI hr.out.symm, one_alloc _ _⟩
    · clear h1
      by_cases hL0 : L = 0
      · by_cases hk0 : k = 0
        · have hr : Hid (r = 0) := K2'.out ⟨hL0, Or.inl hk0⟩
          subst hL0
          subst hk0
          clear K2' K3'
          go_enter Try.func74, Try.ntmps74
          go_wp2
          go_ret
          exact ⟨retI hr.out.symm, one_alloc _ _⟩
        · by_cases hk1 : k = 1
          · by_cases hg : Good N
            · have hr : Hid (r = 0) := K2'.out ⟨hL0, Or.inr ⟨hk1, hg⟩⟩
              subst hL0
              subst hk1
              have C := fun w => rgood_any N w
              rw [decide_eq_true hg] at C
              clear K2' K3' hg
              go_enter Try.func74, Try.ntmps74
              go_wp2_with (go_at_call 93; refine (C _).mono ?_; rintro e w' ⟨rfl, hw⟩; rw [hw])
              go_ret
              exact ⟨retI hr.out.symm, one_alloc _ _⟩
            · have hr : Hid (r = 1) := K3'.out (by
                rintro ⟨_, h | h⟩
                · exact hk0 h
                · exact hg h.2)
              subst hL0
              subst hk1
              have C := fun w => rgood_any N w
              rw [decide_eq_false hg] at C
              clear K2' K3' hg
              go_enter Try.func74, Try.ntmps74
              go_wp2_with (go_at_call 93; refine (C _).mono ?_; rintro e w' ⟨rfl, hw⟩; rw [hw])
              go_ret
              exact ⟨retI hr.out.symm, one_alloc _ _⟩
          · have hr : Hid (r = 1) := K3'.out (by
              rintro ⟨_, h | h⟩
              · exact hk0 h
              · exact hk1 h.1)
            subst hL0
            clear K2' K3'
            go_enter Try.func74, Try.ntmps74
            go_wp2
            go_ret
            exact ⟨retI hr.out.symm, one_alloc _ _⟩
      · have hr : Hid (r = 1) := K3'.out (fun h => hL0 h.1)
        have hL0' : ¬ (L : Int) = 0 := by omega
        have hLp : (0 : Int) < (L : Int) := by omega
        clear K2' K3'
        go_enter Try.func74, Try.ntmps74
        go_wp2
        go_ret
        exact ⟨retI hr.out.symm, one_alloc _ _⟩
theorem cells_at {n lo : Nat} {w : World} {a2 : Option Addr} {cs : List Ce} (hc : cs = [] ∨ ∃ b off, a2 = some ⟨b, off, none⟩ ∧ lo ≤ b ∧ b < w.heap.size ∧
      ∀ i, i < cs.length → ∃ v0 v1 v2, w.cell? ⟨b, off + i * 3, none⟩ = some v0 ∧ w.cell? ⟨b, off + i * 3 + 1, none⟩ = some v1 ∧ w.cell? ⟨b, off + i * 3 + 2, none⟩ = some v2 ∧ CeIn (ArIn n lo w) lo w (cAt cs i) v0 v1 v2) (i : Nat) (hi : i < cs.length) :
    ∃ b off z0 z1 ab nb cb, a2 = some ⟨b, off, none⟩ ∧ ∀ wr, Below w.heap.size w wr → wr.cell? ⟨b, off + i * 3, none⟩ = some (.int .i64 z0) ∧ wr.cell? ⟨b, off + i * 3 + 1, none⟩ = some (.int .i64 z1) ∧ wr.cell? ⟨b, off + i * 3 + 2, none⟩ = some (.slice ab nb cb) ∧ CeIn (ArIn n lo wr) lo wr (cAt cs i) (.int .i64 z0) (.int .i64 z1) (.slice ab nb cb) := by
  rcases hc with hc | ⟨b, off, ha, hlo, hb, hc⟩
  · rw [hc] at hi; simp at hi
  obtain ⟨v0, v1, v2, e0, e1, e2, e3⟩ := hc i hi
  have e4 := e3
  obtain ⟨rfl, rfl, ab, cb, rfl, -⟩ := e4
  exact ⟨b, off, _, _, ab, _, cb, ha, fun wr hw => ⟨(hw.cell (p := ⟨b, off + i * 3, none⟩) hb).trans e0, (hw.cell (p := ⟨b, off + i * 3 + 1, none⟩) hb).trans e1, (hw.cell (p := ⟨b, off + i * 3 + 2, none⟩) hb).trans e2, e3.mono (Nat.le_refl _) hw fun x v h => h.next hw⟩⟩
theorem cell_new0 (w : World) (cs : Array Value) (t : TypeId) (i : Nat) (v : Value) (h : cs[i]? = some v) : (w.alloc (.cells cs t)).cell? ⟨w.heap.size, i, none⟩ = some v := cell_new w cs t (0, 0) i v h
set_option maxHeartbeats 2000000 in
theorem checkB_any (n B : Nat) (f : Ar → Int) (IH : InnerC 58 n B f) (x : Ar) (lo : Nat) (va : Value) (w : World) (hx : ArIn (n + 1) lo w x va) :
    Calls Try.prog 58 #[va, .int .i64 (B : Int)] w fun e w' => e = .returned (.int .i64 (chkB f x)) ∧ Below w.heap.size w w' := by
  obtain ⟨a1, c1, a2, c2, rfl, R, hl, hc⟩ := hx
  have K1 : Hid (¬ sizeE x.shape = 0 → chkB f x = sizeE x.shape) := fun h => by unfold chkB; rw [if_pos h]
  have K2 : Hid (sizeE x.shape = 0 → ¬ sizeV x.shape = x.cells.length → chkB f x = 1) := fun h h' => by unfold chkB; rw [if_neg (fun k => k h), if_pos h']
  have K3 : Hid (sizeE x.shape = 0 → sizeV x.shape = x.cells.length → hasLong x.shape → chkB f x = 12) := fun h h' h'' => by unfold chkB; rw [if_neg (fun k => k h), if_neg (fun k => k h'), if_pos h'']
  have K4 : Hid (sizeE x.shape = 0 → sizeV x.shape = x.cells.length → ¬ hasLong x.shape → chkB f x = firstUp (chkF f x) x.cells.length) := fun h h' h'' => by unfold chkB; rw [if_neg (fun k => k h), if_neg (fun k => k h'), if_neg h'']
  generalize chkB f x = r at K1 K2 K3 K4
  have b0 := one_alloc w (.cells #[.slice a1 x.shape.length c1, .slice a2 x.cells.length c2] 25)
  have C1 := size_any x.shape a1 c1 _ (R.next b0)
  have C2 := ends_any x.shape a1 c1 _ (R.next b0)
  have hlR := R.1
  have HB0 : Hid (Below w.heap.size w (w.alloc (.cells #[.slice a1 x.shape.length c1, .slice a2 x.cells.length c2] 25))) := b0
  have HC : Hid (∀ i, i < x.cells.length → ∃ b off z0 z1 ab nb cb, a2 = some ⟨b, off, none⟩ ∧ ∀ wr, Below w.heap.size w wr → (wr.cell? ⟨b, off + i * 3, none⟩ = some (.int .i64 z0) ∧ wr.cell? ⟨b, off + i * 3 + 1, none⟩ = some (.int .i64 z1) ∧ wr.cell? ⟨b, off + i * 3 + 2, none⟩ = some (.slice ab nb cb)) ∧ Calls Try.prog 89 #[.agg #[.int .i64 z0, .int .i64 z1, .slice ab nb cb], .int .i64 (B : Int)] wr fun e w' => e = .returned (.int .i64 (chkF f x i)) ∧ Below wr.heap.size wr w') := by
    intro i hi
    obtain ⟨b, off, z0, z1, ab, nb, cb, ha, h⟩ := cells_at hc i hi
    refine ⟨b, off, z0, z1, ab, nb, cb, ha, fun wr hw => ?_⟩
    obtain ⟨e0, e1, e2, e3⟩ := h wr hw
    exact ⟨⟨e0, e1, e2⟩, checkCell_any n B f IH _ lo wr _ _ _ e3⟩
  clear R hc b0 IH
  by_cases h1 : sizeE x.shape = 0
  · rw [h1] at C1
    by_cases h2 : sizeV x.shape = x.cells.length
    · rw [h2] at C1
      by_cases h3 : hasLong x.shape
      · have hr : Hid (r = 12) := K3.out h1 h2 h3
        have hm := most_long.2 h3
        clear K1 K2 K3 K4 HC h1 h2 h3
        generalize leastL x.shape = P at C2
        generalize mostL x.shape = Q at C2 hm
        generalize x.shape.length = SA at *
        generalize x.cells.length = CA at *
        go_enter Try.func58, Try.ntmps58
        go_wp2_with fail
        refine C1.mono ?_
        rintro e w1 ⟨rfl, hw⟩
        rw [hw]
        clear hw
        go_wp2_with fail
        refine C2.mono ?_
        rintro e w1 ⟨rfl, hw⟩
        rw [hw]
        clear hw
        go_wp2
        go_ret
        exact ⟨retI hr.out.symm, HB0.out⟩
      · have hr := K4.out h1 h2 h3
        have hm : ¬ 16384 < mostL x.shape := fun h => h3 (most_long.1 h)
        clear K1 K2 K3 K4 h1 h2 h3
        have H0 : Hid (firstUp (chkF f x) 0 = 0) := rfl
        generalize leastL x.shape = P at C2
        generalize mostL x.shape = Q at C2 hm
        generalize chkF f x = F at *
        generalize x.shape.length = SA at *
        generalize x.cells.length = CA at *
        have HR := hide hr
        clear hr
        go_enter Try.func58, Try.ntmps58
        go_wp2_with fail
        refine C1.mono ?_
        rintro e w1 ⟨rfl, hw⟩
        rw [hw]
        clear hw
        go_wp2_with fail
        refine C2.mono ?_
        rintro e w1 ⟨rfl, hw⟩
        rw [hw]
        clear hw C1 C2
        go_wp2
        go_loopw [37] (fun i wr => ∃ j : Nat, j ≤ CA ∧ i = .int .i64 (j : Int) ∧ firstUp F j = 0 ∧ Below w.heap.size w wr) (fun i _ => CA - (intOf i).toNat)
        case atStart => exact ⟨0, Nat.zero_le _, rfl, H0.out, HB0.out⟩
        case round =>
          clear HB0
          obtain ⟨j, hj, rfl, hz, hnx⟩ := hrel
          have HZ := hide hz
          clear hz
          by_cases hlt : j < CA
          · obtain ⟨b, off, z0, z1, ab, nb, cb, rfl, hcs⟩ := HC.out j hlt
            obtain ⟨⟨k0, k1, k2⟩, -⟩ := hcs wr hnx
            have C : Hid (∀ o, Calls Try.prog 89 #[.agg #[.int .i64 z0, .int .i64 z1, .slice ab nb cb], .int .i64 (B : Int)] (wr.alloc o) fun e w' => e = .returned (.int .i64 (F j)) ∧ Below w.heap.size w w') := by
              intro o
              refine ((hcs (wr.alloc o) (hnx.alloc hnx.size o)).2).mono ?_
              rintro e w1 ⟨he, hb⟩
              exact ⟨he, (hnx.alloc hnx.size o).trans (hb.mono (hnx.alloc hnx.size o).size)⟩
            have HT : Hid (F j ≠ 0 → r = F j) := fun h => by rw [HR.out]; exact firstUp_hit HZ.out h CA hlt
            have HS : Hid (firstUp F (j + 1) = F j) := firstUp_step HZ.out
            clear hcs HC
            obtain ⟨z, ez⟩ : ∃ z, F j = z := ⟨_, rfl⟩
            rw [ez] at C HT HS
            clear ez
            by_cases hz0 : z = 0
            · subst hz0
              go_wp2_with fail
              refine (C.out _).mono ?_
              rintro e w1 ⟨rfl, hb1⟩
              go_wp2
              go_roundw
              case rel => exact ⟨j + 1, by omega, by go_num, HS.out, hb1⟩
              case measure => simp [intOf]; omega
            · have HN := hide hz0
              go_wp2_with fail
              refine (C.out _).mono ?_
              rintro e w1 ⟨rfl, hb1⟩
              go_wp2
              go_ret
              exact ⟨retI (HT.out HN.out).symm, hb1⟩
          · have hje : j = CA := by omega
            subst hje
            have hr : Hid (r = 0) := by show r = 0; rw [HR.out]; exact HZ.out
            clear HC HR HZ
            go_wp2
            go_ret
            exact ⟨retI hr.out.symm, hnx⟩
    · have hr : Hid (r = 1) := K2.out h1 h2
      clear K1 K2 K3 K4 HC C2 h1
      generalize sizeV x.shape = S at C1 h2
      generalize x.shape.length = SA at *
      generalize x.cells.length = CA at *
      go_enter Try.func58, Try.ntmps58
      go_wp2_with fail
      refine C1.mono ?_
      rintro e w1 ⟨rfl, hw⟩
      rw [hw]
      clear hw
      go_wp2
      go_ret
      exact ⟨retI hr.out.symm, HB0.out⟩
  · have hr := hide (K1.out h1)
    clear K1 K2 K3 K4 HC C2
    generalize sizeV x.shape = S at C1
    generalize sizeE x.shape = E at C1 h1 hr
    generalize x.shape.length = SA at *
    generalize x.cells.length = CA at *
    go_enter Try.func58, Try.ntmps58
    go_wp2_with fail
    refine C1.mono ?_
    rintro e w1 ⟨rfl, hw⟩
    rw [hw]
    clear hw
    go_wp2
    go_ret
    exact ⟨retI hr.out.symm, HB0.out⟩
end Go.Proofs.Ytmjncdhahdpplaa
namespace Go.Proofs.Ytmjncdhahdpplaa
open Go.ChangeShapes Go.WideShapes Go.ChangeAt Go.RowKit
set_option linter.unusedVariables false
set_option maxHeartbeats 2000000 in
theorem rcheckB_any (n B : Nat) (f : Ar → Int) (IH : InnerC 45 n B f) (x : Ar) (lo : Nat) (va : Value) (w : World) (hx : ArIn (n + 1) lo w x va) :
    Calls Try.prog 45 #[va, .int .i64 (B : Int)] w fun e w' => e = .returned (.int .i64 (chkB f x)) ∧ Below w.heap.size w w' := by
  obtain ⟨a1, c1, a2, c2, rfl, R, hl, hc⟩ := hx
  have K1 : Hid (¬ sizeE x.shape = 0 → chkB f x = sizeE x.shape) := fun h => by unfold chkB; rw [if_pos h]
  have K2 : Hid (sizeE x.shape = 0 → ¬ sizeV x.shape = x.cells.length → chkB f x = 1) := fun h h' => by unfold chkB; rw [if_neg (fun k => k h), if_pos h']
  have K3 : Hid (sizeE x.shape = 0 → sizeV x.shape = x.cells.length → hasLong x.shape → chkB f x = 12) := fun h h' h'' => by unfold chkB; rw [if_neg (fun k => k h), if_neg (fun k => k h'), if_pos h'']
  have K4 : Hid (sizeE x.shape = 0 → sizeV x.shape = x.cells.length → ¬ hasLong x.shape → chkB f x = firstUp (chkF f x) x.cells.length) := fun h h' h'' => by unfold chkB; rw [if_neg (fun k => k h), if_neg (fun k => k h'), if_neg h'']
  generalize chkB f x = r at K1 K2 K3 K4
  have b0 := one_alloc w (.cells #[.slice a1 x.shape.length c1, .slice a2 x.cells.length c2] 25)
  have C1 := rsize_any x.shape a1 c1 _ (R.next b0)
  have hlR := R.1
  have HB0 : Hid (Below w.heap.size w (w.alloc (.cells #[.slice a1 x.shape.length c1, .slice a2 x.cells.length c2] 25))) := b0
  have HS : Hid (∀ i, i < x.shape.length → ∃ b off s, a1 = some ⟨b, off, none⟩ ∧ (16384 < s → hasLong x.shape) ∧ (x.shape[i]?.getD 0 = s) ∧ (w.alloc (.cells #[.slice a1 x.shape.length c1, .slice a2 x.cells.length c2] 25)).cell? ⟨b, off + i, none⟩ = some (.int .i64 s)) := by
    intro i hi
    obtain ⟨b, off, ha, hb, hck⟩ := row_at (R.next b0) hi
    exact ⟨b, off, _, ha, fun h => ⟨_, getD_mem hi, h⟩, rfl, hck⟩
  have D3 : Hid ((∀ i, i < x.shape.length → ¬ 16384 < x.shape[i]?.getD 0) → ¬ hasLong x.shape) := by
    rintro h ⟨z, hz, hz'⟩
    obtain ⟨k, hk, e⟩ := mem_getD hz
    exact h k hk (by omega)
  have HC : Hid (∀ i, i < x.cells.length → ∃ b off z0 z1 ab nb cb, a2 = some ⟨b, off, none⟩ ∧ ∀ wr, Below w.heap.size w wr → (wr.cell? ⟨b, off + i * 3, none⟩ = some (.int .i64 z0) ∧ wr.cell? ⟨b, off + i * 3 + 1, none⟩ = some (.int .i64 z1) ∧ wr.cell? ⟨b, off + i * 3 + 2, none⟩ = some (.slice ab nb cb)) ∧ Calls Try.prog 74 #[.agg #[.int .i64 z0, .int .i64 z1, .slice ab nb cb], .int .i64 (B : Int)] wr fun e w' => e = .returned (.int .i64 (chkF f x i)) ∧ Below wr.heap.size wr w') := by
    intro i hi
    obtain ⟨b, off, z0, z1, ab, nb, cb, ha, h⟩ := cells_at hc i hi
    refine ⟨b, off, z0, z1, ab, nb, cb, ha, fun wr hw => ?_⟩
    obtain ⟨e0, e1, e2, e3⟩ := h wr hw
    exact ⟨⟨e0, e1, e2⟩, rcheckCell_any n B f IH _ lo wr _ _ _ e3⟩
  clear R hc b0 IH
  by_cases h1 : sizeE x.shape = 0
  · rw [h1] at C1
    by_cases h2 : sizeV x.shape = x.cells.length
    · rw [h2] at C1
      have K3' : Hid (hasLong x.shape → r = 12) := K3.out h1 h2
      have K4' : Hid (¬ hasLong x.shape → r = firstUp (chkF f x) x.cells.length) := K4.out h1 h2
      clear K1 K2 K3 K4 h1 h2
      have H0 : Hid (firstUp (chkF f x) 0 = 0) := rfl
      generalize chkF f x = F at *
      generalize x.shape = SS at *
      generalize x.cells.length = CA at *
      have W1 := one_alloc w (.cells #[.slice a1 SS.length c1, .slice a2 CA c2] 25)
      go_enter Try.func45, Try.ntmps45
      go_wp2_with fail
      refine C1.mono ?_
      rintro e w1 ⟨rfl, hw⟩
      rw [hw]
      clear hw C1 W1
      go_wp2
      go_loop [7] (fun i => ∃ j : Nat, j ≤ SS.length ∧ i = .int .i64 (j : Int) ∧ ∀ i, i < j → ¬ 16384 < SS[i]?.getD 0) (fun i => SS.length - (intOf i).toNat)
      case atStart => exact ⟨0, Nat.zero_le _, rfl, by simp⟩
      case round =>
        obtain ⟨j, hj, rfl, hall⟩ := hrel
        have HALL := hide hall
        clear hall
        by_cases hlt : j < SS.length
        · obtain ⟨b, off, s, rfl, hL, hs, hck⟩ := HS.out j hlt
          have HSS := hide hs
          have HL := hide hL
          clear HS HC hs hL
          by_cases hlong : 16384 < s
          · have hr : Hid (r = 12) := K3'.out (HL.out hlong)
            go_wp2
            go_ret
            exact ⟨retI hr.out.symm, HB0.out⟩
          · have HN := hide hlong
            go_wp2
            go_round
            case rel =>
              refine ⟨j + 1, by omega, by go_num, ?_⟩
              intro i hi
              rcases Nat.lt_succ_iff_lt_or_eq.1 hi with h | rfl
              · exact HALL.out i h
              · rw [HSS.out]; exact HN.out
            case measure => simp [intOf]; omega
        · have hje : j = SS.length := by omega
          subst hje
          have HR := hide (K4'.out (D3.out (fun i hi => by have := HALL.out i hi; omega)))
          clear HS HALL D3 K3' K4'
          go_wp2
          go_loopw [8] (fun i wr => ∃ j : Nat, j ≤ CA ∧ i = .int .i64 (j : Int) ∧ firstUp F j = 0 ∧ wr.cell? ⟨w.heap.size, 1, none⟩ = some (.slice a2 CA c2) ∧ w.heap.size + 1 ≤ wr.heap.size ∧ Below w.heap.size w wr) (fun i _ => CA - (intOf i).toNat)
          case atStart => exact ⟨0, Nat.zero_le _, rfl, H0.out, cell_new0 w _ 25 1 _ rfl, by simp, HB0.out⟩
          case round =>
            clear HB0
            obtain ⟨j, hj, rfl, hz, hcl, hsz, hnx⟩ := hrel
            have HZ := hide hz
            have HSZ := hide hsz
            clear hz hsz
            by_cases hlt : j < CA
            · obtain ⟨b, off, z0, z1, ab, nb, cb, rfl, hcs⟩ := HC.out j hlt
              obtain ⟨⟨k0, k1, k2⟩, C⟩ := hcs wr hnx
              have HT : Hid (F j ≠ 0 → r = F j) := fun h => by rw [HR.out]; exact firstUp_hit HZ.out h CA hlt
              have HS : Hid (firstUp F (j + 1) = F j) := firstUp_step HZ.out
              clear hcs HC
              obtain ⟨z, ez⟩ : ∃ z, F j = z := ⟨_, rfl⟩
              rw [ez] at C HT HS
              clear ez
              by_cases hz0 : z = 0
              · subst hz0
                go_wp2_with fail
                refine C.mono ?_
                rintro e w1 ⟨rfl, hb1⟩
                go_wp2
                go_roundw
                case rel => exact ⟨j + 1, by omega, by go_num, HS.out, (hb1.cell (p := ⟨w.heap.size, 1, none⟩) (by have := HSZ.out; show w.heap.size < _; omega)).trans hcl, Nat.le_trans HSZ.out hb1.size, hnx.trans (hb1.mono hnx.size)⟩
                case measure => simp [intOf]; omega
              · have HN := hide hz0
                go_wp2_with fail
                refine C.mono ?_
                rintro e w1 ⟨rfl, hb1⟩
                go_wp2
                go_ret
                exact ⟨retI (HT.out HN.out).symm, hnx.trans (hb1.mono hnx.size)⟩
            · have hje : j = CA := by omega
              subst hje
              have hr : Hid (r = 0) := by show r = 0; rw [HR.out]; exact HZ.out
              clear HC HR HZ
              go_wp2
              go_ret
              exact ⟨retI hr.out.symm, hnx⟩
    · have hr : Hid (r = 1) := K2.out h1 h2
      clear K1 K2 K3 K4 HC h1 HS D3
      generalize sizeV x.shape = S at C1 h2
      generalize x.shape.length = SA at *
      generalize x.cells.length = CA at *
      go_enter Try.func45, Try.ntmps45
      go_wp2_with fail
      refine C1.mono ?_
      rintro e w1 ⟨rfl, hw⟩
      rw [hw]
      clear hw
      go_wp2
      go_ret
      exact ⟨retI hr.out.symm, HB0.out⟩
  · have hr := hide (K1.out h1)
    clear K1 K2 K3 K4 HC HS D3
    generalize sizeV x.shape = S at C1
    generalize sizeE x.shape = E at C1 h1 hr
    generalize x.shape.length = SA at *
    generalize x.cells.length = CA at *
    go_enter Try.func45, Try.ntmps45
    go_wp2_with fail
    refine C1.mono ?_
    rintro e w1 ⟨rfl, hw⟩
    rw [hw]
    clear hw
    go_wp2
    go_ret
    exact ⟨retI hr.out.symm, HB0.out⟩
theorem within_any (r : Nat) : ∀ (hr : r ≤ 8) (n : Nat) (x : Ar) (lo : Nat) (va : Value) (w : World), ArIn n lo w x va → Calls Try.prog 58 #[va, .int .i64 ((8 - r : Nat) : Int)] w fun e w' => e = .returned (.int .i64 (chkA r x)) ∧ Below w.heap.size w w' := by
  induction r with
  | zero =>
    intro hr n x lo va w hx
    cases n with
    | zero => exact hx.elim
    | succ n => exact checkB_any n 8 (fun _ => 15) ⟨by omega, fun _ => rfl, fun h => absurd h (by omega)⟩ x lo va w hx
  | succ r ih =>
    intro hr n x lo va w hx
    cases n with
    | zero => exact hx.elim
    | succ n =>
      refine checkB_any n (8 - (r + 1)) (chkA r) ⟨by omega, fun h => absurd h (by omega), fun _ => ?_⟩ x lo va w hx
      intro y lo vb w hy
      have := ih (by omega) n y lo vb w hy
      have e : ((8 - r : Nat) : Int) = ((8 - (r + 1) : Nat) : Int) + 1 := by omega
      rw [e] at this
      exact this
theorem rwithin_any (r : Nat) : ∀ (hr : r ≤ 8) (n : Nat) (x : Ar) (lo : Nat) (va : Value) (w : World), ArIn n lo w x va → Calls Try.prog 45 #[va, .int .i64 ((8 - r : Nat) : Int)] w fun e w' => e = .returned (.int .i64 (chkA r x)) ∧ Below w.heap.size w w' := by
  induction r with
  | zero =>
    intro hr n x lo va w hx
    cases n with
    | zero => exact hx.elim
    | succ n => exact rcheckB_any n 8 (fun _ => 15) ⟨by omega, fun _ => rfl, fun h => absurd h (by omega)⟩ x lo va w hx
  | succ r ih =>
    intro hr n x lo va w hx
    cases n with
    | zero => exact hx.elim
    | succ n =>
      refine rcheckB_any n (8 - (r + 1)) (chkA r) ⟨by omega, fun h => absurd h (by omega), fun _ => ?_⟩ x lo va w hx
      intro y lo vb w hy
      have := ih (by omega) n y lo vb w hy
      have e : ((8 - r : Nat) : Int) = ((8 - (r + 1) : Nat) : Int) + 1 := by omega
      rw [e] at this
      exact this
theorem check_any (n : Nat) (x : Ar) (lo : Nat) (va : Value) (w : World) (hx : ArIn n lo w x va) : Calls Try.prog 26 #[va] w fun e w' => e = .returned (.int .i64 (chkA 8 x)) ∧ Below w.heap.size w w' := by
  have C := fun w' hb => within_any 8 (Nat.le_refl _) n x lo va w' (hx.next hb)
  cases n with
  | zero => exact hx.elim
  | succ n =>
    obtain ⟨a1, c1, a2, c2, rfl, -⟩ := hx
    generalize chkA 8 x = r at C
    generalize x.shape.length = SA at *
    generalize x.cells.length = CA at *
    have C1 := C _ (one_alloc w (.cells #[.slice a1 SA c1, .slice a2 CA c2] 25))
    clear C
    go_enter Try.func26, Try.ntmps26
    go_wp2_with fail
    refine C1.mono ?_
    rintro e w1 ⟨rfl, hb1⟩
    go_wp2
    go_ret
    exact ⟨rfl, (one_alloc _ _).trans (hb1.mono (one_alloc _ _).size)⟩
theorem rcheck_any (n : Nat) (x : Ar) (lo : Nat) (va : Value) (w : World) (hx : ArIn n lo w x va) : Calls Try.prog 16 #[va] w fun e w' => e = .returned (.int .i64 (chkA 8 x)) ∧ Below w.heap.size w w' := by
  have C := fun w' hb => rwithin_any 8 (Nat.le_refl _) n x lo va w' (hx.next hb)
  cases n with
  | zero => exact hx.elim
  | succ n =>
    obtain ⟨a1, c1, a2, c2, rfl, -⟩ := hx
    generalize chkA 8 x = r at C
    generalize x.shape.length = SA at *
    generalize x.cells.length = CA at *
    have C1 := C _ (one_alloc w (.cells #[.slice a1 SA c1, .slice a2 CA c2] 25))
    clear C
    go_enter Try.func16, Try.ntmps16
    go_wp2_with fail
    refine C1.mono ?_
    rintro e w1 ⟨rfl, hb1⟩
    go_wp2
    go_ret
    exact ⟨rfl, (one_alloc _ _).trans (hb1.mono (one_alloc _ _).size)⟩
end Go.Proofs.Ytmjncdhahdpplaa
namespace Go.Proofs.Ytmjncdhahdpplaa
open Go.ChangeShapes Go.WideShapes Go.ChangeAt Go.RowKit
set_option linter.unusedVariables false
theorem info33 : (Try.prog.info? 36).map (fun i => (i.zero, i.size, i.bytes)) = some (some (.agg #[.int .i64 0, .int .i64 0, .slice none 0 0]), 3, 40) := by kernel_rfl
theorem make_cells (n : Nat) (h : n ≤ 5864062014805) (w : World) : (Instr.makeSlice 23 (.int .i64 (n : Int)) (.int .i64 (n : Int))).run Try.prog w = .ok (.slice (some ⟨w.heap.size, 0, none⟩) n n) (w.alloc (.cells (madeCells #[.int .i64 0, .int .i64 0, .slice none 0 0] (n * 3)) 36)) := by
  obtain ⟨i, hi, hzz⟩ := Option.map_eq_some_iff.1 info33
  simp only [Prod.mk.injEq] at hzz
  obtain ⟨hz, hs, hb⟩ := hzz
  have hr := run_make (P := Try.prog) w 23 36 i _ Try.underlying23 hi hz .i64 .i64 n n (by omega) (Int.le_refl _) (by rw [hb]; omega) (by omega)
  simp only [Int.toNat_natCast, hs] at hr
  exact hr
/-- What a row of new cells holds. -/
def zero3 (m : Nat) : Value := if m % 3 = 0 then .int .i64 0 else if m % 3 = 1 then .int .i64 0 else .slice none 0 0
theorem rowIs_made3 (w : World) (n : Nat) : (w.alloc (.cells (madeCells #[.int .i64 0, .int .i64 0, .slice none 0 0] n) 36)).rowIs w.heap.size 36 n zero3 := by
  refine ⟨madeCells #[.int .i64 0, .int .i64 0, .slice none 0 0] n, ?_, size_madeCells _ _, fun i hi => ?_⟩
  · show (w.heap.push _)[w.heap.size]? = _
    simp
  · simp only [madeCells, Array.getElem?_map, zero3]
    rw [Array.getElem?_range, if_pos hi]
    simp only [Option.map_some]
    have h3 : i % 3 < 3 := Nat.mod_lt _ (by omega)
    rcases (show i % 3 = 0 ∨ i % 3 = 1 ∨ i % 3 = 2 by omega) with h | h | h <;> simp [h]
/-- A row of cells of memory, as an array's cells. -/
def CellsIn (n lo : Nat) (w : World) (cs : List Ce) (a2 : Option Addr) : Prop :=
  cs = [] ∨ ∃ b off, a2 = some ⟨b, off, none⟩ ∧ lo ≤ b ∧ b < w.heap.size ∧
    ∀ i, i < cs.length → ∃ v0 v1 v2, w.cell? ⟨b, off + i * 3, none⟩ = some v0 ∧ w.cell? ⟨b, off + i * 3 + 1, none⟩ = some v1 ∧ w.cell? ⟨b, off + i * 3 + 2, none⟩ = some v2 ∧ CeIn (ArIn n lo w) lo w (cAt cs i) v0 v1 v2
theorem arIn_mk {n lo : Nat} {w : World} {x : Ar} {a1 a2 : Option Addr} {c1 c2 k1 k2 : Nat} (R : Row lo w a1 x.shape) (hl : x.cells.length ≤ 5864062014805) (hc : CellsIn n lo w x.cells a2) (e1 : x.shape.length = k1) (e2 : x.cells.length = k2) : ArIn (n + 1) lo w x (.agg #[.slice a1 k1 c1, .slice a2 k2 c2]) := by
  subst e1
  subst e2
  exact ⟨a1, c1, a2, c2, rfl, R, hl, hc⟩
def numCs (k : Int) (l : List Int) : List Ce := l.map fun z => (k, z, [])
theorem numCs_len (k : Int) (l : List Int) : (numCs k l).length = l.length := by simp [numCs]
theorem numCs_at (k : Int) (l : List Int) (i : Nat) (hi : i < l.length) : cAt (numCs k l) i = (k, l[i]?.getD 0, []) := by simp [cAt, numCs, hi]
/-- What the row of numbers as cells holds, up to number j. -/
def numF (k : Int) (l : List Int) (j m : Nat) : Value := if m < j * 3 then (if m % 3 = 0 then .int .i64 k else if m % 3 = 1 then .int .i64 (l[m / 3]?.getD 0) else .slice none 0 0) else zero3 m
theorem cellsIn_num {n lo : Nat} {w : World} {b : Nat} (k : Int) (l : List Int) (h : w.rowIs b 36 (l.length * 3) (numF k l l.length)) (hlo : lo ≤ b) : CellsIn n lo w (numCs k l) (some ⟨b, 0, none⟩) := by
  refine Or.inr ⟨b, 0, rfl, hlo, h.lt, ?_⟩
  intro i hi
  rw [numCs_len] at hi
  rw [numCs_at k l i hi]
  have h0 := h.cell (i := i * 3) (by omega)
  have h1 := h.cell (i := i * 3 + 1) (by omega)
  have h2 := h.cell (i := i * 3 + 2) (by omega)
  have f0 : numF k l l.length (i * 3) = .int .i64 k := by
    unfold numF; rw [if_pos (by omega), if_pos (by omega)]
  have f1 : numF k l l.length (i * 3 + 1) = .int .i64 (l[i]?.getD 0) := by
    unfold numF; rw [if_pos (by omega), if_neg (by omega), if_pos (by omega), show (i * 3 + 1) / 3 = i by omega]
  have f2 : numF k l l.length (i * 3 + 2) = .slice none 0 0 := by
    unfold numF; rw [if_pos (by omega), if_neg (by omega), if_neg (by omega)]
  rw [f0] at h0
  rw [f1] at h1
  rw [f2] at h2
  rw [Nat.zero_add]
  exact ⟨_, _, _, h0, h1, h2, rfl, rfl, none, 0, rfl, by simp, Or.inl rfl⟩
theorem numF_step (k : Int) (l : List Int) (j m : Nat) : numF k l (j + 1) m = if m = j * 3 + 2 then .slice none 0 0 else if m = j * 3 + 1 then .int .i64 (l[j]?.getD 0) else if m = j * 3 then .int .i64 k else numF k l j m := by
  unfold numF
  by_cases h2 : m = j * 3 + 2
  · subst h2; rw [if_pos (by omega), if_neg (by omega), if_neg (by omega), if_pos rfl]
  · rw [if_neg h2]
    by_cases h1 : m = j * 3 + 1
    · subst h1; rw [if_pos (by omega), if_neg (by omega), if_pos (by omega), if_pos rfl, show (j * 3 + 1) / 3 = j by omega]
    · rw [if_neg h1]
      by_cases h0 : m = j * 3
      · subst h0; rw [if_pos (by omega), if_pos (by omega), if_pos rfl]
      · rw [if_neg h0]
        by_cases h : m < j * 3
        · rw [if_pos h, if_pos (by omega)]
        · rw [if_neg h, if_neg (by omega)]
set_option maxHeartbeats 1000000 in
theorem cells_any {lo : Nat} (n : Nat) (k : Int) (l : List Int) (a : Option Addr) (cap : Nat) (w : World) (R : Row lo w a l) (hl : l.length ≤ 5864062014805) :
    Calls Try.prog 90 #[.int .i64 k, .slice a l.length cap] w fun e w' => (∃ a2, e = .returned (.slice a2 l.length l.length) ∧ CellsIn n w.heap.size w' (numCs k l) a2) ∧ Below w.heap.size w w' := by
  have hrow := @row_at _ _ _ _ R
  have mk := make_cells l.length hl
  have RM := hide (rowIs_made3 w (l.length * 3))
  have BM := hide (one_alloc w (.cells (madeCells #[.int .i64 0, .int .i64 0, .slice none 0 0] (l.length * 3)) 36))
  clear R
  go_enter Try.func90, Try.ntmps90
  go_wp2
  clear mk
  go_loopw [13] (fun i wr => ∃ j : Nat, j ≤ l.length ∧ i = .int .i64 (j : Int) ∧ Below w.heap.size w wr ∧ wr.rowIs w.heap.size 36 (l.length * 3) (numF k l j)) (fun i _ => l.length - (intOf i).toNat)
  case atStart =>
    refine ⟨0, Nat.zero_le _, rfl, BM.out, World.rowIs.congr RM.out ?_⟩
    intro i hi
    simp [numF]
  case round =>
    clear BM RM
    obtain ⟨j, hj, rfl, hnx, hr⟩ := hrel
    by_cases hlt : j < l.length
    · obtain ⟨b, off, ha, hb, hck⟩ := hrow hlt
      subst ha
      have hc1 : wr.cell? ⟨b, off + j, none⟩ = some (.int .i64 (l[j]?.getD 0)) := (hnx.cell (p := ⟨b, off + j, none⟩) hb).trans hck
      have z0 := hr.cell (i := j * 3) (by omega)
      have z1 := hr.cell (i := j * 3 + 1) (by omega)
      have z2 := hr.cell (i := j * 3 + 2) (by omega)
      have y0 := hr.frozen (j * 3)
      have y1 := hr.frozen (j * 3 + 1)
      have y2 := hr.frozen (j * 3 + 2)
      have HS := hide ((((hr.set (j * 3) (.int .i64 k)).set (j * 3 + 1) (.int .i64 (l[j]?.getD 0))).set (j * 3 + 2) (.slice none 0 0)).congr (g := numF k l (j + 1)) (fun i _ => (numF_step k l j i).symm))
      have HB := hide (((hnx.setCell (p := ⟨w.heap.size, j * 3, none⟩) (Nat.le_refl _) (.int .i64 k)).setCell (p := ⟨w.heap.size, j * 3 + 1, none⟩) (Nat.le_refl _) (.int .i64 (l[j]?.getD 0))).setCell (p := ⟨w.heap.size, j * 3 + 2, none⟩) (Nat.le_refl _) (.slice none 0 0))
      generalize l[j]?.getD 0 = z at *
      clear hr hrow hck
      go_wp2
      go_roundw
      case rel => exact ⟨j + 1, by omega, by go_num, HB.out, HS.out⟩
      case measure => simp [intOf]; omega
    · have hje : j = l.length := by omega
      subst hje
      have F := hide (cellsIn_num (n := n) k l hr (Nat.le_refl _))
      clear hr hrow
      go_wp2
      go_ret
      exact ⟨⟨_, rfl, F.out⟩, hnx⟩
/-- A call that hands back an array in memory of its own. -/
def GivesA (n : Nat) (x : Ar) (w : World) (e : Ending) (w' : World) : Prop := (∃ v, e = .returned v ∧ ArIn n w.heap.size w' x v) ∧ Below w.heap.size w w'
def numsA (l : List Int) : Ar := .mk [(l.length : Int)] (numCs 0 l)
def atomA (z : Int) : Ar := .mk [] (numCs 0 [z])
def textA (l : List Int) : Ar := if l.length = 1 then .mk [] (numCs 1 l) else .mk [(l.length : Int)] (numCs 1 l)
theorem row_one {lo : Nat} {w : World} {b : Nat} {z : Int} (hb : b < w.heap.size) (hlo : lo ≤ b) (h : w.cell? ⟨b, 0, none⟩ = some (.int .i64 z)) : Row lo w (some ⟨b, 0, none⟩) [z] := by
  refine ⟨by simp, Or.inr ⟨b, 0, rfl, hlo, hb, ?_⟩⟩
  intro i hi
  have : i = 0 := by simpa using hi
  subst this
  simpa using h
theorem CeIn.low {P Q : Ar → Value → Prop} {lo lo' : Nat} {w : World} {c : Ce} {v0 v1 v2 : Value} (h : CeIn P lo w c v0 v1 v2) (hl : lo' ≤ lo) (hPQ : ∀ x v, P x v → Q x v) : CeIn Q lo' w c v0 v1 v2 := h.mono hl (Below.refl _ _) hPQ
theorem CellsIn.mono {n lo lo' : Nat} {w w' : World} {cs : List Ce} {a2 : Option Addr} (h : CellsIn n lo w cs a2) (hl : lo' ≤ lo) (hb : Below w.heap.size w w') : CellsIn n lo' w' cs a2 := by
  rcases h with hc | ⟨b, off, ha, hlo, hbb, hc⟩
  · exact Or.inl hc
  · refine Or.inr ⟨b, off, ha, Nat.le_trans hl hlo, Nat.lt_of_lt_of_le hbb hb.size, fun i hi => ?_⟩
    obtain ⟨v0, v1, v2, e0, e1, e2, e3⟩ := hc i hi
    exact ⟨v0, v1, v2, (hb.cell (p := ⟨b, off + i * 3, none⟩) hbb).trans e0, (hb.cell (p := ⟨b, off + i * 3 + 1, none⟩) hbb).trans e1, (hb.cell (p := ⟨b, off + i * 3 + 2, none⟩) hbb).trans e2, e3.mono hl hb fun x v h => h.mono hl hb⟩
/-- From block lo on all is as it was. -/
def Keeps (lo : Nat) (w w' : World) : Prop := w.heap.size ≤ w'.heap.size ∧ ∀ b, lo ≤ b → b < w.heap.size → w'.heap[b]? = w.heap[b]?
theorem Keeps.refl (lo : Nat) (w : World) : Keeps lo w w := ⟨Nat.le_refl _, fun _ _ _ => rfl⟩
theorem Keeps.setCell {lo : Nat} {w w' : World} (h : Keeps lo w w') {p : Addr} (hp : p.block < lo) (v : Value) : Keeps lo w (w'.setCell p v) := by
  refine ⟨?_, fun b h1 h2 => ?_⟩
  · have : (w'.setCell p v).heap.size = w'.heap.size := by simp
    rw [this]; exact h.1
  · rw [Below.heap_setCell w' p v b (by omega)]
    exact h.2 b h1 h2
theorem Keeps.cell {lo : Nat} {w w' : World} (h : Keeps lo w w') {p : Addr} (h1 : lo ≤ p.block) (h2 : p.block < w.heap.size) : w'.cell? p = w.cell? p := World.cell?_of_block (w := w) (h.2 p.block h1 h2)
theorem Row.keeps {lo : Nat} {w w' : World} {a : Option Addr} {zs : List Int} (h : Row lo w a zs) (hk : Keeps lo w w') : Row lo w' a zs := by
  obtain ⟨h2, h3⟩ := h
  refine ⟨h2, ?_⟩
  rcases h3 with h3 | ⟨b, off, ha, hlo, hbb, hc⟩
  · exact Or.inl h3
  · exact Or.inr ⟨b, off, ha, hlo, Nat.lt_of_lt_of_le hbb hk.1, fun i hi => (hk.cell (p := ⟨b, off + i, none⟩) hlo hbb).trans (hc i hi)⟩
theorem CeIn.keeps {P Q : Ar → Value → Prop} {lo : Nat} {w w' : World} {c : Ce} {v0 v1 v2 : Value} (h : CeIn P lo w c v0 v1 v2) (hk : Keeps lo w w') (hPQ : ∀ x v, P x v → Q x v) : CeIn Q lo w' c v0 v1 v2 := by
  obtain ⟨h0, h1, a, cap, h2, h3, h4⟩ := h
  refine ⟨h0, h1, a, cap, h2, h3, ?_⟩
  rcases h4 with h4 | ⟨b, off, ha, hlo, hbb, hc⟩
  · exact Or.inl h4
  · refine Or.inr ⟨b, off, ha, hlo, Nat.lt_of_lt_of_le hbb hk.1, fun j hj => ?_⟩
    obtain ⟨u0, u1, e0, e1, e2⟩ := hc j hj
    exact ⟨u0, u1, (hk.cell (p := ⟨b, off + j * 2, none⟩) hlo hbb).trans e0, (hk.cell (p := ⟨b, off + j * 2 + 1, none⟩) hlo hbb).trans e1, hPQ _ _ e2⟩
theorem ArIn.keeps {n lo : Nat} {w w' : World} {x : Ar} {v : Value} (h : ArIn n lo w x v) (hk : Keeps lo w w') : ArIn n lo w' x v := by
  induction n generalizing x v with
  | zero => exact h.elim
  | succ n ih =>
    obtain ⟨a1, c1, a2, c2, hv, hR, hlen, hc⟩ := h
    refine ⟨a1, c1, a2, c2, hv, hR.keeps hk, hlen, ?_⟩
    rcases hc with hc | ⟨b, off, ha, hlo, hbb, hc⟩
    · exact Or.inl hc
    · refine Or.inr ⟨b, off, ha, hlo, Nat.lt_of_lt_of_le hbb hk.1, fun i hi => ?_⟩
      obtain ⟨v0, v1, v2, e0, e1, e2, e3⟩ := hc i hi
      exact ⟨v0, v1, v2, (hk.cell (p := ⟨b, off + i * 3, none⟩) hlo hbb).trans e0, (hk.cell (p := ⟨b, off + i * 3 + 1, none⟩) hlo hbb).trans e1, (hk.cell (p := ⟨b, off + i * 3 + 2, none⟩) hlo hbb).trans e2, e3.keeps hk fun x v h => ih h⟩
theorem CellsIn.keeps {n lo : Nat} {w w' : World} {cs : List Ce} {a2 : Option Addr} (h : CellsIn n lo w cs a2) (hk : Keeps lo w w') : CellsIn n lo w' cs a2 := by
  rcases h with hc | ⟨b, off, ha, hlo, hbb, hc⟩
  · exact Or.inl hc
  · refine Or.inr ⟨b, off, ha, hlo, Nat.lt_of_lt_of_le hbb hk.1, fun i hi => ?_⟩
    obtain ⟨v0, v1, v2, e0, e1, e2, e3⟩ := hc i hi
    exact ⟨v0, v1, v2, (hk.cell (p := ⟨b, off + i * 3, none⟩) hlo hbb).trans e0, (hk.cell (p := ⟨b, off + i * 3 + 1, none⟩) hlo hbb).trans e1, (hk.cell (p := ⟨b, off + i * 3 + 2, none⟩) hlo hbb).trans e2, e3.keeps hk fun x v h => h.keeps hk⟩
theorem frozen_new (w : World) (cs : Array Value) (t : TypeId) (i : Nat) : (w.alloc (.cells cs t)).frozen? ⟨w.heap.size, i, none⟩ = false := by
  have : (w.alloc (.cells cs t)).heap[w.heap.size]? = some (.cells cs t) := by
    show (w.heap.push _)[w.heap.size]? = _
    simp
  unfold World.frozen?
  simp only [this]
  simp
/-- Two cells of memory, stored into: they hold what was stored. -/
theorem set_two {w : World} {s : Nat} {u v : Value} (h0 : w.cell? ⟨s, 0, none⟩ = some u) (h1 : w.cell? ⟨s, 1, none⟩ = some v) (x y : Value) : (w.setCell ⟨s, 0, none⟩ x).cell? ⟨s, 0, none⟩ = some x ∧ ((w.setCell ⟨s, 0, none⟩ x).setCell ⟨s, 1, none⟩ y).cell? ⟨s, 1, none⟩ = some y := by
  refine ⟨World.cell?_setCell_same' _ _ _ (by rw [h0]; rfl), World.cell?_setCell_same' _ _ _ ?_⟩
  rw [World.cell?_setCell_other _ _ _ _ (by simp), h1]
  rfl
set_option maxHeartbeats 1000000 in
theorem nums_any {lo : Nat} (n : Nat) (l : List Int) (a : Option Addr) (cap : Nat) (w : World) (R : Row lo w a l) (hl : l.length ≤ 5864062014805) :
    Calls Try.prog 59 #[.slice a l.length cap] w fun e w' => GivesA (n + 1) (numsA l) w e w' := by
  have B1 : Below w.heap.size w ((w.alloc (.cells #[.slice none 0 0, .slice none 0 0] 25)).alloc (.cells #[.int .i64 (l.length : Int)] 3)) := two_allocs _ _ _
  have C := cells_any n 0 l a cap _ (R.next B1) hl
  have HB1 := hide B1
  have c0 := cell_new2 w #[.int .i64 (l.length : Int)] 3 (0, 0) (.cells #[.slice none 0 0, .slice none 0 0] 25) 0 _ rfl
  have HC0 := hide c0
  have c1 := cell_new1 w #[.slice none 0 0, .slice none 0 0] 25 (0, 0) (.cells #[.int .i64 (l.length : Int)] 3) 0 _ rfl
  have c2 := cell_new1 w #[.slice none 0 0, .slice none 0 0] 25 (0, 0) (.cells #[.int .i64 (l.length : Int)] 3) 1 _ rfl
  have f1 : ∀ i, ((w.alloc (.cells #[.slice none 0 0, .slice none 0 0] 25)).alloc (.cells #[.int .i64 (l.length : Int)] 3)).frozen? ⟨w.heap.size, i, none⟩ = false := fun i =>
    (((Below.refl _ _).alloc (Nat.le_refl _) _).frozen (p := ⟨w.heap.size, i, none⟩) (by simp)).trans (frozen_new w _ 25 i)
  have HC1 := hide (And.intro c1 (And.intro c2 f1))
  clear B1 c0 R c1 c2 f1
  go_enter Try.func59, Try.ntmps59
  go_wp2_with fail
  refine C.mono ?_
  rintro e w1 ⟨⟨a2, rfl, hcs⟩, hb1⟩
  have sz := hb1.size
  rw [size_two] at sz
  have d1 := (hb1.cell (p := ⟨w.heap.size, 0, none⟩) (by rw [size_two]; show w.heap.size < _; omega)).trans HC1.out.1
  have d2 := (hb1.cell (p := ⟨w.heap.size, 1, none⟩) (by rw [size_two]; show w.heap.size < _; omega)).trans HC1.out.2.1
  have d3 : w1.frozen? ⟨w.heap.size, 0, none⟩ = false := (hb1.frozen (p := ⟨w.heap.size, 0, none⟩) (by rw [size_two]; show w.heap.size < _; omega)).trans (HC1.out.2.2 0)
  have d4 : w1.frozen? ⟨w.heap.size, 1, none⟩ = false := (hb1.frozen (p := ⟨w.heap.size, 1, none⟩) (by rw [size_two]; show w.heap.size < _; omega)).trans (HC1.out.2.2 1)
  have d5 := (hb1.cell (p := ⟨w.heap.size + 1, 0, none⟩) (by rw [size_two]; show w.heap.size + 1 < _; omega)).trans HC0.out
  have HB2 : Hid (Below w.heap.size w w1) := HB1.out.trans (hb1.mono (by rw [size_two]; omega))
  have HF : Hid (∀ x y, ArIn (n + 1) w.heap.size ((w1.setCell ⟨w.heap.size, 0, none⟩ x).setCell ⟨w.heap.size, 1, none⟩ y) (numsA l) (.agg #[.slice (some ⟨w.heap.size + 1, 0, none⟩) 1 1, .slice a2 l.length l.length])) := by
    intro x y
    have hk : Keeps (w.heap.size + 1) w1 ((w1.setCell ⟨w.heap.size, 0, none⟩ x).setCell ⟨w.heap.size, 1, none⟩ y) := ((Keeps.refl _ _).setCell (p := ⟨w.heap.size, 0, none⟩) (by show w.heap.size < _; omega) x).setCell (p := ⟨w.heap.size, 1, none⟩) (by show w.heap.size < _; omega) y
    refine arIn_mk (x := numsA l) ?_ (by simpa [numsA, Ar.cells, numCs_len] using hl) ?_ rfl (numCs_len 0 l)
    · exact ((row_one (lo := w.heap.size + 1) (b := w.heap.size + 1) (by omega) (Nat.le_refl _) d5).keeps hk).low (by omega)
    · rw [size_two] at hcs
      exact ((hcs.mono (lo' := w.heap.size + 1) (by omega) (Below.refl _ _)).keeps hk).mono (by omega) (Below.refl _ _)
  have t := set_two d1 d2 (.slice (some ⟨w.heap.size + 1, 0, none⟩) 1 1) (.slice a2 l.length l.length)
  have HT := hide t
  clear C hcs HC0 HC1 HB1 hb1 d5 sz t
  go_wp2
  exact bodyPost_ret (v := .agg #[.slice (some ⟨w.heap.size + 1, 0, none⟩) 1 1, .slice a2 l.length l.length]) (by simp [results, Try.results59, go_sem, HT.out.1, HT.out.2]) rfl ⟨⟨_, rfl, HF.out _ _⟩, (HB2.out.setCell (p := ⟨w.heap.size, 0, none⟩) (Nat.le_refl _) _).setCell (p := ⟨w.heap.size, 1, none⟩) (Nat.le_refl _) _⟩
end Go.Proofs.Ytmjncdhahdpplaa
namespace Go.Proofs.Ytmjncdhahdpplaa
open Go.ChangeShapes Go.WideShapes Go.ChangeAt Go.RowKit
set_option linter.unusedVariables false
theorem row_nil (lo : Nat) (w : World) (a : Option Addr) : Row lo w a [] := ⟨by simp, Or.inl rfl⟩
theorem row_new (w : World) (zs : List Int) (e : TypeId) (m : Nat × Nat) (hz : zs.length ≤ 140737488355328) : Row w.heap.size (w.alloc (.cells (zs.map (Value.int .i64)).toArray e m)) (some ⟨w.heap.size, 0, none⟩) zs := by
  refine ⟨hz, Or.inr ⟨_, _, rfl, Nat.le_refl _, by simp, ?_⟩⟩
  intro i hi
  refine cell_new w _ e m (0 + i) _ ?_
  simp [List.getElem?_eq_getElem hi]
theorem atom_cells (n : Nat) (z : Int) (w : World) (o : Obj) : ArIn (n + 1) w.heap.size ((w.alloc o).alloc (.cells #[.int .i64 0, .int .i64 z, .slice none 0 0] 36)) (atomA z) (.agg #[.slice none 0 0, .slice (some ⟨w.heap.size + 1, 0, none⟩) 1 1]) := by
  refine arIn_mk (x := atomA z) (row_nil _ _ _) (by simp [atomA, Ar.cells, numCs]) ?_ rfl (by simp [atomA, Ar.cells, numCs])
  refine Or.inr ⟨w.heap.size + 1, 0, rfl, by omega, by simp, ?_⟩
  intro i hi
  have : i = 0 := by simpa [atomA, Ar.cells, numCs] using hi
  subst this
  refine ⟨_, _, _, cell_new2 w #[.int .i64 0, .int .i64 z, .slice none 0 0] 36 (0, 0) o 0 _ rfl, cell_new2 w #[.int .i64 0, .int .i64 z, .slice none 0 0] 36 (0, 0) o 1 _ rfl, cell_new2 w #[.int .i64 0, .int .i64 z, .slice none 0 0] 36 (0, 0) o 2 _ rfl, rfl, rfl, none, 0, rfl, by simp [atomA, Ar.cells, numCs, cAt], Or.inl rfl⟩
set_option maxHeartbeats 1000000 in
theorem atom_any (n : Nat) (z : Int) (w : World) : Calls Try.prog 28 #[.int .i64 z] w fun e w' => GivesA (n + 1) (atomA z) w e w' := by
  go_enter Try.func28, Try.ntmps28
  go_wp2
  exact bodyPost_ret (v := .agg #[.slice none 0 0, .slice (some ⟨w.heap.size + 1, 0, none⟩) 1 1]) (by simp [results, Try.results28, go_sem]) rfl ⟨⟨_, rfl, atom_cells n z w _⟩, two_allocs _ _ _⟩
set_option maxHeartbeats 1000000 in
theorem ratom_any (n : Nat) (z : Int) (w : World) : Calls Try.prog 22 #[.int .i64 z] w fun e w' => GivesA (n + 1) (atomA z) w e w' := by
  go_enter Try.func22, Try.ntmps22
  go_wp2
  exact bodyPost_ret (v := .agg #[.slice none 0 0, .slice (some ⟨w.heap.size + 1, 0, none⟩) 1 1]) (by simp [results, Try.results22, go_sem]) rfl ⟨⟨_, rfl, atom_cells n z w _⟩, two_allocs _ _ _⟩
theorem size_at (l : List Int) (k : Nat) (hk : l.length = k) (s e : Int) (hs : sizeV l = s) (he : sizeE l = e) {lo : Nat} (a : Option Addr) (cap : Nat) (w : World) (R : Row lo w a l) :
    Calls Try.prog 56 #[.slice a k cap] w fun e' w' => e' = .returned (.tuple #[.int .i64 s, .int .i64 e]) ∧ w' = w := by
  subst hk hs he
  exact size_any l a cap w R
theorem nums_at (n : Nat) (l : List Int) (k : Nat) (hk : l.length = k) {lo : Nat} (a : Option Addr) (cap : Nat) (w : World) (R : Row lo w a l) (hl : l.length ≤ 5864062014805) :
    Calls Try.prog 59 #[.slice a k cap] w fun e w' => GivesA (n + 1) (numsA l) w e w' := by
  subst hk
  exact nums_any n l a cap w R hl
theorem plc_works : plcV [2, 3] [1, 2] = 5 ∧ plcE [2, 3] [1, 2] = 0 := by
  have h : inAxes [2, 3] [1, 2] := by simp [inAxes]
  have s : sizeE [2, 3] = 0 := by decide
  refine ⟨?_, by simp [plcE, s, h]⟩
  unfold plcV
  rw [if_pos ⟨s, h⟩]
  rfl
theorem chk_works : chkA 8 (numsA [1, 2]) = 0 := by
  have h1 : sizeE [2] = 0 := by decide
  have h2 : sizeV [2] = 2 := by decide
  have h3 : ¬ hasLong [2] := by decide
  simp [chkA, chkB, numsA, Ar.shape, Ar.cells, numCs, h1, h2, h3, firstUp, chkF, chkC, cAt]
theorem chk_works2 : chkA 8 (.mk [3] []) = 1 := by
  have h1 : sizeE [3] = 0 := by decide
  have h2 : sizeV [3] = 3 := by decide
  simp [chkA, chkB, Ar.shape, Ar.cells, h1, h2]
theorem cmp_works : cmpA 1 (numsA [1, 2]) (atomA 5) = 1 := by
  simp [cmpA, numsA, atomA, Ar.shape, cmp3]
end Go.Proofs.Ytmjncdhahdpplaa
namespace Go.Proofs.Ytmjncdhahdpplaa
open Go.ChangeShapes Go.WideShapes Go.ChangeAt Go.RowKit
set_option linter.unusedVariables false
/-- A new block that may be written. -/
def softO : Obj → Prop
  | .cells _ _ f => f = (0, 0)
  | _ => True
def Fz (w w' : World) : Prop := w.heap.size ≤ w'.heap.size ∧ (∀ p : Addr, p.block < w.heap.size → w'.frozen? p = w.frozen? p) ∧ ∀ p : Addr, w.heap.size ≤ p.block → w'.frozen? p = false
theorem frozen_end {w : World} {p : Addr} (h : w.heap.size ≤ p.block) : w.frozen? p = false := by
  unfold World.frozen?
  rw [Array.getElem?_eq_none h]
theorem Fz.refl (w : World) : Fz w w := ⟨Nat.le_refl _, fun _ _ => rfl, fun _ h => frozen_end h⟩
theorem Fz.trans {a b c : World} (h : Fz a b) (k : Fz b c) : Fz a c := by
  refine ⟨Nat.le_trans h.1 k.1, fun p hp => (k.2.1 p (Nat.lt_of_lt_of_le hp h.1)).trans (h.2.1 p hp), fun p hp => ?_⟩
  by_cases hb : p.block < b.heap.size
  · exact (k.2.1 p hb).trans (h.2.2 p hp)
  · exact k.2.2 p (by omega)
theorem Fz.setCell (w : World) (q : Addr) (v : Value) : Fz w (w.setCell q v) := ⟨by simp, fun p _ => by simp, fun p hp => by simpa using frozen_end hp⟩
theorem Fz.alloc (w : World) (o : Obj) (ho : softO o) : Fz w (w.alloc o) := by
  refine ⟨by simp, fun p hp => World.frozen?_of_block (w := w) (Below.heap_alloc w o _ hp), fun p hp => ?_⟩
  unfold World.frozen?
  have e : (w.alloc o).heap[p.block]? = if p.block = w.heap.size then some o else w.heap[p.block]? := by
    show (w.heap.push o)[p.block]? = _
    rw [Array.getElem?_push]
  rw [e]
  by_cases h : p.block = w.heap.size
  · rw [if_pos h]
    cases o with
    | cells c t f => have : f = (0, 0) := ho; subst this; simp
    | _ => rfl
  · rw [if_neg h, Array.getElem?_eq_none hp]
structure BelowS (B : Nat) (w w' : World) : Prop where
  b : Below B w w'
  z : Fz w w'
instance {B : Nat} {w w' : World} : Coe (BelowS B w w') (Below B w w') := ⟨BelowS.b⟩
namespace BelowS
variable {B B' : Nat} {a b c w w' : World}
theorem refl (B : Nat) (w : World) : BelowS B w w := ⟨Below.refl _ _, Fz.refl _⟩
theorem trans (h : BelowS B a b) (k : BelowS B b c) : BelowS B a c := ⟨h.b.trans k.b, h.z.trans k.z⟩
theorem mono (h : BelowS B w w') (hB : B' ≤ B) : BelowS B' w w' := ⟨h.b.mono hB, h.z⟩
theorem drew (h : BelowS B a w) : BelowS B a w.drew := ⟨h.b.drew, h.z⟩
theorem heap_setCell (w : World) (a : Addr) (u : Value) (k : Nat) (h : k ≠ a.block) : (w.setCell a u).heap[k]? = w.heap[k]? := Below.heap_setCell w a u k h
theorem alloc (h : BelowS B a w) (hB : B ≤ w.heap.size) (o : Obj) (ho : softO o := by exact rfl) : BelowS B a (w.alloc o) := ⟨h.b.alloc hB o, h.z.trans (Fz.alloc w o ho)⟩
theorem setCell (h : BelowS B a w) {p : Addr} (hp : B ≤ p.block) (u : Value) : BelowS B a (w.setCell p u) := ⟨h.b.setCell hp u, h.z.trans (Fz.setCell w p u)⟩
theorem size (h : BelowS B w w') : w.heap.size ≤ w'.heap.size := h.b.size
theorem block (h : BelowS B w w') : ∀ k, k < B → w'.heap[k]? = w.heap[k]? := h.b.block
theorem cell (h : BelowS B w w') {p : Addr} (hp : p.block < B) : w'.cell? p = w.cell? p := h.b.cell hp
theorem frozen (h : BelowS B w w') {p : Addr} (hp : p.block < B) : w'.frozen? p = w.frozen? p := h.b.frozen hp
end BelowS
theorem two_allocsS (w : World) (o1 o2 : Obj) (h1 : softO o1 := by exact rfl) (h2 : softO o2 := by exact rfl) : BelowS w.heap.size w ((w.alloc o1).alloc o2) := ((BelowS.refl _ _).alloc (Nat.le_refl _) _ h1).alloc (by simp) _ h2
theorem one_allocS (w : World) (o : Obj) (h1 : softO o := by exact rfl) : BelowS w.heap.size w (w.alloc o) := (BelowS.refl _ _).alloc (Nat.le_refl _) _ h1
/-- The same array, in memory of the call's own that may be written. -/
def GivesS (n : Nat) (x : Ar) (w : World) (e : Ending) (w' : World) : Prop := (∃ v, e = .returned v ∧ ArIn n w.heap.size w' x v) ∧ BelowS w.heap.size w w'
end Go.Proofs.Ytmjncdhahdpplaa
namespace Go.Proofs.Ytmjncdhahdpplaa
open Go.ChangeShapes Go.WideShapes Go.ChangeAt Go.RowKit
set_option linter.unusedVariables false
theorem info25 : (Try.prog.info? 25).map (fun i => (i.zero, i.size, i.bytes)) = some (some (.agg #[.slice none 0 0, .slice none 0 0]), 2, 48) := by kernel_rfl
theorem make_one (w : World) : (Instr.makeSlice 34 (.int .i64 1) (.int .i64 1)).run Try.prog w = .ok (.slice (some ⟨w.heap.size, 0, none⟩) 1 1) (w.alloc (.cells #[.slice none 0 0, .slice none 0 0] 25)) := by
  obtain ⟨i, hi, hzz⟩ := Option.map_eq_some_iff.1 info25
  simp only [Prod.mk.injEq] at hzz
  obtain ⟨hz, hs, hb⟩ := hzz
  have hr := run_make (P := Try.prog) w 34 25 i _ Try.underlying34 hi hz .i64 .i64 1 1 (by omega) (Int.le_refl _) (by rw [hb]; omega) (by omega)
  simp only [hs] at hr
  rw [hr]
  have e : madeCells (Value.agg #[.slice none 0 0, .slice none 0 0]).cells ((1 : Int).toNat * 2) = #[.slice none 0 0, .slice none 0 0] := by
    apply Array.ext
    · simp [madeCells]
    · intro i h1 h2
      have : i = 0 ∨ i = 1 := by simp at h2; omega
      rcases this with rfl | rfl <;> simp [madeCells, Value.cells]
  rw [e]
  rfl
/-- What the copy of a cell hands back. -/
def GivesC (n : Nat) (c : Ce) (w : World) (e : Ending) (w' : World) : Prop := (∃ a cap, e = .returned (.agg #[.int .i64 c.1, .int .i64 c.2.1, .slice a c.2.2.length cap]) ∧ CeIn (ArIn n w.heap.size w') w.heap.size w' c (.int .i64 c.1) (.int .i64 c.2.1) (.slice a c.2.2.length cap)) ∧ BelowS w.heap.size w w'
set_option maxHeartbeats 2000000 in
theorem copyCell_none (n : Nat) (k N : Int) (ab : Option Addr) (cb : Nat) (w : World) :
    Calls Try.prog 60 #[.agg #[.int .i64 k, .int .i64 N, .slice ab 0 cb]] w fun e w' => GivesC n (k, N, []) w e w' := by
  go_enter Try.func60, Try.ntmps60
  go_wp2
  refine bodyPost_ret (v := .agg #[.int .i64 k, .int .i64 N, .slice none 0 0]) (by simp [results, Try.results60, go_sem]) rfl ⟨⟨none, 0, rfl, rfl, rfl, none, 0, rfl, by simp, Or.inl rfl⟩, ?_⟩
  exact (two_allocsS _ _ _).trans ((one_allocS _ _).mono (by simp; omega))
set_option maxHeartbeats 4000000 in
theorem copyCell_one (n : Nat) (k N : Int) (y : Ar) (bb ob cb : Nat) (u0 u1 : Value) (lo : Nat) (w : World) (hb : bb < w.heap.size) (g0 : w.cell? ⟨bb, ob, none⟩ = some u0) (g1 : w.cell? ⟨bb, ob + 1, none⟩ = some u1) (hy : ArIn n lo w y (.agg #[u0, u1]))
    (IH : ∀ lo vb w, ArIn n lo w y vb → Calls Try.prog 30 #[vb] w fun e w' => GivesS n y w e w') :
    Calls Try.prog 60 #[.agg #[.int .i64 k, .int .i64 N, .slice (some ⟨bb, ob, none⟩) 1 cb]] w fun e w' => GivesC n (k, N, [y]) w e w' := by
  cases n with
  | zero => exact hy.elim
  | succ n =>
  have hy' := hy
  obtain ⟨a1, k1, a2, k2, hv, -⟩ := hy'
  simp only [Value.agg.injEq, Array.mk.injEq, List.cons.injEq, and_true] at hv
  obtain ⟨rfl, rfl⟩ := hv
  generalize hSA : y.shape.length = SA at *
  generalize hCA : y.cells.length = CA at *
  have mk := make_one
  obtain ⟨W4, e4⟩ : ∃ W4, W4 = (((w.alloc (.cells #[.int .i64 k, .int .i64 N, .slice (some ⟨bb, ob, none⟩) 1 cb] 36)).alloc (.cells #[.int .i64 0, .int .i64 0, .slice none 0 0] 36)).alloc (.cells #[.int .i64 k, .int .i64 N, .slice (some ⟨w.heap.size + 1 + 1 + 1, 0, none⟩) 1 1] 36)).alloc (.cells #[.slice none 0 0, .slice none 0 0] 25) := ⟨_, rfl⟩
  have B4 : BelowS w.heap.size w W4 := by rw [e4]; exact (two_allocsS _ _ _).trans ((two_allocsS _ _ _).mono (by simp; omega))
  have s4 : W4.heap.size = w.heap.size + 4 := by rw [e4]; simp
  have s2 := size_two w (.cells #[.int .i64 k, .int .i64 N, .slice (some ⟨bb, ob, none⟩) 1 cb] 36) (.cells #[.int .i64 0, .int .i64 0, .slice none 0 0] 36)
  have r0 : ∀ i v, #[Value.int .i64 0, .int .i64 0, .slice none 0 0][i]? = some v → W4.cell? ⟨w.heap.size + 1, i, none⟩ = some v := by
    intro i v hi
    rw [e4]
    exact ((two_allocsS _ _ _).cell (p := ⟨w.heap.size + 1, i, none⟩) (by rw [s2]; show w.heap.size + 1 < _; omega)).trans (cell_new2 w _ 36 (0, 0) _ i v hi)
  have r1 : ∀ i v, #[Value.int .i64 k, .int .i64 N, .slice (some ⟨w.heap.size + 1 + 1 + 1, 0, none⟩) 1 1][i]? = some v → W4.cell? ⟨w.heap.size + 1 + 1, i, none⟩ = some v := by
    intro i v hi
    rw [e4]
    have := cell_new1 ((w.alloc (.cells #[.int .i64 k, .int .i64 N, .slice (some ⟨bb, ob, none⟩) 1 cb] 36)).alloc (.cells #[.int .i64 0, .int .i64 0, .slice none 0 0] 36)) #[Value.int .i64 k, .int .i64 N, .slice (some ⟨w.heap.size + 1 + 1 + 1, 0, none⟩) 1 1] 36 (0, 0) (.cells #[.slice none 0 0, .slice none 0 0] 25) i v hi
    rw [s2] at this
    exact this
  have r2 : ∀ i v, #[Value.slice none 0 0, .slice none 0 0][i]? = some v → W4.cell? ⟨w.heap.size + 1 + 1 + 1, i, none⟩ = some v := by
    intro i v hi
    rw [e4]
    have := cell_new2 ((w.alloc (.cells #[.int .i64 k, .int .i64 N, .slice (some ⟨bb, ob, none⟩) 1 cb] 36)).alloc (.cells #[.int .i64 0, .int .i64 0, .slice none 0 0] 36)) #[Value.slice none 0 0, .slice none 0 0] 25 (0, 0) (.cells #[.int .i64 k, .int .i64 N, .slice (some ⟨w.heap.size + 1 + 1 + 1, 0, none⟩) 1 1] 36) i v hi
    rw [s2] at this
    exact this
  have f0 : ∀ i, W4.frozen? ⟨w.heap.size + 1, i, none⟩ = false := by
    intro i
    rw [e4]
    have := frozen_new (w.alloc (.cells #[.int .i64 k, .int .i64 N, .slice (some ⟨bb, ob, none⟩) 1 cb] 36)) #[.int .i64 0, .int .i64 0, .slice none 0 0] 36 i
    have s1 : (w.alloc (.cells #[.int .i64 k, .int .i64 N, .slice (some ⟨bb, ob, none⟩) 1 cb] 36)).heap.size = w.heap.size + 1 := by simp
    rw [s1] at this
    exact ((two_allocsS _ _ _).frozen (p := ⟨w.heap.size + 1, i, none⟩) (by rw [s2]; show w.heap.size + 1 < _; omega)).trans this
  have f2 : ∀ i, W4.frozen? ⟨w.heap.size + 1 + 1 + 1, i, none⟩ = false := by
    intro i
    rw [e4]
    have := frozen_new (((w.alloc (.cells #[.int .i64 k, .int .i64 N, .slice (some ⟨bb, ob, none⟩) 1 cb] 36)).alloc (.cells #[.int .i64 0, .int .i64 0, .slice none 0 0] 36)).alloc (.cells #[.int .i64 k, .int .i64 N, .slice (some ⟨w.heap.size + 1 + 1 + 1, 0, none⟩) 1 1] 36)) #[.slice none 0 0, .slice none 0 0] 25 i
    have s3 : (((w.alloc (.cells #[.int .i64 k, .int .i64 N, .slice (some ⟨bb, ob, none⟩) 1 cb] 36)).alloc (.cells #[.int .i64 0, .int .i64 0, .slice none 0 0] 36)).alloc (.cells #[.int .i64 k, .int .i64 N, .slice (some ⟨w.heap.size + 1 + 1 + 1, 0, none⟩) 1 1] 36)).heap.size = w.heap.size + 1 + 1 + 1 := by simp
    rw [s3] at this
    exact this
  have h0 : W4.cell? ⟨bb, ob, none⟩ = some (.slice a1 SA k1) := (B4.cell (p := ⟨bb, ob, none⟩) hb).trans g0
  have h1 : W4.cell? ⟨bb, ob + 1, none⟩ = some (.slice a2 CA k2) := (B4.cell (p := ⟨bb, ob + 1, none⟩) hb).trans g1
  have C : Hid (Calls Try.prog 30 #[.agg #[.slice a1 SA k1, .slice a2 CA k2]] (W4.alloc (.cells #[.slice a1 SA k1, .slice a2 CA k2] 25)).drew fun e w' => (∃ p1 pc1 p2 pc2, e = .returned (.agg #[.slice p1 SA pc1, .slice p2 CA pc2]) ∧ ArIn (n + 1) W4.heap.size w' y (.agg #[.slice p1 SA pc1, .slice p2 CA pc2])) ∧ BelowS W4.heap.size W4 w' ∧ W4.heap.size + 1 ≤ w'.heap.size ∧ w'.cell? ⟨W4.heap.size, 0, none⟩ = some (.slice a1 SA k1) ∧ w'.cell? ⟨W4.heap.size, 1, none⟩ = some (.slice a2 CA k2)) := by
    have b := (one_allocS W4 (.cells #[.slice a1 SA k1, .slice a2 CA k2] 25)).drew
    have hs : ((W4.alloc (.cells #[.slice a1 SA k1, .slice a2 CA k2] 25)).drew).heap.size = W4.heap.size + 1 := by
      have : (W4.alloc (.cells #[.slice a1 SA k1, .slice a2 CA k2] 25)).heap.size = W4.heap.size + 1 := by simp
      exact this
    refine (IH lo _ _ (hy.next (B4.trans (b.mono B4.size)).b)).mono ?_
    rintro e w' ⟨⟨v, rfl, hv⟩, hb'⟩
    rw [hs] at hv hb'
    have hv' := hv
    obtain ⟨p1, pc1, p2, pc2, rfl, -⟩ := hv'
    rw [hSA, hCA] at hv ⊢
    refine ⟨⟨p1, pc1, p2, pc2, rfl, hv.mono (by omega) (Below.refl _ _)⟩, b.trans (hb'.mono (by omega)), by have := hb'.size; rw [hs] at this; exact this, ?_, ?_⟩
    · exact (hb'.cell (p := ⟨W4.heap.size, 0, none⟩) (by show W4.heap.size < _; omega)).trans (cell_new0 W4 _ 25 0 _ rfl)
    · exact (hb'.cell (p := ⟨W4.heap.size, 1, none⟩) (by show W4.heap.size < _; omega)).trans (cell_new0 W4 _ 25 1 _ rfl)
  have HF : Hid (∀ w1, BelowS W4.heap.size W4 w1 → (w1.cell? ⟨w.heap.size + 1 + 1 + 1, 0, none⟩ = some (.slice none 0 0) ∧ w1.cell? ⟨w.heap.size + 1 + 1 + 1, 1, none⟩ = some (.slice none 0 0) ∧ w1.frozen? ⟨w.heap.size + 1 + 1 + 1, 0, none⟩ = false ∧ w1.frozen? ⟨w.heap.size + 1 + 1 + 1, 1, none⟩ = false) ∧ (∀ i v, #[Value.int .i64 k, .int .i64 N, .slice (some ⟨w.heap.size + 1 + 1 + 1, 0, none⟩) 1 1][i]? = some v → w1.cell? ⟨w.heap.size + 1 + 1, i, none⟩ = some v) ∧ (∀ i v, #[Value.int .i64 0, .int .i64 0, .slice none 0 0][i]? = some v → w1.cell? ⟨w.heap.size + 1, i, none⟩ = some v) ∧ ∀ i, w1.frozen? ⟨w.heap.size + 1, i, none⟩ = false) := by
    intro w1 h
    have tr : ∀ b i v, b < w.heap.size + 4 → W4.cell? ⟨b, i, none⟩ = some v → w1.cell? ⟨b, i, none⟩ = some v := fun b i v hb hh => (h.cell (p := ⟨b, i, none⟩) (by rw [s4]; exact hb)).trans hh
    have tf : ∀ b i, b < w.heap.size + 4 → W4.frozen? ⟨b, i, none⟩ = false → w1.frozen? ⟨b, i, none⟩ = false := fun b i hb hh => (h.frozen (p := ⟨b, i, none⟩) (by rw [s4]; exact hb)).trans hh
    exact ⟨⟨tr _ _ _ (by omega) (r2 0 _ rfl), tr _ _ _ (by omega) (r2 1 _ rfl), tf _ _ (by omega) (f2 0), tf _ _ (by omega) (f2 1)⟩, fun i v hi => tr _ _ _ (by omega) (r1 i v hi), fun i v hi => tr _ _ _ (by omega) (r0 i v hi), fun i => tf _ _ (by omega) (f0 i)⟩
  have HB4 := hide B4
  have HS4 := hide s4
  have hs2 : W4.cell? ⟨w.heap.size + 1 + 1, 2, none⟩ = some (.slice (some ⟨w.heap.size + 1 + 1 + 1, 0, none⟩) 1 1) := r1 2 _ rfl
  clear r0 r1 r2 f0 f2 B4 s4 s2 IH hy g0 g1 hSA hCA
  go_enter Try.func60, Try.ntmps60
  go_wp2
  rw [← e4]
  clear e4 mk
  go_loopw [24] (fun i wr => (i = .int .i64 0 ∧ wr = W4) ∨ (i = .int .i64 1 ∧ ∃ w1 p1 pc1 p2 pc2, wr = (w1.setCell ⟨w.heap.size + 1 + 1 + 1, 0, none⟩ (.slice p1 SA pc1)).setCell ⟨w.heap.size + 1 + 1 + 1, 1, none⟩ (.slice p2 CA pc2) ∧ BelowS W4.heap.size W4 w1 ∧ ArIn (n + 1) W4.heap.size w1 y (.agg #[.slice p1 SA pc1, .slice p2 CA pc2]))) (fun i _ => 1 - (intOf i).toNat)
  case atStart => exact Or.inl ⟨rfl, rfl⟩
  case round =>
    rcases hrel with ⟨rfl, rfl⟩ | ⟨rfl, w1, p1, pc1, p2, pc2, rfl, hb1, hP⟩
    · have KS : Hid (∀ w1 : World, BelowS wr.heap.size wr w1 → w1.cell? ⟨wr.heap.size, 0, none⟩ = some (.slice a1 SA k1) → w1.cell? ⟨wr.heap.size, 1, none⟩ = some (.slice a2 CA k2) → (w1.cell? ⟨w.heap.size + 1 + 1, 2, none⟩ = some (.slice (some ⟨w.heap.size + 1 + 1 + 1, 0, none⟩) 1 1) ∧ w1.cell? ⟨wr.heap.size, 0, none⟩ = some (.slice a1 SA k1) ∧ w1.cell? ⟨wr.heap.size, 1, none⟩ = some (.slice a2 CA k2))) := fun w1 h x y => ⟨(HF.out w1 h).2.1 2 _ rfl, x, y⟩
      have D0 : Hid (BelowS wr.heap.size wr (wr.alloc (.cells #[.slice a1 SA k1, .slice a2 CA k2] 25)).drew ∧ (wr.alloc (.cells #[.slice a1 SA k1, .slice a2 CA k2] 25)).drew.cell? ⟨wr.heap.size, 0, none⟩ = some (.slice a1 SA k1) ∧ (wr.alloc (.cells #[.slice a1 SA k1, .slice a2 CA k2] 25)).drew.cell? ⟨wr.heap.size, 1, none⟩ = some (.slice a2 CA k2)) := ⟨(one_allocS _ _).drew, cell_new0 wr _ 25 0 _ rfl, cell_new0 wr _ 25 1 _ rfl⟩
      have KT : Hid (∀ (w1 : World) (x y : Value), (w1.cell? ⟨w.heap.size + 1 + 1, 2, none⟩ = some (.slice (some ⟨w.heap.size + 1 + 1 + 1, 0, none⟩) 1 1) ∧ w1.cell? ⟨wr.heap.size, 0, none⟩ = some (.slice a1 SA k1) ∧ w1.cell? ⟨wr.heap.size, 1, none⟩ = some (.slice a2 CA k2)) → (((w1.setCell ⟨w.heap.size + 1 + 1 + 1, 0, none⟩ x).setCell ⟨w.heap.size + 1 + 1 + 1, 1, none⟩ y).cell? ⟨w.heap.size + 1 + 1, 2, none⟩ = some (.slice (some ⟨w.heap.size + 1 + 1 + 1, 0, none⟩) 1 1) ∧ ((w1.setCell ⟨w.heap.size + 1 + 1 + 1, 0, none⟩ x).setCell ⟨w.heap.size + 1 + 1 + 1, 1, none⟩ y).cell? ⟨wr.heap.size, 0, none⟩ = some (.slice a1 SA k1) ∧ ((w1.setCell ⟨w.heap.size + 1 + 1 + 1, 0, none⟩ x).setCell ⟨w.heap.size + 1 + 1 + 1, 1, none⟩ y).cell? ⟨wr.heap.size, 1, none⟩ = some (.slice a2 CA k2))) := by
        rintro w1 x y ⟨e1, e2, e3⟩
        have ne := HS4.out
        exact ⟨cell_apart (p := ⟨w.heap.size + 1 + 1, 2, none⟩) (q := ⟨w.heap.size + 1 + 1 + 1, 1, none⟩) (by show w.heap.size + 1 + 1 ≠ w.heap.size + 1 + 1 + 1; omega) _ (cell_apart (p := ⟨w.heap.size + 1 + 1, 2, none⟩) (q := ⟨w.heap.size + 1 + 1 + 1, 0, none⟩) (by show w.heap.size + 1 + 1 ≠ w.heap.size + 1 + 1 + 1; omega) _ e1),
          cell_apart (p := ⟨wr.heap.size, 0, none⟩) (q := ⟨w.heap.size + 1 + 1 + 1, 1, none⟩) (by show wr.heap.size ≠ w.heap.size + 1 + 1 + 1; omega) _ (cell_apart (p := ⟨wr.heap.size, 0, none⟩) (q := ⟨w.heap.size + 1 + 1 + 1, 0, none⟩) (by show wr.heap.size ≠ w.heap.size + 1 + 1 + 1; omega) _ e2),
          cell_apart (p := ⟨wr.heap.size, 1, none⟩) (q := ⟨w.heap.size + 1 + 1 + 1, 1, none⟩) (by show wr.heap.size ≠ w.heap.size + 1 + 1 + 1; omega) _ (cell_apart (p := ⟨wr.heap.size, 1, none⟩) (q := ⟨w.heap.size + 1 + 1 + 1, 0, none⟩) (by show wr.heap.size ≠ w.heap.size + 1 + 1 + 1; omega) _ e3)⟩
      go_wp2
      go_region_held3 (fun W => W.cell? ⟨w.heap.size + 1 + 1, 2, none⟩ = some (.slice (some ⟨w.heap.size + 1 + 1 + 1, 0, none⟩) 1 1) ∧ W.cell? ⟨wr.heap.size, 0, none⟩ = some (.slice a1 SA k1) ∧ W.cell? ⟨wr.heap.size, 1, none⟩ = some (.slice a2 CA k2))
        (first | exact KS.out _ D0.out.1 D0.out.2.1 D0.out.2.2 | exact KS.out _ (by assumption) (by assumption) (by assumption) | exact KT.out _ _ _ (by assumption))
        (first
          | (go_at_call 30; refine C.out.mono ?_; rintro e w1 ⟨⟨p1, pc1, p2, pc2, rfl, hP⟩, hb1, hz1, hq0, hq1⟩; obtain ⟨⟨t0, t1, t2, t3⟩, -⟩ := HF.out _ hb1))
      go_wp2
      go_roundw
      case rel => exact Or.inr ⟨by go_num, w1, p1, pc1, p2, pc2, rfl, hb1, hP⟩
      case measure => simp [intOf]
    · obtain ⟨⟨t0, t1, t2, t3⟩, tc, td, tf⟩ := HF.out _ hb1
      have ne1 : (⟨w.heap.size + 1 + 1, 0, none⟩ : Addr).block ≠ (⟨w.heap.size + 1 + 1 + 1, 0, none⟩ : Addr).block := by show w.heap.size + 1 + 1 ≠ w.heap.size + 1 + 1 + 1; omega
      have AP : ∀ (b i : Nat) (v : Value), b ≠ w.heap.size + 1 + 1 + 1 → w1.cell? ⟨b, i, none⟩ = some v → ((w1.setCell ⟨w.heap.size + 1 + 1 + 1, 0, none⟩ (.slice p1 SA pc1)).setCell ⟨w.heap.size + 1 + 1 + 1, 1, none⟩ (.slice p2 CA pc2)).cell? ⟨b, i, none⟩ = some v := fun b i v hne hv => cell_apart (p := ⟨b, i, none⟩) (q := ⟨w.heap.size + 1 + 1 + 1, 1, none⟩) hne _ (cell_apart (p := ⟨b, i, none⟩) (q := ⟨w.heap.size + 1 + 1 + 1, 0, none⟩) hne _ hv)
      have x0 := AP (w.heap.size + 1 + 1) 0 _ (by omega) (tc 0 _ rfl)
      have x1 := AP (w.heap.size + 1 + 1) 1 _ (by omega) (tc 1 _ rfl)
      have x2 := AP (w.heap.size + 1 + 1) 2 _ (by omega) (tc 2 _ rfl)
      have y0 := AP (w.heap.size + 1) 0 _ (by omega) (td 0 _ rfl)
      have y1 := AP (w.heap.size + 1) 1 _ (by omega) (td 1 _ rfl)
      have y2 := AP (w.heap.size + 1) 2 _ (by omega) (td 2 _ rfl)
      have z : ∀ i, ((w1.setCell ⟨w.heap.size + 1 + 1 + 1, 0, none⟩ (.slice p1 SA pc1)).setCell ⟨w.heap.size + 1 + 1 + 1, 1, none⟩ (.slice p2 CA pc2)).frozen? ⟨w.heap.size + 1, i, none⟩ = false := fun i => by simpa using tf i
      have z0 := z 0
      have z1 := z 1
      have z2 := z 2
      have hT := set_two t0 t1 (.slice p1 SA pc1) (.slice p2 CA pc2)
      have q0 : ((w1.setCell ⟨w.heap.size + 1 + 1 + 1, 0, none⟩ (.slice p1 SA pc1)).setCell ⟨w.heap.size + 1 + 1 + 1, 1, none⟩ (.slice p2 CA pc2)).cell? ⟨w.heap.size + 1 + 1 + 1, 0, none⟩ = some (.slice p1 SA pc1) := by
        rw [World.cell?_setCell_other _ _ _ _ (by simp)]; exact hT.1
      have HK : Hid (Keeps (w.heap.size + 4) w1 ((w1.setCell ⟨w.heap.size + 1 + 1 + 1, 0, none⟩ (.slice p1 SA pc1)).setCell ⟨w.heap.size + 1 + 1 + 1, 1, none⟩ (.slice p2 CA pc2))) := ((Keeps.refl _ _).setCell (p := ⟨w.heap.size + 1 + 1 + 1, 0, none⟩) (by show w.heap.size + 1 + 1 + 1 < _; omega) _).setCell (p := ⟨w.heap.size + 1 + 1 + 1, 1, none⟩) (by show w.heap.size + 1 + 1 + 1 < _; omega) _
      have HBW : Hid (BelowS w.heap.size w ((w1.setCell ⟨w.heap.size + 1 + 1 + 1, 0, none⟩ (.slice p1 SA pc1)).setCell ⟨w.heap.size + 1 + 1 + 1, 1, none⟩ (.slice p2 CA pc2))) := ((HB4.out.trans (hb1.mono HB4.out.size)).setCell (p := ⟨w.heap.size + 1 + 1 + 1, 0, none⟩) (by show w.heap.size ≤ w.heap.size + 1 + 1 + 1; omega) _).setCell (p := ⟨w.heap.size + 1 + 1 + 1, 1, none⟩) (by show w.heap.size ≤ w.heap.size + 1 + 1 + 1; omega) _
      have HSZ : Hid (w.heap.size + 4 ≤ w1.heap.size) := by have := hb1.size; rw [HS4.out] at this; exact this
      have HP := hide hP
      have HQ := hide (And.intro q0 hT.2)
      generalize ew : (w1.setCell ⟨w.heap.size + 1 + 1 + 1, 0, none⟩ (.slice p1 SA pc1)).setCell ⟨w.heap.size + 1 + 1 + 1, 1, none⟩ (.slice p2 CA pc2) = wr at *
      have HFIN : Hid (∀ a b c, GivesC (n + 1) (k, N, [y]) w (.returned (.agg #[.int .i64 k, .int .i64 N, .slice (some ⟨w.heap.size + 1 + 1 + 1, 0, none⟩) 1 1])) (((wr.setCell ⟨w.heap.size + 1, 0, none⟩ a).setCell ⟨w.heap.size + 1, 1, none⟩ b).setCell ⟨w.heap.size + 1, 2, none⟩ c)) := by
        intro a b c
        have hk2 : Keeps (w.heap.size + 2) wr (((wr.setCell ⟨w.heap.size + 1, 0, none⟩ a).setCell ⟨w.heap.size + 1, 1, none⟩ b).setCell ⟨w.heap.size + 1, 2, none⟩ c) := (((Keeps.refl _ _).setCell (p := ⟨w.heap.size + 1, 0, none⟩) (by show w.heap.size + 1 < _; omega) _).setCell (p := ⟨w.heap.size + 1, 1, none⟩) (by show w.heap.size + 1 < _; omega) _).setCell (p := ⟨w.heap.size + 1, 2, none⟩) (by show w.heap.size + 1 < _; omega) _
        have hbw : BelowS w.heap.size w (((wr.setCell ⟨w.heap.size + 1, 0, none⟩ a).setCell ⟨w.heap.size + 1, 1, none⟩ b).setCell ⟨w.heap.size + 1, 2, none⟩ c) := ((HBW.out.setCell (p := ⟨w.heap.size + 1, 0, none⟩) (by show w.heap.size ≤ w.heap.size + 1; omega) _).setCell (p := ⟨w.heap.size + 1, 1, none⟩) (by show w.heap.size ≤ w.heap.size + 1; omega) _).setCell (p := ⟨w.heap.size + 1, 2, none⟩) (by show w.heap.size ≤ w.heap.size + 1; omega) _
        have hsz := HSZ.out
        have hszr := HK.out.1
        refine ⟨⟨_, _, rfl, rfl, rfl, _, _, rfl, by simp, Or.inr ⟨w.heap.size + 1 + 1 + 1, 0, rfl, by omega, Nat.lt_of_lt_of_le (by omega) hk2.1, ?_⟩⟩, hbw⟩
        intro j hj
        have hj0 : j = 0 := by simpa using hj
        subst hj0
        refine ⟨_, _, (hk2.cell (p := ⟨w.heap.size + 1 + 1 + 1, 0 + 0 * 2, none⟩) (by show w.heap.size + 2 ≤ w.heap.size + 1 + 1 + 1; omega) (by show w.heap.size + 1 + 1 + 1 < _; omega)).trans HQ.out.1, (hk2.cell (p := ⟨w.heap.size + 1 + 1 + 1, 0 + 0 * 2 + 1, none⟩) (by show w.heap.size + 2 ≤ w.heap.size + 1 + 1 + 1; omega) (by show w.heap.size + 1 + 1 + 1 < _; omega)).trans HQ.out.2, ?_⟩
        have h4 := HP.out
        rw [HS4.out] at h4
        have h5 : ArIn (n + 1) (w.heap.size + 4) wr y (.agg #[.slice p1 SA pc1, .slice p2 CA pc2]) := h4.keeps HK.out
        exact ((h5.mono (lo' := w.heap.size + 2) (by omega) (Below.refl _ _)).keeps hk2).mono (by omega) (Below.refl _ _)
      have HR : Hid ((wr.setCell ⟨w.heap.size + 1, 0, none⟩ (.int .i64 k)).cell? ⟨w.heap.size + 1, 0, none⟩ = some (.int .i64 k) ∧ ((wr.setCell ⟨w.heap.size + 1, 0, none⟩ (.int .i64 k)).setCell ⟨w.heap.size + 1, 1, none⟩ (.int .i64 N)).cell? ⟨w.heap.size + 1, 1, none⟩ = some (.int .i64 N) ∧ (((wr.setCell ⟨w.heap.size + 1, 0, none⟩ (.int .i64 k)).setCell ⟨w.heap.size + 1, 1, none⟩ (.int .i64 N)).setCell ⟨w.heap.size + 1, 2, none⟩ (.slice (some ⟨w.heap.size + 1 + 1 + 1, 0, none⟩) 1 1)).cell? ⟨w.heap.size + 1, 2, none⟩ = some (.slice (some ⟨w.heap.size + 1 + 1 + 1, 0, none⟩) 1 1)) := by
        have t := set_two y0 y1 (.int .i64 k) (.int .i64 N)
        refine ⟨t.1, t.2, World.cell?_setCell_same' _ _ _ ?_⟩
        rw [World.cell?_setCell_other _ _ _ _ (by simp), World.cell?_setCell_other _ _ _ _ (by simp), y2]
        rfl
      clear AP tc td tf z hT q0 hP hb1 t0 t1 t2 t3 HK HBW HSZ HP HQ HF HB4 HS4 C h0 h1 hs2 ne1 ew
      go_wp2
      exact bodyPost_ret (v := .agg #[.int .i64 k, .int .i64 N, .slice (some ⟨w.heap.size + 1 + 1 + 1, 0, none⟩) 1 1]) (by simp [results, Try.results60, go_sem, HR.out.1, HR.out.2.1, HR.out.2.2]) rfl (HFIN.out _ _ _)
/-- What the copy of an array that may be promises. -/
def CopyC (n : Nat) : Prop := ∀ r x lo va w, chkA r x = 0 → ArIn n lo w x va → Calls Try.prog 30 #[va] w fun e w' => GivesS n x w e w'
theorem copyCell_any (n : Nat) (IH : CopyC n) (f : Ar → Int) (hf : ∀ y, f y = 0 → ∃ r, chkA r y = 0) (c : Ce) (hc : chkC f c = 0) (lo : Nat) (w : World) (v0 v1 v2 : Value) (h : CeIn (ArIn n lo w) lo w c v0 v1 v2) :
    Calls Try.prog 60 #[.agg #[v0, v1, v2]] w fun e w' => GivesC n c w e w' := by
  obtain ⟨rfl, rfl, a, cap, rfl, hl, hx⟩ := h
  obtain ⟨k, N, box⟩ := c
  simp only at hl hx hc ⊢
  unfold chkC at hc
  by_cases h1 : k = 2 ∧ N = 0 ∧ box.length = 1
  · rw [if_pos h1] at hc
    obtain ⟨-, -, hb1⟩ := h1
    rcases hx with hx | ⟨b, off, rfl, hlo, hb, hx⟩
    · subst hx; simp at hb1
    · obtain ⟨u0, u1, e0, e1, e2⟩ := hx 0 (by omega)
      simp only [Nat.zero_mul, Nat.add_zero] at e0 e1
      obtain ⟨r, hr⟩ := hf _ hc
      have hbox : box = [bAt box 0] := by
        match box, hb1 with
        | [y], _ => rfl
      have := copyCell_one n k N (bAt box 0) b off cap u0 u1 lo w hb e0 e1 e2 fun lo vb w hy => IH r _ lo vb w hr hy
      rw [hbox]
      exact this
  · rw [if_neg h1] at hc
    by_cases h2 : box.length = 0 ∧ (k = 0 ∨ k = 1 ∧ Good N)
    · have hb : box = [] := List.eq_nil_of_length_eq_zero h2.1
      subst hb
      exact copyCell_none n k N a cap w
    · simp only at hc
      rw [if_neg h2] at hc
      omega
end Go.Proofs.Ytmjncdhahdpplaa
namespace Go.Proofs.Ytmjncdhahdpplaa
open Go.ChangeShapes Go.WideShapes Go.ChangeAt Go.RowKit
set_option linter.unusedVariables false
set_option maxRecDepth 100000
theorem firstUp_none {f : Nat → Int} {m : Nat} (h : firstUp f m = 0) : ∀ i, i < m → f i = 0 := fun i hi => by
  rw [← firstUp_step (firstUp_zero h i (by omega))]
  exact firstUp_zero h (i + 1) hi
/-- What is known of an array that may be. -/
theorem chk_ok {r : Nat} {x : Ar} (h : chkA r x = 0) : ∃ f : Ar → Int, (∀ y, f y = 0 → ∃ r, chkA r y = 0) ∧ x.shape.length ≤ 8 ∧ x.cells.length ≤ 16384 ∧ ∀ i, i < x.cells.length → chkC f (cAt x.cells i) = 0 := by
  have key : ∀ f : Ar → Int, chkB f x = 0 → x.shape.length ≤ 8 ∧ x.cells.length ≤ 16384 ∧ ∀ i, i < x.cells.length → chkC f (cAt x.cells i) = 0 := by
    intro f hb
    unfold chkB at hb
    by_cases h1 : sizeE x.shape = 0
    · rw [if_neg (fun k => k h1)] at hb
      by_cases h2 : sizeV x.shape = x.cells.length
      · rw [if_neg (fun k => k h2)] at hb
        by_cases h3 : hasLong x.shape
        · rw [if_pos h3] at hb; omega
        · rw [if_neg h3] at hb
          obtain ⟨s1, s2, s3⟩ := sizeE_ok h1
          refine ⟨by omega, ?_, firstUp_none hb⟩
          rcases s3 with s3 | ⟨s3, s4⟩
          · have := (size_zero s1 s2 s3).1
            omega
          · have := (size_ok s1 s2 s3 (by omega)).1
            omega
      · rw [if_pos h2] at hb; omega
    · rw [if_pos h1] at hb; exact absurd hb h1
  cases r with
  | zero => exact ⟨fun _ => 15, fun y hy => absurd (show (15 : Int) = 0 from hy) (by decide), key _ h⟩
  | succ r => exact ⟨chkA r, fun y hy => ⟨r, hy⟩, key _ h⟩
theorem setCells_block (b : Nat) (vs : List Value) (o : Nat) (w : World) : (w.setCells b o vs).heap.size = w.heap.size ∧ ∀ k, k ≠ b → (w.setCells b o vs).heap[k]? = w.heap[k]? := by
  induction vs generalizing o w with
  | nil => exact ⟨rfl, fun _ _ => rfl⟩
  | cons v vs ih =>
    obtain ⟨h1, h2⟩ := ih (o + 1) (w.setCell ⟨b, o, none⟩ v)
    refine ⟨by show (((w.setCell ⟨b, o, none⟩ v).setCells b (o + 1) vs)).heap.size = _; rw [h1]; simp, fun k hk => ?_⟩
    show (((w.setCell ⟨b, o, none⟩ v).setCells b (o + 1) vs)).heap[k]? = _
    rw [h2 k hk]
    exact BelowS.heap_setCell w _ v k hk
theorem below_setCells {B : Nat} {a : World} (b : Nat) (hB : B ≤ b) (vs : List Value) (o : Nat) (w : World) (h : BelowS B a w) : BelowS B a (w.setCells b o vs) := by
  induction vs generalizing o w with
  | nil => exact h
  | cons v vs ih => exact ih (o + 1) _ (h.setCell (p := ⟨b, o, none⟩) hB v)
/-- copy into a row of the call's own, whatever the source. -/
theorem run_copy_any {P : Program} {w : World} (ty : TypeId) (hu : P.underlying 22 = some (.slice 3)) (hsz : (P.info? 3).map (·.size) = some 1)
    (b L dCap : Nat) (sp : Option Addr) (sCap : Nat) (cs : List Value) (hn : cs.length = L)
    (hsrc : 0 < cs.length → ∃ ad, sp = some ad ∧ ∀ j v, cs[j]? = some v → w.cell? (ad.add j) = some v) (hc : ∀ j, j < cs.length → (w.cell? ⟨b, 0 + j, none⟩).isSome = true) (hf : ∀ j, j < cs.length → w.frozen? ⟨b, 0 + j, none⟩ = false) (h1 : ∀ v ∈ cs, v.oneCell' = true) :
    (Builtin.copy_ #[22, 22] ty #[.slice (some ⟨b, 0, none⟩) L dCap, .slice sp L sCap]).run P w = .ok (goInt L) (w.setCells b 0 cs) := by
  subst hn
  by_cases h0 : cs.length = 0
  · have hcs : cs = [] := List.eq_nil_of_length_eq_zero h0
    subst hcs
    exact run_copy_none (P := P) w 22 22 ty 3 (some ⟨b, 0, none⟩) sp 0 dCap 0 sCap hu hsz rfl
  · obtain ⟨ad, rfl, hsr⟩ := hsrc (by omega)
    exact run_copy_cells (P := P) w 22 22 ty 3 b 0 cs.length dCap ad cs.length sCap cs hu hsz (Nat.min_self _).symm hsr hc hf h1
theorem size3 : (Try.prog.info? 3).map (·.size) = some 1 := by kernel_rfl
theorem alloc3 (W : World) (o1 o2 o3 : Obj) : (((W.alloc o1).alloc o2).alloc o3).drew.heap[W.heap.size]? = some o1 ∧ (((W.alloc o1).alloc o2).alloc o3).drew.heap[W.heap.size + 1]? = some o2 ∧ (((W.alloc o1).alloc o2).alloc o3).drew.heap[W.heap.size + 2]? = some o3 ∧ (((W.alloc o1).alloc o2).alloc o3).drew.heap.size = W.heap.size + 3 ∧ (softO o1 → softO o2 → softO o3 → BelowS W.heap.size W (((W.alloc o1).alloc o2).alloc o3).drew) := by
  have hh : (((W.alloc o1).alloc o2).alloc o3).drew.heap = ((W.heap.push o1).push o2).push o3 := rfl
  rw [hh]
  have z1 : (W.heap.push o1).size = W.heap.size + 1 := by simp
  have z2 : ((W.heap.push o1).push o2).size = W.heap.size + 2 := by simp
  refine ⟨?_, ?_, ?_, by simp, ?_⟩
  · rw [Array.getElem?_push, z2, if_neg (by omega), Array.getElem?_push, z1, if_neg (by omega), Array.getElem?_push, if_pos rfl]
  · rw [Array.getElem?_push, z2, if_neg (by omega), Array.getElem?_push, z1, if_pos rfl]
  · rw [Array.getElem?_push, z2, if_pos rfl]
  exact fun h1 h2 h3 => ((((BelowS.refl _ _).alloc (Nat.le_refl _) _ h1).alloc (by simp) _ h2).alloc (by simp; omega) _ h3).drew
/-- Where Copy stands when its memory is made: the shape's row, the cells' row, the answer, in whatever order they were made. -/
def Pre (w W2 : World) (SA CA bs bc bo : Nat) (W : World) : Prop :=
  W.heap.size = w.heap.size + 5 ∧ BelowS (w.heap.size + 2) W2 W ∧ ((w.heap.size + 2 ≤ bs ∧ bs < w.heap.size + 5) ∧ (w.heap.size + 2 ≤ bc ∧ bc < w.heap.size + 5) ∧ (w.heap.size + 2 ≤ bo ∧ bo < w.heap.size + 5) ∧ bs ≠ bc ∧ bs ≠ bo ∧ bc ≠ bo) ∧
  W.heap[bs]? = some (.cells (madeCells #[.int .i64 0] SA) 3) ∧ W.heap[bc]? = some (.cells (madeCells #[.int .i64 0, .int .i64 0, .slice none 0 0] (CA * 3)) 36) ∧ W.heap[bo]? = some (.cells #[.slice (some ⟨bs, 0, none⟩) SA SA, .slice (some ⟨bc, 0, none⟩) CA CA] 25)
/-- The copied cells so far, one more stored behind them. -/
theorem fam_step {n L : Nat} {wr w1 : World} {cs : List Ce} {bc CA j : Nat} {F : Nat → Value} (hL : bc < L) (hw : Below wr.heap.size wr w1) (hbw : bc < wr.heap.size) (hr : wr.rowIs bc 36 (CA * 3) F)
    (hF : ∀ i, i < j → CeIn (ArIn n L wr) L wr (cAt cs i) (F (i * 3)) (F (i * 3 + 1)) (F (i * 3 + 2))) (v0 v1 v2 : Value) (hnew : CeIn (ArIn n L w1) L w1 (cAt cs j) v0 v1 v2) :
    ∃ F', (((w1.setCell ⟨bc, j * 3, none⟩ v0).setCell ⟨bc, j * 3 + 1, none⟩ v1).setCell ⟨bc, j * 3 + 2, none⟩ v2).rowIs bc 36 (CA * 3) F' ∧
      ∀ i, i < j + 1 → CeIn (ArIn n L (((w1.setCell ⟨bc, j * 3, none⟩ v0).setCell ⟨bc, j * 3 + 1, none⟩ v1).setCell ⟨bc, j * 3 + 2, none⟩ v2)) L (((w1.setCell ⟨bc, j * 3, none⟩ v0).setCell ⟨bc, j * 3 + 1, none⟩ v1).setCell ⟨bc, j * 3 + 2, none⟩ v2) (cAt cs i) (F' (i * 3)) (F' (i * 3 + 1)) (F' (i * 3 + 2)) := by
  have r1 : w1.rowIs bc 36 (CA * 3) F := hr.of_block (hw.block bc hbw)
  have hk : Keeps L w1 (((w1.setCell ⟨bc, j * 3, none⟩ v0).setCell ⟨bc, j * 3 + 1, none⟩ v1).setCell ⟨bc, j * 3 + 2, none⟩ v2) := (((Keeps.refl _ _).setCell (p := ⟨bc, j * 3, none⟩) hL v0).setCell (p := ⟨bc, j * 3 + 1, none⟩) hL v1).setCell (p := ⟨bc, j * 3 + 2, none⟩) hL v2
  refine ⟨_, ((r1.set (j * 3) v0).set (j * 3 + 1) v1).set (j * 3 + 2) v2, ?_⟩
  intro i hi
  rcases Nat.lt_succ_iff_lt_or_eq.1 hi with h | rfl
  · have := ((hF i h).mono (Nat.le_refl _) hw fun x v hx => hx.next hw).keeps hk fun x v hx => hx.keeps hk
    have e0 : (if i * 3 = j * 3 + 2 then v2 else if i * 3 = j * 3 + 1 then v1 else if i * 3 = j * 3 then v0 else F (i * 3)) = F (i * 3) := by rw [if_neg (by omega), if_neg (by omega), if_neg (by omega)]
    have e1 : (if i * 3 + 1 = j * 3 + 2 then v2 else if i * 3 + 1 = j * 3 + 1 then v1 else if i * 3 + 1 = j * 3 then v0 else F (i * 3 + 1)) = F (i * 3 + 1) := by rw [if_neg (by omega), if_neg (by omega), if_neg (by omega)]
    have e2 : (if i * 3 + 2 = j * 3 + 2 then v2 else if i * 3 + 2 = j * 3 + 1 then v1 else if i * 3 + 2 = j * 3 then v0 else F (i * 3 + 2)) = F (i * 3 + 2) := by rw [if_neg (by omega), if_neg (by omega), if_neg (by omega)]
    rw [e0, e1, e2]
    exact this
  · have := hnew.keeps hk fun x v hx => hx.keeps hk
    have e0 : (if i * 3 = i * 3 + 2 then v2 else if i * 3 = i * 3 + 1 then v1 else if i * 3 = i * 3 then v0 else F (i * 3)) = v0 := by rw [if_neg (by omega), if_neg (by omega), if_pos rfl]
    have e1 : (if i * 3 + 1 = i * 3 + 2 then v2 else if i * 3 + 1 = i * 3 + 1 then v1 else if i * 3 + 1 = i * 3 then v0 else F (i * 3 + 1)) = v1 := by rw [if_neg (by omega), if_pos rfl]
    have e2 : (if i * 3 + 2 = i * 3 + 2 then v2 else if i * 3 + 2 = i * 3 + 1 then v1 else if i * 3 + 2 = i * 3 then v0 else F (i * 3 + 2)) = v2 := by rw [if_pos rfl]
    rw [e0, e1, e2]
    exact this
/-- The shape's row lies in a block of its own: the cells stay what they are whatever is written there. -/
def Apart (n lo : Nat) (w : World) (x : Ar) (v : Value) : Prop := ∃ bs bc, v = .agg #[.slice (some ⟨bs, 0, none⟩) x.shape.length x.shape.length, .slice (some ⟨bc, 0, none⟩) x.cells.length x.cells.length] ∧ lo ≤ bs ∧ bs < w.heap.size ∧ (∀ i, i < x.shape.length → w.cell? ⟨bs, i, none⟩ = some (.int .i64 (x.shape[i]?.getD 0))) ∧
  ∀ w' : World, w.heap.size ≤ w'.heap.size → (∀ k, k < w.heap.size → k ≠ bs → w'.heap[k]? = w.heap[k]?) → CellsIn n lo w' x.cells (some ⟨bc, 0, none⟩)
def GivesT (n : Nat) (x : Ar) (w : World) (e : Ending) (w' : World) : Prop := (∃ v, e = .returned v ∧ ArIn (n + 1) w.heap.size w' x v ∧ Apart n w.heap.size w' x v) ∧ BelowS w.heap.size w w'
set_option maxHeartbeats 8000000 in
theorem copy_own (n : Nat) (IH : CopyC n) : ∀ r x lo va w, chkA r x = 0 → ArIn (n + 1) lo w x va → Calls Try.prog 30 #[va] w fun e w' => GivesT n x w e w' := by
  intro r x lo va w hchk hx
  obtain ⟨a1, c1, a2, c2, rfl, R, hl, hc⟩ := hx
  obtain ⟨f, hf, hS8, hC16, hcs⟩ := chk_ok hchk
  have mk1 := run_make_row' (P := Try.prog) 22 3 (.int .i64 0) 8 Try.underlying22 int3 rfl .i64 .i64 x.shape.length (by omega) (by omega)
  have mk2 := make_cells x.cells.length hl
  obtain ⟨W2, e2⟩ : ∃ W2, W2 = (w.alloc (.cells #[.slice a1 x.shape.length c1, .slice a2 x.cells.length c2] 25)).alloc (.cells #[.slice none 0 0, .slice none 0 0] 25) := ⟨_, rfl⟩
  have B2 : BelowS w.heap.size w W2 := by rw [e2]; exact two_allocsS _ _ _
  have s2 : W2.heap.size = w.heap.size + 2 := by rw [e2]; exact size_two _ _ _
  have q0 : W2.cell? ⟨w.heap.size, 0, none⟩ = some (.slice a1 x.shape.length c1) := by rw [e2]; exact cell_new1 w _ 25 (0, 0) _ 0 _ rfl
  have q1 : W2.cell? ⟨w.heap.size, 1, none⟩ = some (.slice a2 x.cells.length c2) := by rw [e2]; exact cell_new1 w _ 25 (0, 0) _ 1 _ rfl
  have p0 : W2.cell? ⟨w.heap.size + 1, 0, none⟩ = some (.slice none 0 0) := by rw [e2]; exact cell_new2 w _ 25 (0, 0) _ 0 _ rfl
  have p1 : W2.cell? ⟨w.heap.size + 1, 1, none⟩ = some (.slice none 0 0) := by rw [e2]; exact cell_new2 w _ 25 (0, 0) _ 1 _ rfl
  have pf : ∀ i, W2.frozen? ⟨w.heap.size + 1, i, none⟩ = false := by
    intro i
    have := frozen_new (w.alloc (.cells #[.slice a1 x.shape.length c1, .slice a2 x.cells.length c2] 25)) #[.slice none 0 0, .slice none 0 0] 25 i
    have s1 : (w.alloc (.cells #[.slice a1 x.shape.length c1, .slice a2 x.cells.length c2] 25)).heap.size = w.heap.size + 1 := by simp
    rw [s1] at this
    rw [e2]
    exact this
  have HX : Hid (Row lo w a1 x.shape) := R
  have HCS : Hid (∀ i, i < x.cells.length → ∃ b off z0 z1 ab nb cb, a2 = some ⟨b, off, none⟩ ∧ ∀ wr, BelowS w.heap.size w wr → (wr.cell? ⟨b, off + i * 3, none⟩ = some (.int .i64 z0) ∧ wr.cell? ⟨b, off + i * 3 + 1, none⟩ = some (.int .i64 z1) ∧ wr.cell? ⟨b, off + i * 3 + 2, none⟩ = some (.slice ab nb cb)) ∧ Calls Try.prog 60 #[.agg #[.int .i64 z0, .int .i64 z1, .slice ab nb cb]] wr fun e w' => (∃ a' cap', e = .returned (.agg #[.int .i64 z0, .int .i64 z1, .slice a' nb cap']) ∧ CeIn (ArIn n wr.heap.size w') wr.heap.size w' (cAt x.cells i) (.int .i64 z0) (.int .i64 z1) (.slice a' nb cap')) ∧ BelowS wr.heap.size wr w') := by
    intro i hi
    obtain ⟨b, off, z0, z1, ab, nb, cb, ha, h⟩ := cells_at hc i hi
    refine ⟨b, off, z0, z1, ab, nb, cb, ha, fun wr hw => ?_⟩
    obtain ⟨g0, g1, g2, g3⟩ := h wr hw.b
    refine ⟨⟨g0, g1, g2⟩, (copyCell_any n IH f hf _ (hcs i hi) lo wr _ _ _ g3).mono ?_⟩
    obtain ⟨h0, h1, a', cap', h2, -⟩ := g3
    simp only [Value.int.injEq, true_and, Value.slice.injEq] at h0 h1 h2
    obtain ⟨-, rfl, -⟩ := h2
    subst h0 h1
    exact fun e w' h => h
  have HL := hide R.1
  clear R hc IH hcs hchk hf
  have HAR : Hid (∀ (W : World) (a1' a2' : Option Addr) (k1 k2 : Nat), Row w.heap.size W a1' x.shape → CellsIn n w.heap.size W x.cells a2' → ArIn (n + 1) w.heap.size W x (.agg #[.slice a1' x.shape.length k1, .slice a2' x.cells.length k2])) := fun W a1' a2' k1 k2 hr hcc => arIn_mk hr hl hcc rfl rfl
  generalize hSA : x.shape.length = SA at *
  generalize hCA : x.cells.length = CA at *
  go_enter Try.func30, Try.ntmps30
  go_wp2
  go_cut [3] from 6 (fun s3 wx => ∃ bs bc bo, s3 = .pointer (some ⟨bo, 0, none⟩) ∧ Pre w W2 SA CA bs bc bo wx)
  case first =>
    have AL := fun o1 o2 o3 => alloc3 W2 o1 o2 o3
    rw [s2] at AL
    have HAL := hide AL
    clear AL
    go_region
    all_goals
      go_wp2
      go_meet
    all_goals
      case rel =>
        rw [← e2]
        obtain ⟨A, B, C, D, E⟩ := HAL.out _ _ _
        first
          | exact ⟨w.heap.size + 2, w.heap.size + 3, w.heap.size + 4, rfl, D, E rfl rfl rfl, by omega, A, B, C⟩
          | exact ⟨w.heap.size + 2, w.heap.size + 4, w.heap.size + 3, rfl, D, E rfl rfl rfl, by omega, A, C, B⟩
          | exact ⟨w.heap.size + 3, w.heap.size + 2, w.heap.size + 4, rfl, D, E rfl rfl rfl, by omega, B, A, C⟩
          | exact ⟨w.heap.size + 4, w.heap.size + 2, w.heap.size + 3, rfl, D, E rfl rfl rfl, by omega, C, A, B⟩
          | exact ⟨w.heap.size + 3, w.heap.size + 4, w.heap.size + 2, rfl, D, E rfl rfl rfl, by omega, B, C, A⟩
          | exact ⟨w.heap.size + 4, w.heap.size + 3, w.heap.size + 2, rfl, D, E rfl rfl rfl, by omega, C, B, A⟩
  case rest =>
    obtain ⟨bs, bc, bo, rfl, hz, E, ⟨⟨i1, i2⟩, ⟨i3, i4⟩, ⟨i5, i6⟩, i7, i8, i9⟩, hbs, hbc, hbo⟩ := hcut
    have cellof : ∀ (b i : Nat) (cs : Array Value) (t : TypeId) (v : Value), wc.heap[b]? = some (.cells cs t) → cs[i]? = some v → wc.cell? ⟨b, i, none⟩ = some v := by
      intro b i cs t v h hi
      unfold World.cell?
      simp only [h, hi]
      rfl
    have Q0 : wc.cell? ⟨w.heap.size, 0, none⟩ = some (.slice a1 SA c1) := (E.cell (p := ⟨w.heap.size, 0, none⟩) (by show w.heap.size < _; omega)).trans q0
    have O0 : wc.cell? ⟨bo, 0, none⟩ = some (.slice (some ⟨bs, 0, none⟩) SA SA) := cellof _ _ _ _ _ hbo rfl
    have RB : wc.rowIs bs 3 SA (fun _ => .int .i64 0) := ⟨_, hbs, size_madeCells _ _, fun i hi => by simp [madeCells, hi, Nat.mod_one]⟩
    have BW : BelowS w.heap.size w wc := B2.trans (E.mono (by omega))
    have HSRC : Hid (0 < (x.shape.map (Value.int .i64)).length → ∃ ad, a1 = some ad ∧ ∀ j v, (x.shape.map (Value.int .i64))[j]? = some v → wc.cell? (ad.add j) = some v) := by
      intro h0
      rcases HX.out.2 with h | ⟨b, off, ha, hlo, hb, hcell⟩
      · rw [h] at h0; simp at h0
      · refine ⟨⟨b, off, none⟩, ha, fun j v hv => ?_⟩
        have hj : j < x.shape.length := by
          rcases Nat.lt_or_ge j x.shape.length with h' | h'
          · exact h'
          · simp [List.getElem?_eq_none h'] at hv
        have ea : (⟨b, off, none⟩ : Addr).add j = ⟨b, off + j, none⟩ := by
          unfold Addr.add
          split
          · subst_vars; rfl
          · rfl
        rw [ea]
        refine (BW.cell (p := ⟨b, off + j, none⟩) hb).trans ((hcell j hj).trans ?_)
        rw [List.getElem?_map, List.getElem?_eq_getElem hj] at hv
        rw [List.getElem?_eq_getElem hj]
        simpa using hv
    have hml : (x.shape.map (Value.int .i64)).length = SA := by rw [List.length_map]; exact hSA
    have HC1 : Hid (∀ j, j < (x.shape.map (Value.int .i64)).length → (wc.cell? ⟨bs, 0 + j, none⟩).isSome = true) := by
      intro j hj
      rw [Nat.zero_add, RB.cell (by omega)]; rfl
    have HF1 : Hid (∀ j, j < (x.shape.map (Value.int .i64)).length → wc.frozen? ⟨bs, 0 + j, none⟩ = false) := by
      intro j hj
      rw [Nat.zero_add]; exact RB.frozen j
    have HO1 : Hid (∀ v ∈ x.shape.map (Value.int .i64), v.oneCell' = true) := by
      intro v hv
      obtain ⟨z, _, rfl⟩ := List.mem_map.1 hv
      rfl
    have hrun := run_copy_any (P := Try.prog) (w := wc) 3 Try.underlying22 size3 bs SA SA a1 c1 (x.shape.map (Value.int .i64)) hml HSRC.out HC1.out HF1.out HO1.out
    have SB := setCells_block bs (x.shape.map (Value.int .i64)) 0 wc
    have SIN := World.cell?_setCells_in bs (x.shape.map (Value.int .i64)) 0 wc (fun j hj => HC1.out j hj)
    have BB := below_setCells bs (show w.heap.size ≤ bs by omega) (x.shape.map (Value.int .i64)) 0 wc BW
    have hROW : ∀ i, i < x.shape.length → (wc.setCells bs 0 (x.shape.map (Value.int .i64))).cell? ⟨bs, i, none⟩ = some (.int .i64 (x.shape[i]?.getD 0)) := by
      intro i hi
      have := SIN i (by simpa using hi)
      rw [Nat.zero_add] at this
      rw [this]
      simp [hi]
    generalize wc.setCells bs 0 (x.shape.map (Value.int .i64)) = w3 at hrun SB BB hROW
    have HROW := hide hROW
    have tr3 : ∀ b i v, b ≠ bs → wc.cell? ⟨b, i, none⟩ = some v → w3.cell? ⟨b, i, none⟩ = some v := fun b i v hne hv => by
      rw [World.cell?_of_block (w := wc) (SB.2 b hne)]; exact hv
    have tf3 : ∀ b i, b ≠ bs → wc.frozen? ⟨b, i, none⟩ = false → w3.frozen? ⟨b, i, none⟩ = false := fun b i hne hv => by
      rw [World.frozen?_of_block (w := wc) (SB.2 b hne)]; exact hv
    have Q1 : w3.cell? ⟨w.heap.size, 1, none⟩ = some (.slice a2 CA c2) := tr3 _ _ _ (by omega) ((E.cell (p := ⟨w.heap.size, 1, none⟩) (by show w.heap.size < _; omega)).trans q1)
    have O3 : w3.cell? ⟨bo, 0, none⟩ = some (.slice (some ⟨bs, 0, none⟩) SA SA) := tr3 _ _ _ (by omega) O0
    have O4 : w3.cell? ⟨bo, 1, none⟩ = some (.slice (some ⟨bc, 0, none⟩) CA CA) := tr3 _ _ _ (by omega) (cellof _ _ _ _ _ hbo rfl)
    have P3 : w3.cell? ⟨w.heap.size + 1, 0, none⟩ = some (.slice none 0 0) := tr3 _ _ _ (by omega) ((E.cell (p := ⟨w.heap.size + 1, 0, none⟩) (by show w.heap.size + 1 < _; omega)).trans p0)
    have P4 : w3.cell? ⟨w.heap.size + 1, 1, none⟩ = some (.slice none 0 0) := tr3 _ _ _ (by omega) ((E.cell (p := ⟨w.heap.size + 1, 1, none⟩) (by show w.heap.size + 1 < _; omega)).trans p1)
    have P5 : ∀ i, w3.frozen? ⟨w.heap.size + 1, i, none⟩ = false := fun i => tf3 _ _ (by omega) ((E.frozen (p := ⟨w.heap.size + 1, i, none⟩) (by show w.heap.size + 1 < _; omega)).trans (pf i))
    have hz3 : w3.heap.size = w.heap.size + 5 := SB.1.trans hz
    have RC : w3.rowIs bc 36 (CA * 3) zero3 := by
      have h0 : wc.rowIs bc 36 (CA * 3) zero3 := by
        obtain ⟨c, h1, h2, h3⟩ := rowIs_made3 wc (CA * 3)
        have e : c = madeCells #[.int .i64 0, .int .i64 0, .slice none 0 0] (CA * 3) := by
          have h4 : (wc.alloc (.cells (madeCells #[.int .i64 0, .int .i64 0, .slice none 0 0] (CA * 3)) 36)).heap[wc.heap.size]? = some (.cells (madeCells #[.int .i64 0, .int .i64 0, .slice none 0 0] (CA * 3)) 36) := by
            show (wc.heap.push _)[wc.heap.size]? = _
            simp
          rw [h4] at h1
          simp only [Option.some.injEq, Obj.cells.injEq, true_and] at h1
          exact h1.1.symm
        exact ⟨c, by rw [e]; exact hbc, h2, h3⟩
      exact h0.of_block (SB.2 bc (fun h => i7 h.symm))
    /- What a world in the loop still holds of the memory that was made before. -/
    have HKP : Hid (∀ wr : World, (∀ k, k < w.heap.size + 5 → k ≠ bc → wr.heap[k]? = w3.heap[k]?) → wr.cell? ⟨bo, 0, none⟩ = some (.slice (some ⟨bs, 0, none⟩) SA SA) ∧ wr.cell? ⟨bo, 1, none⟩ = some (.slice (some ⟨bc, 0, none⟩) CA CA) ∧ wr.cell? ⟨w.heap.size + 1, 0, none⟩ = some (.slice none 0 0) ∧ wr.cell? ⟨w.heap.size + 1, 1, none⟩ = some (.slice none 0 0) ∧ (∀ i, wr.frozen? ⟨w.heap.size + 1, i, none⟩ = false) ∧ ∀ i, i < x.shape.length → wr.cell? ⟨bs, i, none⟩ = some (.int .i64 (x.shape[i]?.getD 0))) := by
      intro wr h
      have t : ∀ b i v, b < w.heap.size + 5 → b ≠ bc → w3.cell? ⟨b, i, none⟩ = some v → wr.cell? ⟨b, i, none⟩ = some v := fun b i v h1 h2 h3 => by
        rw [World.cell?_of_block (w := w3) (h b h1 h2)]; exact h3
      exact ⟨t _ _ _ (by omega) (by omega) O3, t _ _ _ (by omega) (by omega) O4, t _ _ _ (by omega) (by omega) P3, t _ _ _ (by omega) (by omega) P4, fun i => by
        rw [World.frozen?_of_block (w := w3) (h (w.heap.size + 1) (by omega) (by omega))]; exact P5 i, fun i hi => t _ _ _ (by omega) (by omega) (HROW.out i hi)⟩
    have HBB := hide BB
    have HZ3 := hide hz3
    have HRC := hide RC
    have HLT : Hid (w.heap.size + 2 ≤ bs ∧ w.heap.size + 2 ≤ bc ∧ bs < w.heap.size + 5 ∧ bc < w.heap.size + 5 ∧ bo < w.heap.size + 5 ∧ bs ≠ bc ∧ bo ≠ bc ∧ w.heap.size + 2 ≤ bo) := ⟨i1, i3, i2, i4, i6, i7, fun h => i9 h.symm, i5⟩
    clear cellof RB BW HSRC hml HC1 HF1 HO1 SB SIN BB hROW tr3 tf3 O3 O4 P3 P4 P5 hz3 RC HROW HX E hbs hbc hbo q0 q1 p0 p1 pf B2 s2 e2 mk1 mk2 hz
    go_wp2
    go_loopw [23] (fun i wr => ∃ j : Nat, j ≤ CA ∧ i = .int .i64 (j : Int) ∧ BelowS w.heap.size w wr ∧ w.heap.size + 5 ≤ wr.heap.size ∧ (∀ k, k < w.heap.size + 5 → k ≠ bc → wr.heap[k]? = w3.heap[k]?) ∧ ∃ F, wr.rowIs bc 36 (CA * 3) F ∧ ∀ i, i < j → CeIn (ArIn n (w.heap.size + 5) wr) (w.heap.size + 5) wr (cAt x.cells i) (F (i * 3)) (F (i * 3 + 1)) (F (i * 3 + 2))) (fun i _ => CA - (intOf i).toNat)
    case atStart => exact ⟨0, Nat.zero_le _, rfl, HBB.out, by rw [HZ3.out]; exact Nat.le_refl _, fun _ _ _ => rfl, zero3, HRC.out, fun i hi => absurd hi (by omega)⟩
    case round =>
      obtain ⟨j, hj, rfl, hnx, hsz, hkeep, F, hr, hF⟩ := hrel
      obtain ⟨t0, t1, t2, t3, t4, t5⟩ := HKP.out wr hkeep
      by_cases hlt : j < CA
      · obtain ⟨b, off, z0, z1, ab, nb, cb, rfl, hcs⟩ := HCS.out j hlt
        obtain ⟨⟨k0, k1, k2⟩, -⟩ := hcs wr hnx
        have hal := hnx.alloc hnx.size (.cells #[.int .i64 z0, .int .i64 z1, .slice ab nb cb] 36)
        have hsa : ((wr.alloc (.cells #[.int .i64 z0, .int .i64 z1, .slice ab nb cb] 36)).drew).heap.size = wr.heap.size + 1 := by
          have : (wr.alloc (.cells #[.int .i64 z0, .int .i64 z1, .slice ab nb cb] 36)).heap.size = wr.heap.size + 1 := by simp
          exact this
        have C : Hid (Calls Try.prog 60 #[.agg #[.int .i64 z0, .int .i64 z1, .slice ab nb cb]] (wr.alloc (.cells #[.int .i64 z0, .int .i64 z1, .slice ab nb cb] 36)).drew fun e w' => (∃ a' cap', e = .returned (.agg #[.int .i64 z0, .int .i64 z1, .slice a' nb cap']) ∧ CeIn (ArIn n (w.heap.size + 5) w') (w.heap.size + 5) w' (cAt x.cells j) (.int .i64 z0) (.int .i64 z1) (.slice a' nb cap')) ∧ BelowS wr.heap.size wr w' ∧ w'.cell? ⟨wr.heap.size, 0, none⟩ = some (.int .i64 z0) ∧ w'.cell? ⟨wr.heap.size, 1, none⟩ = some (.int .i64 z1) ∧ w'.cell? ⟨wr.heap.size, 2, none⟩ = some (.slice ab nb cb)) := by
          refine ((hcs _ hal.drew).2).mono ?_
          rintro e w' ⟨⟨a', cap', he, hce⟩, hb'⟩
          rw [hsa] at hce hb'
          have tr : ∀ i v, #[Value.int .i64 z0, .int .i64 z1, .slice ab nb cb][i]? = some v → w'.cell? ⟨wr.heap.size, i, none⟩ = some v := fun i v hi => (hb'.cell (p := ⟨wr.heap.size, i, none⟩) (by show wr.heap.size < _; omega)).trans (cell_new0 wr _ 36 i v hi)
          exact ⟨⟨a', cap', he, hce.mono (by omega) (Below.refl _ _) fun x v hx => hx.mono (by omega) (Below.refl _ _)⟩, ((one_allocS wr _).drew).trans (hb'.mono (by omega)), tr 0 _ rfl, tr 1 _ rfl, tr 2 _ rfl⟩
        have hbcw : bc < wr.heap.size := by have := HLT.out; omega
        have HD : Hid (∀ w1 : World, BelowS wr.heap.size wr w1 → w1.cell? ⟨bc, j * 3, none⟩ = some (F (j * 3)) ∧ w1.cell? ⟨bc, j * 3 + 1, none⟩ = some (F (j * 3 + 1)) ∧ w1.cell? ⟨bc, j * 3 + 2, none⟩ = some (F (j * 3 + 2)) ∧ w1.frozen? ⟨bc, j * 3, none⟩ = false ∧ w1.frozen? ⟨bc, j * 3 + 1, none⟩ = false ∧ w1.frozen? ⟨bc, j * 3 + 2, none⟩ = false) := by
          intro w1 h
          have r1 : w1.rowIs bc 36 (CA * 3) F := hr.of_block (h.block bc hbcw)
          exact ⟨r1.cell (by omega), r1.cell (by omega), r1.cell (by omega), r1.frozen _, r1.frozen _, r1.frozen _⟩
        have KS : Hid (∀ w1 : World, BelowS wr.heap.size wr w1 → w1.cell? ⟨wr.heap.size, 0, none⟩ = some (.int .i64 z0) → w1.cell? ⟨wr.heap.size, 1, none⟩ = some (.int .i64 z1) → w1.cell? ⟨wr.heap.size, 2, none⟩ = some (.slice ab nb cb) → (w1.cell? ⟨bo, 1, none⟩ = some (.slice (some ⟨bc, 0, none⟩) CA CA) ∧ w1.cell? ⟨wr.heap.size, 0, none⟩ = some (.int .i64 z0) ∧ w1.cell? ⟨wr.heap.size, 1, none⟩ = some (.int .i64 z1) ∧ w1.cell? ⟨wr.heap.size, 2, none⟩ = some (.slice ab nb cb))) := fun w1 h x0 x1 x2 => ⟨(h.cell (p := ⟨bo, 1, none⟩) (by have := HLT.out; show bo < _; omega)).trans t1, x0, x1, x2⟩
        have D0 : Hid (BelowS wr.heap.size wr (wr.alloc (.cells #[.int .i64 z0, .int .i64 z1, .slice ab nb cb] 36)).drew ∧ (wr.alloc (.cells #[.int .i64 z0, .int .i64 z1, .slice ab nb cb] 36)).drew.cell? ⟨wr.heap.size, 0, none⟩ = some (.int .i64 z0) ∧ (wr.alloc (.cells #[.int .i64 z0, .int .i64 z1, .slice ab nb cb] 36)).drew.cell? ⟨wr.heap.size, 1, none⟩ = some (.int .i64 z1) ∧ (wr.alloc (.cells #[.int .i64 z0, .int .i64 z1, .slice ab nb cb] 36)).drew.cell? ⟨wr.heap.size, 2, none⟩ = some (.slice ab nb cb)) := ⟨(one_allocS _ _).drew, cell_new0 wr _ 36 0 _ rfl, cell_new0 wr _ 36 1 _ rfl, cell_new0 wr _ 36 2 _ rfl⟩
        have KT : Hid (∀ (w1 : World) (v0 v1 v2 : Value), (w1.cell? ⟨bo, 1, none⟩ = some (.slice (some ⟨bc, 0, none⟩) CA CA) ∧ w1.cell? ⟨wr.heap.size, 0, none⟩ = some (.int .i64 z0) ∧ w1.cell? ⟨wr.heap.size, 1, none⟩ = some (.int .i64 z1) ∧ w1.cell? ⟨wr.heap.size, 2, none⟩ = some (.slice ab nb cb)) → ((((w1.setCell ⟨bc, j * 3, none⟩ v0).setCell ⟨bc, j * 3 + 1, none⟩ v1).setCell ⟨bc, j * 3 + 2, none⟩ v2).cell? ⟨bo, 1, none⟩ = some (.slice (some ⟨bc, 0, none⟩) CA CA) ∧ (((w1.setCell ⟨bc, j * 3, none⟩ v0).setCell ⟨bc, j * 3 + 1, none⟩ v1).setCell ⟨bc, j * 3 + 2, none⟩ v2).cell? ⟨wr.heap.size, 0, none⟩ = some (.int .i64 z0) ∧ (((w1.setCell ⟨bc, j * 3, none⟩ v0).setCell ⟨bc, j * 3 + 1, none⟩ v1).setCell ⟨bc, j * 3 + 2, none⟩ v2).cell? ⟨wr.heap.size, 1, none⟩ = some (.int .i64 z1) ∧ (((w1.setCell ⟨bc, j * 3, none⟩ v0).setCell ⟨bc, j * 3 + 1, none⟩ v1).setCell ⟨bc, j * 3 + 2, none⟩ v2).cell? ⟨wr.heap.size, 2, none⟩ = some (.slice ab nb cb))) := by
          rintro w1 v0 v1 v2 ⟨g0, g1, g2, g3⟩
          have ap : ∀ (b i : Nat) (v : Value), b ≠ bc → w1.cell? ⟨b, i, none⟩ = some v → (((w1.setCell ⟨bc, j * 3, none⟩ v0).setCell ⟨bc, j * 3 + 1, none⟩ v1).setCell ⟨bc, j * 3 + 2, none⟩ v2).cell? ⟨b, i, none⟩ = some v := fun b i v hne hv => cell_apart (p := ⟨b, i, none⟩) (q := ⟨bc, j * 3 + 2, none⟩) hne _ (cell_apart (p := ⟨b, i, none⟩) (q := ⟨bc, j * 3 + 1, none⟩) hne _ (cell_apart (p := ⟨b, i, none⟩) (q := ⟨bc, j * 3, none⟩) hne _ hv))
          have hl := HLT.out
          exact ⟨ap _ _ _ (by omega) g0, ap _ _ _ (by omega) g1, ap _ _ _ (by omega) g2, ap _ _ _ (by omega) g3⟩
        have HEND : Hid (∀ w1 v0 v1 v2, BelowS wr.heap.size wr w1 → CeIn (ArIn n (w.heap.size + 5) w1) (w.heap.size + 5) w1 (cAt x.cells j) v0 v1 v2 → BelowS w.heap.size w (((w1.setCell ⟨bc, j * 3, none⟩ v0).setCell ⟨bc, j * 3 + 1, none⟩ v1).setCell ⟨bc, j * 3 + 2, none⟩ v2) ∧ w.heap.size + 5 ≤ (((w1.setCell ⟨bc, j * 3, none⟩ v0).setCell ⟨bc, j * 3 + 1, none⟩ v1).setCell ⟨bc, j * 3 + 2, none⟩ v2).heap.size ∧ (∀ k, k < w.heap.size + 5 → k ≠ bc → (((w1.setCell ⟨bc, j * 3, none⟩ v0).setCell ⟨bc, j * 3 + 1, none⟩ v1).setCell ⟨bc, j * 3 + 2, none⟩ v2).heap[k]? = w3.heap[k]?) ∧ ∃ F', (((w1.setCell ⟨bc, j * 3, none⟩ v0).setCell ⟨bc, j * 3 + 1, none⟩ v1).setCell ⟨bc, j * 3 + 2, none⟩ v2).rowIs bc 36 (CA * 3) F' ∧ ∀ i, i < j + 1 → CeIn (ArIn n (w.heap.size + 5) (((w1.setCell ⟨bc, j * 3, none⟩ v0).setCell ⟨bc, j * 3 + 1, none⟩ v1).setCell ⟨bc, j * 3 + 2, none⟩ v2)) (w.heap.size + 5) (((w1.setCell ⟨bc, j * 3, none⟩ v0).setCell ⟨bc, j * 3 + 1, none⟩ v1).setCell ⟨bc, j * 3 + 2, none⟩ v2) (cAt x.cells i) (F' (i * 3)) (F' (i * 3 + 1)) (F' (i * 3 + 2))) := by
          intro w1 v0 v1 v2 hb hnew
          have hl := HLT.out
          have hlo : w.heap.size ≤ bc := by omega
          refine ⟨(((hnx.trans (hb.mono hnx.size)).setCell (p := ⟨bc, j * 3, none⟩) hlo v0).setCell (p := ⟨bc, j * 3 + 1, none⟩) hlo v1).setCell (p := ⟨bc, j * 3 + 2, none⟩) hlo v2, ?_, ?_, fam_step (by omega) hb.b hbcw hr hF v0 v1 v2 hnew⟩
          · have : (((w1.setCell ⟨bc, j * 3, none⟩ v0).setCell ⟨bc, j * 3 + 1, none⟩ v1).setCell ⟨bc, j * 3 + 2, none⟩ v2).heap.size = w1.heap.size := by simp
            rw [this]; exact Nat.le_trans hsz hb.size
          · intro k h1 h2
            rw [BelowS.heap_setCell _ _ _ _ h2, BelowS.heap_setCell _ _ _ _ h2, BelowS.heap_setCell _ _ _ _ h2, hb.block k (by omega)]
            exact hkeep k h1 h2
        clear hcs hal hsa hr hF hkeep t0 t2 t3 t4 t5
        go_wp2
        go_region_held3 (fun W => W.cell? ⟨bo, 1, none⟩ = some (.slice (some ⟨bc, 0, none⟩) CA CA) ∧ W.cell? ⟨wr.heap.size, 0, none⟩ = some (.int .i64 z0) ∧ W.cell? ⟨wr.heap.size, 1, none⟩ = some (.int .i64 z1) ∧ W.cell? ⟨wr.heap.size, 2, none⟩ = some (.slice ab nb cb))
          (first | exact KS.out _ D0.out.1 D0.out.2.1 D0.out.2.2.1 D0.out.2.2.2 | exact KS.out _ (by assumption) (by assumption) (by assumption) (by assumption) | exact KT.out _ _ _ _ (by assumption))
          (first
            | (go_at_call 60; refine C.out.mono ?_; rintro e w1 ⟨⟨a', cap', rfl, hce⟩, hb1, hq0, hq1, hq2⟩; obtain ⟨y0, y1, y2, y3, y4, y5⟩ := HD.out _ hb1))
        have HFIN := hide (HEND.out w1 _ _ _ hb1 hce)
        clear HEND KT KS D0 HD C y0 y1 y2 y3 y4 y5 hq0 hq1 hq2 hce hb1
        go_wp2
        go_roundw
        case rel => exact ⟨j + 1, by omega, by go_num, HFIN.out⟩
        case measure => simp [intOf]; omega
      · have hje : j = CA := by omega
        subst hje
        have HFIN : Hid (∀ u v, GivesT n x w (.returned (.agg #[.slice (some ⟨bs, 0, none⟩) SA SA, .slice (some ⟨bc, 0, none⟩) j j])) ((wr.setCell ⟨w.heap.size + 1, 0, none⟩ u).setCell ⟨w.heap.size + 1, 1, none⟩ v)) := by
          intro u v
          have hl := HLT.out
          have hk : Keeps (w.heap.size + 2) wr ((wr.setCell ⟨w.heap.size + 1, 0, none⟩ u).setCell ⟨w.heap.size + 1, 1, none⟩ v) := ((Keeps.refl _ _).setCell (p := ⟨w.heap.size + 1, 0, none⟩) (by show w.heap.size + 1 < _; omega) u).setCell (p := ⟨w.heap.size + 1, 1, none⟩) (by show w.heap.size + 1 < _; omega) v
          refine ⟨⟨_, rfl, HAR.out _ _ _ _ _ ?_ ?_, ?_⟩, (hnx.setCell (p := ⟨w.heap.size + 1, 0, none⟩) (by show w.heap.size ≤ w.heap.size + 1; omega) u).setCell (p := ⟨w.heap.size + 1, 1, none⟩) (by show w.heap.size ≤ w.heap.size + 1; omega) v⟩
          · have hrow : Row (w.heap.size + 2) wr (some ⟨bs, 0, none⟩) x.shape := ⟨by rw [hSA]; exact HL.out, Or.inr ⟨bs, 0, rfl, by omega, by omega, fun i hi => by rw [Nat.zero_add]; exact t5 i hi⟩⟩
            exact (hrow.keeps hk).low (by omega)
          · have hcc : CellsIn n (w.heap.size + 2) wr x.cells (some ⟨bc, 0, none⟩) := by
              refine Or.inr ⟨bc, 0, rfl, by omega, by omega, fun i hi => ?_⟩
              rw [hCA] at hi
              rw [Nat.zero_add]
              exact ⟨_, _, _, hr.cell (by omega), hr.cell (by omega), hr.cell (by omega), (hF i hi).mono (by omega) (Below.refl _ _) fun x v hx => hx.mono (by omega) (Below.refl _ _)⟩
            exact (hcc.keeps hk).mono (by omega) (Below.refl _ _)
          · refine ⟨bs, bc, by rw [hSA, hCA], by omega, by have := hk.1; omega, fun i hi => ?_, fun w' hsz' hoff => ?_⟩
            · exact (hk.cell (p := ⟨bs, i, none⟩) (by show w.heap.size + 2 ≤ bs; omega) (by show bs < _; omega)).trans (t5 i hi)
            · have hss : ((wr.setCell ⟨w.heap.size + 1, 0, none⟩ u).setCell ⟨w.heap.size + 1, 1, none⟩ v).heap.size = wr.heap.size := by simp
              have hs1 : wr.heap.size ≤ w'.heap.size := by rw [hss] at hsz'; exact hsz'
              have hof : ∀ k, k < wr.heap.size → k ≠ bs → k ≠ w.heap.size + 1 → w'.heap[k]? = wr.heap[k]? := fun k h0 h1 h2 => by
                rw [hoff k (by rw [hss]; exact h0) h1, BelowS.heap_setCell _ _ _ _ h2, BelowS.heap_setCell _ _ _ _ h2]
              have hr' : w'.rowIs bc 36 (j * 3) F := hr.of_block (hof bc (by omega) (by omega) (by omega))
              have hk' : Keeps (w.heap.size + 5) wr w' := ⟨by omega, fun b h1 h2 => hof b h2 (by omega) (by omega)⟩
              refine Or.inr ⟨bc, 0, rfl, by omega, by omega, fun i hi => ?_⟩
              rw [hCA] at hi
              rw [Nat.zero_add]
              exact ⟨_, _, _, hr'.cell (by omega), hr'.cell (by omega), hr'.cell (by omega), ((hF i hi).keeps hk' fun x v hx => hx.keeps hk').mono (by omega) (Below.refl _ _) fun x v hx => hx.mono (by omega) (Below.refl _ _)⟩
        have HT := hide (set_two t2 t3 (.slice (some ⟨bs, 0, none⟩) SA SA) (.slice (some ⟨bc, 0, none⟩) j j))
        have f0 := t4 0
        have f1 := t4 1
        clear hr hF hkeep t4 t5 HCS HKP
        go_wp2
        exact bodyPost_ret (v := .agg #[.slice (some ⟨bs, 0, none⟩) SA SA, .slice (some ⟨bc, 0, none⟩) j j]) (by simp [results, Try.results30, go_sem, HT.out.1, HT.out.2]) rfl (HFIN.out _ _)
theorem copy_step (n : Nat) (IH : CopyC n) : CopyC (n + 1) := fun r x lo va w h hx => (copy_own n IH r x lo va w h hx).mono fun e w' ⟨⟨v, he, hv, _⟩, hb⟩ => ⟨⟨v, he, hv⟩, hb⟩
theorem copy_any (n : Nat) : CopyC n := by
  induction n with
  | zero => intro r x lo va w _ hx; exact hx.elim
  | succ n ih => exact copy_step n ih
/-- Copy, with what is known of where its answer lies. -/
theorem copy_at (n : Nat) : ∀ r x lo va w, chkA r x = 0 → ArIn (n + 1) lo w x va → Calls Try.prog 30 #[va] w fun e w' => GivesT n x w e w' := copy_own n (copy_any n)
end Go.Proofs.Ytmjncdhahdpplaa
namespace Go.Proofs.Ytmjncdhahdpplaa
open Go.ChangeShapes Go.WideShapes Go.ChangeAt Go.RowKit
set_option linter.unusedVariables false
/-- No more than d boxes within one another, whatever array of a box is gone into. -/
def Thin : Nat → Ar → Prop
  | 0, x => ∀ i, i < x.cells.length → ∀ k, k < (cAt x.cells i).2.2.length → False
  | d + 1, x => ∀ i, i < x.cells.length → ∀ k, k < (cAt x.cells i).2.2.length → Thin d (bAt (cAt x.cells i).2.2 k)
/-- The same, of one array of a box. -/
def ThinK (d : Nat) (y : Ar) : Prop := match d with
  | 0 => False
  | d + 1 => Thin d y
theorem thin_iff (d : Nat) (x : Ar) : Thin d x ↔ ∀ i, i < x.cells.length → ∀ k, k < (cAt x.cells i).2.2.length → ThinK d (bAt (cAt x.cells i).2.2 k) := by
  cases d <;> rfl
/-- The arrays of a cell's box, in whatever world is later. -/
theorem boxes_at {n lo : Nat} {w : World} {x : Ar} {a2 : Option Addr} (hc : CellsIn n lo w x.cells a2) (i : Nat) (hi : i < x.cells.length) :
    ∃ b off ab cb, a2 = some ⟨b, off, none⟩ ∧ (cAt x.cells i).2.2.length ≤ 5864062014805 ∧ (∀ wr, Below w.heap.size w wr → wr.cell? ⟨b, off + i * 3 + 2, none⟩ = some (.slice ab (cAt x.cells i).2.2.length cb)) ∧
      ∀ k, k < (cAt x.cells i).2.2.length → ∃ bb ob u0 u1, ab = some ⟨bb, ob, none⟩ ∧ ∀ wr, Below w.heap.size w wr → wr.cell? ⟨bb, ob + k * 2, none⟩ = some u0 ∧ wr.cell? ⟨bb, ob + k * 2 + 1, none⟩ = some u1 ∧ ArIn n lo wr (bAt (cAt x.cells i).2.2 k) (.agg #[u0, u1]) := by
  rcases hc with hc | ⟨b, off, ha, hlo, hb, hc⟩
  · rw [hc] at hi; simp at hi
  obtain ⟨v0, v1, v2, e0, e1, e2, rfl, rfl, ab, cb, rfl, hl, hx⟩ := hc i hi
  refine ⟨b, off, ab, cb, ha, hl, fun wr hw => (hw.cell (p := ⟨b, off + i * 3 + 2, none⟩) hb).trans e2, ?_⟩
  intro k hk
  rcases hx with hx | ⟨bb, ob, rfl, hlo', hbb, hx⟩
  · rw [hx] at hk; simp at hk
  obtain ⟨u0, u1, g0, g1, g2⟩ := hx k hk
  exact ⟨bb, ob, u0, u1, rfl, fun wr hw => ⟨(hw.cell (p := ⟨bb, ob + k * 2, none⟩) hbb).trans g0, (hw.cell (p := ⟨bb, ob + k * 2 + 1, none⟩) hbb).trans g1, g2.next hw⟩⟩
/-- What the weighing of an array no deeper than d promises. -/
def WeighC (d : Nat) : Prop := ∀ n x lo va w (M : Int), ArIn n lo w x va → 0 ≤ M → M ≤ 4000 → Calls Try.prog 54 #[va, .int .i64 M, .int .i64 (d : Int)] w fun e w' => (∃ r : Int, e = .returned (.int .i64 r) ∧ 0 ≤ r ∧ r ≤ 147000000000000 + 5000 * (d : Int) ∧ (r ≤ M → Thin d x)) ∧ Below w.heap.size w w'
set_option maxHeartbeats 4000000 in
theorem weigh_step (d : Nat) (hd : d ≤ 16) (IH : ∀ d', d = d' + 1 → WeighC d') : WeighC d := by
  intro n x lo va w M hx hM0 hM
  cases n with
  | zero => exact hx.elim
  | succ n =>
  obtain ⟨a1, c1, a2, c2, rfl, R, hl, hc⟩ := hx
  have hlR := R.1
  have HT : Hid ((∀ i, i < x.cells.length → ∀ k, k < (cAt x.cells i).2.2.length → ThinK d (bAt (cAt x.cells i).2.2 k)) → Thin d x) := (thin_iff d x).2
  have hb0 := one_alloc w (.cells #[.slice a1 x.shape.length c1, .slice a2 x.cells.length c2] 25)
  have q := cell_new0 w #[.slice a1 x.shape.length c1, .slice a2 x.cells.length c2] 25 1 _ rfl
  have HB := hide (boxes_at hc)
  /- A world later on: the memory that came in, and the array's own cells. -/
  have HQ := hide (And.intro hb0 (And.intro q (show w.heap.size < (w.alloc (.cells #[.slice a1 x.shape.length c1, .slice a2 x.cells.length c2] 25)).heap.size by simp)))
  clear R hc hb0 q
  generalize hNL : (fun i => (cAt x.cells i).2.2.length) = NL at *
  generalize hY : (fun i k => bAt (cAt x.cells i).2.2 k) = Y at *
  have HB' : Hid (∀ i, i < x.cells.length → ∃ b off ab cb, a2 = some ⟨b, off, none⟩ ∧ NL i ≤ 5864062014805 ∧ (∀ wr, Below w.heap.size w wr → wr.cell? ⟨b, off + i * 3 + 2, none⟩ = some (.slice ab (NL i) cb)) ∧
      ∀ k, k < NL i → ∃ bb ob u0 u1, ab = some ⟨bb, ob, none⟩ ∧ ∀ wr, Below w.heap.size w wr → wr.cell? ⟨bb, ob + k * 2, none⟩ = some u0 ∧ wr.cell? ⟨bb, ob + k * 2 + 1, none⟩ = some u1 ∧ ArIn n lo wr (Y i k) (.agg #[u0, u1])) := by
    subst hNL hY
    exact HB.out
  have HT' : Hid ((∀ i, i < x.cells.length → ∀ k, k < NL i → ThinK d (Y i k)) → Thin d x) := by
    subst hNL hY
    exact HT.out
  clear HB HT hNL hY
  generalize x.shape.length = SA at *
  generalize x.cells.length = CA at *
  go_enter Try.func54, Try.ntmps54
  go_wp2
  go_loopg [7, 8] CA (fun g nv i wr => ∃ (j : Nat) (N : Int), g + j = CA ∧ i = .int .i64 (j : Int) ∧ nv = .int .i64 N ∧ 0 ≤ N ∧ N ≤ 147000000000000 + 5000 * (d : Int) ∧ (N ≤ M → ∀ i, i < j → ∀ k, k < NL i → ThinK d (Y i k)) ∧ Below w.heap.size w wr ∧ wr.cell? ⟨w.heap.size, 1, none⟩ = some (.slice a2 CA c2) ∧ w.heap.size < wr.heap.size)
  case atStart => exact ⟨0, (CA : Int) + (SA : Int), rfl, rfl, by go_num, by omega, by omega, by intro _ i hi; omega, HQ.out.1, HQ.out.2.1, HQ.out.2.2⟩
  case round =>
    clear HQ
    obtain ⟨j, N, hj, rfl, rfl, hN0, hN1, hthin, hnx, hcl, hsz⟩ := hrel
    have HTH := hide hthin
    have HSZ := hide hsz
    clear hthin hsz
    by_cases hlt : j < CA
    · by_cases hNM : N ≤ M
      · have HOUT := hide (HTH.out hNM)
        clear HTH
        obtain ⟨b, off, ab, cb, rfl, hnl, hbox, hboxes⟩ := HB'.out j hlt
        have HBOX := hide hbox
        have HBXS := hide hboxes
        have HS1 : Hid (NL j = NL j) := rfl
        clear hbox hboxes HB'
        obtain ⟨L, hL⟩ : ∃ L, NL j = L := ⟨_, rfl⟩
        have HLL := hide hL
        rw [hL] at hnl HBOX HBXS
        clear hL HS1
        go_wp2
        go_loopg [7, 9] L (fun g nv kv wr => ∃ (k : Nat) (N' : Int), g + k = L ∧ kv = .int .i64 (k : Int) ∧ nv = .int .i64 N' ∧ 0 ≤ N' ∧ N' ≤ 147000000000000 + 5000 * (d : Int) ∧ (N' ≤ M → ∀ k', k' < k → ThinK d (Y j k')) ∧ Below w.heap.size w wr ∧ wr.cell? ⟨w.heap.size, 1, none⟩ = some (.slice (some ⟨b, off, none⟩) CA c2) ∧ w.heap.size < wr.heap.size)
        case atStart => exact ⟨0, N, rfl, rfl, rfl, hN0, hN1, by intro _ k' hk'; omega, hnx, hcl, HSZ.out⟩
        case round =>
          clear hnx hcl HSZ hN0 hN1 hNM
          obtain ⟨k, N', hk, rfl, rfl, hN0, hN1, hthin, hnx, hcl, hsz⟩ := hrel
          have HTH := hide hthin
          have HSZ := hide hsz
          have hbx := HBOX.out _ hnx
          clear hthin hsz
          by_cases hkl : k < L
          · by_cases hNM : N' ≤ M
            · by_cases hd0 : d = 0
              · subst hd0
                clear HBXS HBOX
                go_wp2
                go_ret
                exact ⟨⟨M + 1, by go_num, by omega, by omega, fun h => absurd h (by omega)⟩, hnx⟩
              · obtain ⟨d', rfl⟩ : ∃ d', d = d' + 1 := ⟨d - 1, by omega⟩
                obtain ⟨bb, ob, u0, u1, rfl, hcs⟩ := HBXS.out k hkl
                obtain ⟨g0, g1, g2⟩ := hcs _ hnx
                have C : Hid (∀ D : Int, D = (d' : Int) → Calls Try.prog 54 #[.agg #[u0, u1], .int .i64 (M - N'), .int .i64 D] wr fun e w' => (∃ r : Int, e = .returned (.int .i64 r) ∧ 0 ≤ r ∧ r ≤ 147000000000000 + 5000 * (d' : Int) ∧ (r ≤ M - N' → Thin d' (Y j k))) ∧ Below wr.heap.size wr w') := by
                  rintro D rfl
                  exact IH d' rfl n _ lo _ wr (M - N') g2 (by omega) (by omega)
                have hd1 : ((d' + 1 : Nat) : Int) ≠ 0 := by omega
                clear hcs g2 HBXS hd0
                go_wp2_with fail
                refine (C.out _ (by omega)).mono ?_
                rintro e w1 ⟨⟨r, rfl, hr0, hr1, hrt⟩, hb1⟩
                have HRT := hide hrt
                clear hrt C
                go_wp2
                go_roundg (L - (k + 1))
                case rel =>
                  refine ⟨k + 1, N' + 1 + r, by omega, by go_num, by go_num, by omega, by omega, ?_, hnx.trans (hb1.mono hnx.size), (hb1.cell (p := ⟨w.heap.size, 1, none⟩) HSZ.out).trans hcl, Nat.lt_of_lt_of_le HSZ.out hb1.size⟩
                  intro hle k' hk'
                  rcases Nat.lt_succ_iff_lt_or_eq.1 hk' with h | rfl
                  · exact HTH.out hNM k' h
                  · exact HRT.out (by omega)
                case measure => omega
            · clear HBXS HBOX
              go_wp2
              go_roundg (CA - (j + 1))
              case rel => exact ⟨j + 1, N', by omega, by go_num, rfl, hN0, hN1, fun h => absurd h (by omega), hnx, hcl, HSZ.out⟩
              case measure => omega
          · have hke : k = L := by omega
            subst hke
            clear HBXS HBOX
            go_wp2
            go_roundg (CA - (j + 1))
            case rel =>
              refine ⟨j + 1, N', by omega, by go_num, rfl, hN0, hN1, ?_, hnx, hcl, HSZ.out⟩
              intro hle i hi k' hk'
              rcases Nat.lt_succ_iff_lt_or_eq.1 hi with h | rfl
              · exact HOUT.out i h k' hk'
              · exact HTH.out hle k' (by rw [HLL.out] at hk'; exact hk')
            case measure => omega
      · go_wp2
        go_ret
        exact ⟨⟨N, rfl, hN0, hN1, fun h => absurd h (by omega)⟩, hnx⟩
    · have hje : j = CA := by omega
      subst hje
      have HFIN : Hid (N ≤ M → Thin d x) := fun h => HT'.out (HTH.out h)
      clear HB' HTH HT'
      go_wp2
      go_ret
      exact ⟨⟨N, rfl, hN0, hN1, HFIN.out⟩, hnx⟩
theorem weigh_any (d : Nat) (hd : d ≤ 16) : WeighC d := by
  induction d with
  | zero => exact weigh_step 0 hd fun d' h => absurd h (by omega)
  | succ d ih =>
    refine weigh_step (d + 1) hd fun d' h => ?_
    have : d' = d := by omega
    subst this
    exact ih (by omega)
set_option maxHeartbeats 1000000 in
theorem weight_any {n lo : Nat} {x : Ar} {va : Value} {w : World} (hx : ArIn n lo w x va) : Calls Try.prog 23 #[va, .int .i64 4000] w fun e w' => (∃ r : Int, e = .returned (.int .i64 r) ∧ (r ≤ 4000 → Thin 16 x)) ∧ Below w.heap.size w w' := by
  have C := fun w' hb => weigh_any 16 (Nat.le_refl _) n x lo va w' 4000 (hx.next hb) (by omega) (by omega)
  cases n with
  | zero => exact hx.elim
  | succ n =>
    obtain ⟨a1, c1, a2, c2, rfl, -⟩ := hx
    generalize x.shape.length = SA at *
    generalize x.cells.length = CA at *
    have C1 := C _ (one_alloc w (.cells #[.slice a1 SA c1, .slice a2 CA c2] 25))
    clear C
    go_enter Try.func23, Try.ntmps23
    go_wp2_with fail
    refine C1.mono ?_
    rintro e w1 ⟨⟨r, rfl, -, -, hr⟩, hb1⟩
    have HR := hide hr
    clear hr
    go_wp2
    go_ret
    exact ⟨⟨r, rfl, HR.out⟩, (one_alloc _ _).trans (hb1.mono (one_alloc _ _).size)⟩
end Go.Proofs.Ytmjncdhahdpplaa
