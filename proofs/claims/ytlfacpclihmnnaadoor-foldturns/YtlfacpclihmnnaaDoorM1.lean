/-
  The contract of the document's Cmp and Same; for all arrays.
  A slice of int64 that came in, as a row of numbers: what the walks are told of it, that it stays while nothing old is changed, and how many numbers it has by the bulk of its reading; no condition.
  The contracts of what layer 3's Check and the document's rest on: whether there is a sign of a number, and whether a cell may be; for all numbers and cells.
  Layer 4 as plain mathematics: what a function of one cell, of two cells, of one array, of two arrays is, and what two shapes come to; no program is named.
  The contracts of layer 4's small functions: what a function of one number, of two numbers, of a cell, of two cells is; whether there is such a function; a shape in new memory. Conditions: numbers of 64 bits, and for those that look it up the table of layer 4 as its text lays it.
  The contract of layer 4's closure of Dy; for all arrays of 64 bits, the table of layer 4 in its place.
  The contracts of the document's answer for layer 4: a function of one cell, of two cells; for all cells of 64 bits.
  The contract of the document's Cell of layer 4 (a function of two cells); for all cells of 64 bits.
  The contract of layer 4's Cell (a function of two cells), and what it calls; for all cells of 64 bits, the table of layer 4 in its place.
  The contracts of the document's look at a cell, and of layer 3's Check and the document's; for all arrays.
  The contract of layer 4's Mo; for all arrays of 64 bits.
  The contract of layer 4's Dy; for all arrays of 64 bits, the table of layer 4 in its place.
  The contracts of layer 3's Places and of the document's: where a cell stands, axis by axis, in memory of its own; for all shapes and numbers.
  The contract of layer 3's Text; and what the document's Nums and Text rest on: a row of cells put together by append.
  The contracts of the document's Nums and Text: numbers and signs as arrays, put together by append; at most 16384 numbers.
  The contracts of layer 3's Atom and of the document's, and of layer 3's trial run: it answers true.
  What a call of layer 3's statements is told of a slice of numbers that came in: it is a row of numbers; and Places' answer as one row and one error.
  What a call of layer 3's statements is told of an array or a cell that came in: it is one of the plain arrays or cells, as deep as it may be; no condition.
  Rows that append has put together: numbers behind a row of the call's own (nil or not), cells one by one; what is known of a loop that appends to a field of a variable. No program's function is named.
-/
import Derived.Test.YtlfacpclihmnnaaDoorM0
import Derived.WalkKit
import Derived.Test.YtlfacpclihmnnaaDoorChecked
import GoSem.Claim
import GoSem.ClaimJoined
import GoSem.ClaimMapViews
import Derived.JoinedTies
import Derived.KernelRfl
import Derived.ProofKit
import Derived.Below
import Derived.Deep.OwnRows
import Derived.Deep.QuietTactic
import Derived.BigQuiet
import Derived.Deep.RegionWith
import Derived.Laws.MakeOwn
import Derived.Deep.RegionHeld3
import Derived.OpenShut
import Derived.Lib.Mul64
import Derived.Laws.Bits64b
import Derived.ChangeOld
import Derived.SizedLaws
import Derived.Deep.Slices
import Derived.Deep.Strs
import Derived.Deep.LoopGhost
import Derived.Laws.IdiomCopy
import Derived.Deep.Cut
import Derived.Deep.RegionLaw
import Derived.Laws.AppendOwnNone
import Derived.BigFrame
import Derived.Laws.OwnMore
import Derived.OwnWalk
import Derived.Lib.SliceRun
import Derived.Deep.CutRange
import Derived.Laws.EntriesVeiled
import GoSem.ClaimSeven
import Derived.LaidByTextLater
import Derived.SevenTiedAt
import Derived.LaidSub
import Derived.LaidOnce
import Derived.Deep.DeepHandedRow
import Derived.Lib.LaidTab
namespace Go.Proofs.YtlfacpclihmnnaaDoor
open Go.ChangeShapes Go.WideShapes Go.ChangeAt Go.RowKit
set_option linter.unusedVariables false
theorem hide {p : Prop} (h : p) : Hid p := h
theorem firstUp_zero {f : Nat → Int} {m : Nat} (h : firstUp f m = 0) (j : Nat) (hj : j ≤ m) : firstUp f j = 0 :=
  Decidable.byContradiction fun h' => h' (by rw [← firstUp_stays h' m hj]; exact h)
set_option maxHeartbeats 2000000 in
theorem rcmp_any (n : Nat) : CmpC 40 n := by
  induction n with
  | zero => intro x y lo lo' va vb w hx; exact hx.elim
  | succ n IH =>
    intro x y lo lo' va vb w hx hy
    obtain ⟨a1, c1, a2, c2, rfl, R, hl, hc⟩ := hx
    obtain ⟨b1, d1, b2, d2, rfl, R', hl', hd⟩ := hy
    have hlR := R.1
    have hlR' := R'.1
    have K1 : Hid (cmp3 x.shape.length y.shape.length ≠ 0 → cmpA (n + 1) x y = cmp3 x.shape.length y.shape.length) := fun h => by simp only [cmpA]; rw [if_pos h]
    have K2 : Hid (¬ cmp3 x.shape.length y.shape.length ≠ 0 → firstUp (axF x y) x.shape.length ≠ 0 → cmpA (n + 1) x y = firstUp (axF x y) x.shape.length) := fun h h' => by simp only [cmpA]; rw [if_neg h, if_pos h']
    have K3 : Hid (¬ cmp3 x.shape.length y.shape.length ≠ 0 → ¬ firstUp (axF x y) x.shape.length ≠ 0 → firstUp (ceF (cmpA n) x y) (min x.cells.length y.cells.length) ≠ 0 → cmpA (n + 1) x y = firstUp (ceF (cmpA n) x y) (min x.cells.length y.cells.length)) := fun h h' h'' => by simp only [cmpA]; rw [if_neg h, if_neg h', if_pos h'']
    have K4 : Hid (¬ cmp3 x.shape.length y.shape.length ≠ 0 → ¬ firstUp (axF x y) x.shape.length ≠ 0 → ¬ firstUp (ceF (cmpA n) x y) (min x.cells.length y.cells.length) ≠ 0 → cmpA (n + 1) x y = cmp3 x.cells.length y.cells.length) := fun h h' h'' => by simp only [cmpA]; rw [if_neg h, if_neg h', if_neg h'']
    generalize cmpA (n + 1) x y = r at K1 K2 K3 K4
    have hb0 := two_allocs w (.cells #[.slice a1 x.shape.length c1, .slice a2 x.cells.length c2] 25) (.cells #[.slice b1 y.shape.length d1, .slice b2 y.cells.length d2] 25)
    have sz := size_two w (.cells #[.slice a1 x.shape.length c1, .slice a2 x.cells.length c2] 25) (.cells #[.slice b1 y.shape.length d1, .slice b2 y.cells.length d2] 25)
    have A0 := cell_new1 w #[.slice a1 x.shape.length c1, .slice a2 x.cells.length c2] 25 (0, 0) (.cells #[.slice b1 y.shape.length d1, .slice b2 y.cells.length d2] 25) 0 _ rfl
    have A1 := cell_new1 w #[.slice a1 x.shape.length c1, .slice a2 x.cells.length c2] 25 (0, 0) (.cells #[.slice b1 y.shape.length d1, .slice b2 y.cells.length d2] 25) 1 _ rfl
    have B0 := cell_new2 w #[.slice b1 y.shape.length d1, .slice b2 y.cells.length d2] 25 (0, 0) (.cells #[.slice a1 x.shape.length c1, .slice a2 x.cells.length c2] 25) 0 _ rfl
    have B1 := cell_new2 w #[.slice b1 y.shape.length d1, .slice b2 y.cells.length d2] 25 (0, 0) (.cells #[.slice a1 x.shape.length c1, .slice a2 x.cells.length c2] 25) 1 _ rfl
    obtain ⟨W2, eW⟩ : ∃ W2, W2 = (w.alloc (.cells #[.slice a1 x.shape.length c1, .slice a2 x.cells.length c2] 25)).alloc (.cells #[.slice b1 y.shape.length d1, .slice b2 y.cells.length d2] 25) := ⟨_, rfl⟩
    rw [← eW] at hb0 sz A0 A1 B0 B1
    /- What a world later on still holds. -/
    have HA : Hid (∀ wr, Below (w.heap.size + 2) W2 wr → wr.cell? ⟨w.heap.size, 0, none⟩ = some (.slice a1 x.shape.length c1) ∧ wr.cell? ⟨w.heap.size, 1, none⟩ = some (.slice a2 x.cells.length c2) ∧ wr.cell? ⟨w.heap.size + 1, 0, none⟩ = some (.slice b1 y.shape.length d1) ∧ wr.cell? ⟨w.heap.size + 1, 1, none⟩ = some (.slice b2 y.cells.length d2)) := by
      intro wr hb
      exact ⟨(hb.cell (p := ⟨w.heap.size, 0, none⟩) (by show w.heap.size < _; omega)).trans A0, (hb.cell (p := ⟨w.heap.size, 1, none⟩) (by show w.heap.size < _; omega)).trans A1, (hb.cell (p := ⟨w.heap.size + 1, 0, none⟩) (by show w.heap.size + 1 < _; omega)).trans B0, (hb.cell (p := ⟨w.heap.size + 1, 1, none⟩) (by show w.heap.size + 1 < _; omega)).trans B1⟩
    have HW : Hid (∀ wr, Below (w.heap.size + 2) W2 wr → Below w.heap.size w wr) := fun wr hb => hb0.trans (hb.mono (by omega))
    have HS : Hid (∀ i, i < x.shape.length → i < y.shape.length → ∃ b off b' off' s t, a1 = some ⟨b, off, none⟩ ∧ b1 = some ⟨b', off', none⟩ ∧ axF x y i = cmp3 s t ∧ ∀ wr, Below (w.heap.size + 2) W2 wr → wr.cell? ⟨b, off + i, none⟩ = some (.int .i64 s) ∧ wr.cell? ⟨b', off' + i, none⟩ = some (.int .i64 t)) := by
      intro i hi hi'
      obtain ⟨b, off, ha, hb, hck⟩ := row_at R hi
      obtain ⟨b', off', ha', hb', hck'⟩ := row_at R' hi'
      exact ⟨b, off, b', off', _, _, ha, ha', rfl, fun wr hw => ⟨((HW.out wr hw).cell (p := ⟨b, off + i, none⟩) hb).trans hck, ((HW.out wr hw).cell (p := ⟨b', off' + i, none⟩) hb').trans hck'⟩⟩
    have HC : Hid (∀ i, i < x.cells.length → i < y.cells.length → ∃ b off b' off' v0 v1 v2 u0 u1 u2, a2 = some ⟨b, off, none⟩ ∧ b2 = some ⟨b', off', none⟩ ∧ ∀ wr, Below (w.heap.size + 2) W2 wr → (wr.cell? ⟨b, off + i * 3, none⟩ = some v0 ∧ wr.cell? ⟨b, off + i * 3 + 1, none⟩ = some v1 ∧ wr.cell? ⟨b, off + i * 3 + 2, none⟩ = some v2) ∧ (wr.cell? ⟨b', off' + i * 3, none⟩ = some u0 ∧ wr.cell? ⟨b', off' + i * 3 + 1, none⟩ = some u1 ∧ wr.cell? ⟨b', off' + i * 3 + 2, none⟩ = some u2) ∧
        Calls Tryd.prog 20 #[.agg #[v0, v1, v2], .agg #[u0, u1, u2]] wr.drew fun e w' => e = .returned (.int .i64 (ceF (cmpA n) x y i)) ∧ Below (w.heap.size + 2) W2 w') := by
      intro i hi hi'
      rcases hc with hc | ⟨b, off, ha, hlo, hb, hc⟩
      · rw [hc] at hi; simp at hi
      rcases hd with hd | ⟨b', off', ha', hlo', hb', hd⟩
      · rw [hd] at hi'; simp at hi'
      obtain ⟨v0, v1, v2, e0, e1, e2, e3⟩ := hc i hi
      obtain ⟨u0, u1, u2, f0, f1, f2, f3⟩ := hd i hi'
      refine ⟨b, off, b', off', v0, v1, v2, u0, u1, u2, ha, ha', ?_⟩
      intro wr hw
      have hbw := HW.out wr hw
      refine ⟨⟨(hbw.cell (p := ⟨b, off + i * 3, none⟩) hb).trans e0, (hbw.cell (p := ⟨b, off + i * 3 + 1, none⟩) hb).trans e1, (hbw.cell (p := ⟨b, off + i * 3 + 2, none⟩) hb).trans e2⟩,
        ⟨(hbw.cell (p := ⟨b', off' + i * 3, none⟩) hb').trans f0, (hbw.cell (p := ⟨b', off' + i * 3 + 1, none⟩) hb').trans f1, (hbw.cell (p := ⟨b', off' + i * 3 + 2, none⟩) hb').trans f2⟩, ?_⟩
      have hbm := hbw.drew
      refine (rcell_any n IH _ _ lo lo' wr.drew _ _ _ _ _ _ (e3.mono (Nat.le_refl _) hbm fun x v h => h.next hbm) (f3.mono (Nat.le_refl _) hbm fun x v h => h.next hbm)).mono ?_
      rintro e w2 ⟨he, hb2⟩
      have hws := hw.size
      exact ⟨he, hw.drew.trans (hb2.mono (by show w.heap.size + 2 ≤ wr.heap.size; omega))⟩
    have HR : Hid (Below (w.heap.size + 2) W2 W2) := Below.refl _ _
    clear hc hd R R' IH A0 B0 A1 B1 hb0 sz
    have HZ1 : Hid (firstUp (axF x y) 0 = 0 ∧ firstUp (ceF (cmpA n) x y) 0 = 0) := ⟨rfl, rfl⟩
    have HE : Hid (¬ cmp3 x.shape.length y.shape.length ≠ 0 → x.shape.length = y.shape.length) := fun h1 => Decidable.byContradiction fun h => h1 (cmp3_ne.2 (by omega))
    generalize axF x y = ax at *
    generalize ceF (cmpA n) x y = ce at *
    generalize x.shape.length = SA at *
    generalize y.shape.length = SB at *
    generalize x.cells.length = CA at *
    generalize y.cells.length = CB at *
    obtain ⟨r1, er1⟩ : ∃ r1, cmp3 SA SB = r1 := ⟨_, rfl⟩
    rw [er1] at K1 K2 K3 K4 HE
    by_cases h1 : r1 ≠ 0
    · have hr : Hid (r = r1) := K1.out h1
      clear K1 K2 K3 K4 HS HC
      go_enter Tryd.func40, Tryd.ntmps40
      go_wp2_with fail
      refine (ref_ints _ _ _).mono ?_
      rintro e w1 ⟨rfl, hw⟩
      rw [hw, er1, ← eW]
      clear hw eW
      go_wp2
      go_loopw [5, 6] (fun o i wr => o = .int .i64 r1 ∧ i = .int .i64 0 ∧ Below (w.heap.size + 2) W2 wr) (fun _ i _ => 0)
      case atStart => exact ⟨rfl, rfl, HR.out⟩
      case round =>
        obtain ⟨rfl, rfl, hnx⟩ := hrel
        obtain ⟨q0, q1, q2, q3⟩ := HA.out _ hnx
        have HX : Hid (Below (w.heap.size + 2) W2 wr) := hnx
        by_cases gS : 0 < SA
        · go_wp2
          clear q0 q1 q2 q3 hnx
          go_loopw [5, 7] (fun o i wr => o = .int .i64 r1 ∧ i = .int .i64 0 ∧ Below (w.heap.size + 2) W2 wr) (fun _ i _ => 0)
          case atStart => exact ⟨rfl, rfl, HX.out⟩
          case round =>
            obtain ⟨rfl, rfl, hnx⟩ := hrel
            obtain ⟨q0, q1, q2, q3⟩ := HA.out _ hnx
            by_cases gA : 0 < CA
            · by_cases gB : 0 < CB
              · go_wp2
                go_ret
                exact ⟨retI hr.out.symm, HW.out _ hnx⟩
              · have gB0 : CB = 0 := by omega
                subst gB0
                go_wp2
                go_ret
                exact ⟨retI hr.out.symm, HW.out _ hnx⟩
            · have gA0 : CA = 0 := by omega
              subst gA0
              go_wp2
              go_ret
              exact ⟨retI hr.out.symm, HW.out _ hnx⟩
        · have gS0 : SA = 0 := by omega
          subst gS0
          go_wp2
          clear q0 q1 q2 q3 hnx
          go_loopw [5, 7] (fun o i wr => o = .int .i64 r1 ∧ i = .int .i64 0 ∧ Below (w.heap.size + 2) W2 wr) (fun _ i _ => 0)
          case atStart => exact ⟨rfl, rfl, HX.out⟩
          case round =>
            obtain ⟨rfl, rfl, hnx⟩ := hrel
            obtain ⟨q0, q1, q2, q3⟩ := HA.out _ hnx
            by_cases gA : 0 < CA
            · by_cases gB : 0 < CB
              · go_wp2
                go_ret
                exact ⟨retI hr.out.symm, HW.out _ hnx⟩
              · have gB0 : CB = 0 := by omega
                subst gB0
                go_wp2
                go_ret
                exact ⟨retI hr.out.symm, HW.out _ hnx⟩
            · have gA0 : CA = 0 := by omega
              subst gA0
              go_wp2
              go_ret
              exact ⟨retI hr.out.symm, HW.out _ hnx⟩
    · have H1 : Hid (¬ r1 ≠ 0) := h1
      have hS := HE.out h1
      have z1 : r1 = 0 := by simpa using h1
      subst z1
      subst hS
      clear h1 K1 HE
      obtain ⟨F1, eF1⟩ : ∃ F1, firstUp ax SA = F1 := ⟨_, rfl⟩
      have HF1 : Hid (firstUp ax SA = F1) := eF1
      rw [eF1] at K2 K3 K4
      clear eF1
      by_cases h2 : F1 ≠ 0
      · have hr : Hid (r = F1) := K2.out H1.out h2
        have HN : Hid (F1 ≠ 0) := h2
        clear K2 K3 K4 H1 HC
        go_enter Tryd.func40, Tryd.ntmps40
        go_wp2_with fail
        refine (ref_ints _ _ _).mono ?_
        rintro e w1 ⟨rfl, hw⟩
        rw [hw, er1, ← eW]
        clear hw eW er1
        go_wp2
        go_loopw [5, 6] (fun o i wr => ∃ j : Nat, j ≤ SA ∧ i = .int .i64 (j : Int) ∧ o = .int .i64 (firstUp ax j) ∧ Below (w.heap.size + 2) W2 wr) (fun _ i _ => SA - (intOf i).toNat)
        case atStart => exact ⟨0, Nat.zero_le _, rfl, by rw [HZ1.out.1], HR.out⟩
        case round =>
          obtain ⟨j, hj, rfl, rfl, hnx⟩ := hrel
          by_cases hz : firstUp ax j = 0
          · have hlt : j < SA := by
              rcases Nat.lt_or_eq_of_le hj with h | h
              · exact h
              · subst h; rw [HF1.out] at hz; exact absurd hz HN.out
            obtain ⟨b, off, b', off', s, t, rfl, rfl, hst, hcs⟩ := HS.out j hlt (by omega)
            obtain ⟨k0, k1⟩ := hcs wr hnx
            obtain ⟨q0, q1, q2, q3⟩ := HA.out _ hnx
            have HST : Hid (firstUp ax (j + 1) = cmp3 s t) := by rw [firstUp_step hz]; exact hst
            rw [hz]
            clear hst hcs hz HS HF1
            go_wp2
            go_quiet ((go_at_call 48; exact Calls.quiet_of_same (ref_ints _ _ _)))
            go_wp2
            go_roundw
            case rel => exact ⟨j + 1, by omega, by go_num, by rw [HST.out], drewN_below hnx _⟩
            case measure => simp [intOf]; omega
          · have hF : firstUp ax j = F1 := by rw [← HF1.out]; exact (firstUp_stays hz SA hj).symm
            rw [hF]
            obtain ⟨q0, q1, q2, q3⟩ := HA.out _ hnx
            have HX : Hid (Below (w.heap.size + 2) W2 wr) := hnx
            clear hz hF HF1 HS
            by_cases gS : j < SA
            · go_wp2
              clear q0 q1 q2 q3 hnx
              go_loopw [5, 7] (fun o i wr => o = .int .i64 F1 ∧ i = .int .i64 0 ∧ Below (w.heap.size + 2) W2 wr) (fun _ i _ => 0)
              case atStart => exact ⟨rfl, rfl, HX.out⟩
              case round =>
                obtain ⟨rfl, rfl, hnx⟩ := hrel
                obtain ⟨q0, q1, q2, q3⟩ := HA.out _ hnx
                by_cases gA : 0 < CA
                · by_cases gB : 0 < CB
                  · go_wp2
                    go_ret
                    exact ⟨retI hr.out.symm, HW.out _ hnx⟩
                  · have gB0 : CB = 0 := by omega
                    subst gB0
                    go_wp2
                    go_ret
                    exact ⟨retI hr.out.symm, HW.out _ hnx⟩
                · have gA0 : CA = 0 := by omega
                  subst gA0
                  go_wp2
                  go_ret
                  exact ⟨retI hr.out.symm, HW.out _ hnx⟩
            · go_wp2
              clear q0 q1 q2 q3 hnx
              go_loopw [5, 7] (fun o i wr => o = .int .i64 F1 ∧ i = .int .i64 0 ∧ Below (w.heap.size + 2) W2 wr) (fun _ i _ => 0)
              case atStart => exact ⟨rfl, rfl, HX.out⟩
              case round =>
                obtain ⟨rfl, rfl, hnx⟩ := hrel
                obtain ⟨q0, q1, q2, q3⟩ := HA.out _ hnx
                by_cases gA : 0 < CA
                · by_cases gB : 0 < CB
                  · go_wp2
                    go_ret
                    exact ⟨retI hr.out.symm, HW.out _ hnx⟩
                  · have gB0 : CB = 0 := by omega
                    subst gB0
                    go_wp2
                    go_ret
                    exact ⟨retI hr.out.symm, HW.out _ hnx⟩
                · have gA0 : CA = 0 := by omega
                  subst gA0
                  go_wp2
                  go_ret
                  exact ⟨retI hr.out.symm, HW.out _ hnx⟩
      · have H2 : Hid (¬ F1 ≠ 0) := h2
        have z2 : F1 = 0 := by simpa using h2
        subst z2
        clear h2 K2
        obtain ⟨F2, eF2⟩ : ∃ F2, firstUp ce (min CA CB) = F2 := ⟨_, rfl⟩
        have HF2 : Hid (firstUp ce (min CA CB) = F2) := eF2
        rw [eF2] at K3 K4
        clear eF2
        go_enter Tryd.func40, Tryd.ntmps40
        go_wp2_with fail
        refine (ref_ints _ _ _).mono ?_
        rintro e w1 ⟨rfl, hw⟩
        rw [hw, er1, ← eW]
        clear hw eW er1
        go_wp2
        go_loopw [5, 6] (fun o i wr => ∃ j : Nat, j ≤ SA ∧ i = .int .i64 (j : Int) ∧ o = .int .i64 0 ∧ Below (w.heap.size + 2) W2 wr) (fun _ i _ => SA - (intOf i).toNat)
        case atStart => exact ⟨0, Nat.zero_le _, rfl, rfl, HR.out⟩
        case round =>
          obtain ⟨j, hj, rfl, rfl, hnx⟩ := hrel
          by_cases hlt : j < SA
          · clear HC HF2 K3 K4 H1 H2
            obtain ⟨b, off, b', off', s, t, rfl, rfl, hst, hcs⟩ := HS.out j hlt (by omega)
            obtain ⟨k0, k1⟩ := hcs wr hnx
            obtain ⟨q0, q1, q2, q3⟩ := HA.out _ hnx
            have hst0 : cmp3 s t = 0 := by
              rw [← hst, ← firstUp_step (firstUp_zero HF1.out j hj)]
              exact firstUp_zero HF1.out (j + 1) hlt
            clear hst hcs HS HF1
            go_wp2
            go_quiet ((go_at_call 48; exact Calls.quiet_of_same (ref_ints _ _ _)))
            go_wp2
            go_roundw
            case rel => exact ⟨j + 1, by omega, by go_num, by rw [hst0], drewN_below hnx _⟩
            case measure => simp [intOf]; omega
          · obtain ⟨q0, q1, q2, q3⟩ := HA.out _ hnx
            have HX : Hid (Below (w.heap.size + 2) W2 wr) := hnx
            clear HS HF1
            by_cases h3 : F2 ≠ 0
            · have hr : Hid (r = F2) := K3.out H1.out H2.out h3
              have HN : Hid (F2 ≠ 0) := h3
              clear K3 K4 H1 H2
              go_wp2
              clear q0 q1 q2 q3 hnx
              go_loopw [5, 7] (fun o i wr => ∃ j : Nat, j ≤ min CA CB ∧ i = .int .i64 (j : Int) ∧ o = .int .i64 (firstUp ce j) ∧ Below (w.heap.size + 2) W2 wr) (fun _ i _ => min CA CB - (intOf i).toNat)
              case atStart => exact ⟨0, Nat.zero_le _, rfl, by rw [HZ1.out.2], HX.out⟩
              case round =>
                clear HX
                obtain ⟨k, hk, rfl, rfl, hnx⟩ := hrel
                obtain ⟨q0, q1, q2, q3⟩ := HA.out _ hnx
                by_cases hz : firstUp ce k = 0
                · have hlt : k < min CA CB := by
                    rcases Nat.lt_or_eq_of_le hk with h | h
                    · exact h
                    · subst h; rw [HF2.out] at hz; exact absurd hz HN.out
                  have gA : k < CA := by omega
                  have gB : k < CB := by omega
                  obtain ⟨b, off, b', off', v0, v1, v2, u0, u1, u2, rfl, rfl, hcs⟩ := HC.out k gA gB
                  obtain ⟨⟨k0, k1, k2⟩, ⟨k3, k4, k5⟩, C⟩ := hcs wr hnx
                  have HST : Hid (firstUp ce (k + 1) = ce k) := firstUp_step hz
                  rw [hz]
                  have HCC := hide C
                  clear C hcs hz HC HF2
                  go_wp2
                  go_region_with (go_at_call 20; refine HCC.out.mono ?_; rintro e w1 ⟨rfl, hb1⟩)
                  all_goals go_wp2
                  all_goals
                    go_roundw
                    case rel => exact ⟨k + 1, by omega, by go_num, by rw [HST.out], hb1⟩
                    case measure => simp [intOf]; omega
                · have hF : firstUp ce k = F2 := by rw [← HF2.out]; exact (firstUp_stays hz _ hk).symm
                  rw [hF]
                  clear hz hF HF2 HC
                  by_cases gA : k < CA
                  · by_cases gB : k < CB
                    · go_wp2
                      go_ret
                      exact ⟨retI hr.out.symm, HW.out _ hnx⟩
                    · go_wp2
                      go_ret
                      exact ⟨retI hr.out.symm, HW.out _ hnx⟩
                  · go_wp2
                    go_ret
                    exact ⟨retI hr.out.symm, HW.out _ hnx⟩
            · have hr : Hid (r = cmp3 CA CB) := K4.out H1.out H2.out h3
              have z3 : F2 = 0 := by simpa using h3
              subst z3
              clear K3 K4 H1 H2 h3
              go_wp2
              clear q0 q1 q2 q3 hnx
              go_loopw [5, 7] (fun o i wr => ∃ j : Nat, j ≤ min CA CB ∧ i = .int .i64 (j : Int) ∧ o = .int .i64 0 ∧ Below (w.heap.size + 2) W2 wr) (fun _ i _ => min CA CB - (intOf i).toNat)
              case atStart => exact ⟨0, Nat.zero_le _, rfl, rfl, HX.out⟩
              case round =>
                clear HX
                obtain ⟨k, hk, rfl, rfl, hnx⟩ := hrel
                obtain ⟨q0, q1, q2, q3⟩ := HA.out _ hnx
                by_cases hlt : k < min CA CB
                · have gA : k < CA := by omega
                  have gB : k < CB := by omega
                  obtain ⟨b, off, b', off', v0, v1, v2, u0, u1, u2, rfl, rfl, hcs⟩ := HC.out k gA gB
                  obtain ⟨⟨k0, k1, k2⟩, ⟨k3, k4, k5⟩, C⟩ := hcs wr hnx
                  have hst0 : ce k = 0 := by
                    rw [← firstUp_step (firstUp_zero HF2.out k hk)]
                    exact firstUp_zero HF2.out (k + 1) hlt
                  rw [hst0] at C
                  have HCC := hide C
                  clear C hcs HC HF2 hst0
                  go_wp2
                  go_region_with (go_at_call 20; refine HCC.out.mono ?_; rintro e w1 ⟨rfl, hb1⟩)
                  all_goals go_wp2
                  all_goals
                    go_roundw
                    case rel => exact ⟨k + 1, by omega, by go_num, rfl, hb1⟩
                    case measure => simp [intOf]; omega
                · clear HF2 HC
                  by_cases gA : k < CA
                  · have gB : ¬ k < CB := by omega
                    go_wp2_with fail
                    refine (ref_ints _ _ _).mono ?_
                    rintro e w1 ⟨rfl, hw⟩
                    rw [hw]
                    clear hw
                    go_wp2
                    go_ret
                    exact ⟨retI hr.out.symm, HW.out _ hnx⟩
                  · go_wp2_with fail
                    refine (ref_ints _ _ _).mono ?_
                    rintro e w1 ⟨rfl, hw⟩
                    rw [hw]
                    clear hw
                    go_wp2
                    go_ret
                    exact ⟨retI hr.out.symm, HW.out _ hnx⟩
set_option maxHeartbeats 1000000 in
theorem rsame_any {n lo lo' : Nat} {x y : Ar} {va vb : Value} {w : World} (hx : ArIn n lo w x va) (hy : ArIn n lo' w y vb) :
    Calls Tryd.prog 14 #[va, vb] w fun e w' => e = .returned (.bool (decide (cmpA n x y = 0))) ∧ Below w.heap.size w w' := by
  have C := fun w' hb => rcmp_any n x y lo lo' va vb w' (hx.next hb) (hy.next hb)
  cases n with
  | zero => exact hx.elim
  | succ n =>
    obtain ⟨a1, c1, a2, c2, rfl, -⟩ := hx
    obtain ⟨b1, d1, b2, d2, rfl, -⟩ := hy
    generalize cmpA (n + 1) x y = r at C
    have HC : Hid _ := C
    clear C
    generalize x.shape.length = SA at *
    generalize y.shape.length = SB at *
    generalize x.cells.length = CA at *
    generalize y.cells.length = CB at *
    go_enter Tryd.func14, Tryd.ntmps14
    go_wp2_with fail
    refine (HC.out _ (two_allocs _ _ _)).mono ?_
    rintro e w1 ⟨rfl, hb1⟩
    go_wp2
    go_ret
    exact ⟨rfl, (two_allocs _ _ _).trans (hb1.mono (two_allocs _ _ _).size)⟩
end Go.Proofs.YtlfacpclihmnnaaDoor
namespace Go.Proofs.YtlfacpclihmnnaaDoor.Num
open Go.ChangeShapes Go.WideShapes Go.ChangeAt Go.RowKit
theorem in64 {a : Int} (h : (Lit.int .i64 a).wf = true) : In64 a := by
  have := bounds_i64 h
  constructor <;> omega
theorem Row.below {w w1 : World} {a : Option Addr} {zs : List Int} (h : Row w a zs) (hb : Below w.heap.size w w1) : Row w1 a zs := by
  obtain ⟨h1, h2, h3⟩ := h
  refine ⟨h1, h2, ?_⟩
  rcases h3 with h3 | ⟨b, off, ha, hbb, hc⟩
  · exact Or.inl h3
  · exact Or.inr ⟨b, off, ha, Nat.lt_of_lt_of_le hbb hb.size, fun k hk => (hb.cell (p := ⟨b, off + k, none⟩) hbb).trans (hc k hk)⟩
end Go.Proofs.YtlfacpclihmnnaaDoor.Num
namespace Go.Proofs.YtlfacpclihmnnaaDoor
open Go.ChangeShapes Go.WideShapes Go.ChangeAt Go.RowKit
set_option linter.unusedVariables false
def Good (z : Int) : Prop := (0 ≤ z ∧ z < 55296) ∨ (57343 < z ∧ z < 1114112)
instance (z : Int) : Decidable (Good z) := inferInstanceAs (Decidable (_ ∨ _))
set_option maxHeartbeats 1000000 in
theorem validRune_any (z : Int) (w : World) : Calls Tryd.prog 103 #[.int .i32 z] w fun e w' => e = .returned (.bool (decide (Good z))) ∧ w' = w := by
  by_cases h1 : z < 0
  · have hr : decide (Good z) = false := decide_eq_false (by unfold Good; omega)
    rw [hr]
    clear hr
    have : ¬ 0 ≤ z := by omega
    have : ¬ 57343 < z := by omega
    go_enter Tryd.func103, Tryd.ntmps103
    go_wp2
    go_ret
    exact ⟨rfl, rfl⟩
  · have h1' : 0 ≤ z := by omega
    clear h1
    by_cases h2 : z < 55296
    · have hr : decide (Good z) = true := decide_eq_true (by unfold Good; omega)
      rw [hr]
      clear hr
      go_enter Tryd.func103, Tryd.ntmps103
      go_wp2
      go_ret
      exact ⟨rfl, rfl⟩
    · by_cases h3 : 57343 < z
      · by_cases h4 : z ≤ 1114111
        · have hr : decide (Good z) = true := decide_eq_true (by unfold Good; omega)
          rw [hr]
          clear hr
          go_enter Tryd.func103, Tryd.ntmps103
          go_wp2
          go_ret
          exact ⟨rfl, rfl⟩
        · have hr : decide (Good z) = false := decide_eq_false (by unfold Good; omega)
          rw [hr]
          clear hr
          go_enter Tryd.func103, Tryd.ntmps103
          go_wp2
          go_ret
          exact ⟨rfl, rfl⟩
      · have hr : decide (Good z) = false := decide_eq_false (by unfold Good; omega)
        rw [hr]
        clear hr
        go_enter Tryd.func103, Tryd.ntmps103
        go_wp2
        go_ret
        exact ⟨rfl, rfl⟩
set_option maxHeartbeats 1000000 in
theorem isSign_any (z : Int) (w : World) : Calls Tryd.prog 98 #[.int .i64 z] w fun e w' => e = .returned (.bool (decide (Good z))) ∧ w' = w := by
  have C := validRune_any (wrap32 z) w
  by_cases h : -2147483648 ≤ z ∧ z ≤ 2147483647
  · have hw : wrap32 z = z := by unfold wrap32; omega
    rw [hw] at C
    clear hw
    obtain ⟨h1, h2⟩ := h
    go_enter Tryd.func98, Tryd.ntmps98
    go_wp2_with (go_at_call 103; refine C.mono ?_; rintro e w' ⟨rfl, hw⟩; rw [hw])
    go_ret
    exact ⟨rfl, rfl⟩
  · have hr : decide (Good z) = false := decide_eq_false (by unfold Good; omega)
    have hw : ¬ z = wrap32 z := by unfold wrap32; omega
    rw [hr]
    clear hr C h
    have hb1 : -2147483648 ≤ wrap32 z := by unfold wrap32; omega
    have hb2 : wrap32 z ≤ 2147483647 := by unfold wrap32; omega
    have hd : decide (z = wrap32 z) = false := decide_eq_false hw
    generalize hy : wrap32 z = y at hw hb1 hb2 hd
    go_enter Tryd.func98, Tryd.ntmps98
    go_wp2_with fail
    go_ret
    exact ⟨rfl, rfl⟩
set_option maxHeartbeats 1000000 in
theorem rgood_any (z : Int) (w : World) : Calls Tryd.prog 91 #[.int .i64 z] w fun e w' => e = .returned (.bool (decide (Good z))) ∧ w' = w := by
  by_cases h1 : z < 0
  · have hr : decide (Good z) = false := decide_eq_false (by unfold Good; omega)
    rw [hr]
    clear hr
    have : ¬ 0 ≤ z := by omega
    have : ¬ 57343 < z := by omega
    go_enter Tryd.func91, Tryd.ntmps91
    go_wp2
    go_ret
    exact ⟨rfl, rfl⟩
  · have h1' : 0 ≤ z := by omega
    clear h1
    by_cases h2 : z < 55296
    · have hr : decide (Good z) = true := decide_eq_true (by unfold Good; omega)
      rw [hr]
      clear hr
      go_enter Tryd.func91, Tryd.ntmps91
      go_wp2
      go_ret
      exact ⟨rfl, rfl⟩
    · by_cases h3 : 57343 < z
      · by_cases h4 : z < 1114112
        · have hr : decide (Good z) = true := decide_eq_true (by unfold Good; omega)
          rw [hr]
          clear hr
          go_enter Tryd.func91, Tryd.ntmps91
          go_wp2
          go_ret
          exact ⟨rfl, rfl⟩
        · have hr : decide (Good z) = false := decide_eq_false (by unfold Good; omega)
          rw [hr]
          clear hr
          go_enter Tryd.func91, Tryd.ntmps91
          go_wp2
          go_ret
          exact ⟨rfl, rfl⟩
      · have hr : decide (Good z) = false := decide_eq_false (by unfold Good; omega)
        rw [hr]
        clear hr
        go_enter Tryd.func91, Tryd.ntmps91
        go_wp2
        go_ret
        exact ⟨rfl, rfl⟩
/-- Whether a cell may be, given the same of the array in its box. -/
def chkC (f : Ar → Int) (c : Ce) : Int :=
  if c.1 = 2 ∧ c.2.1 = 0 ∧ c.2.2.length = 1 then f (bAt c.2.2 0) else if c.2.2.length = 0 ∧ (c.1 = 0 ∨ c.1 = 1 ∧ Good c.2.1) then 0 else 1
def chkF (f : Ar → Int) (x : Ar) (i : Nat) : Int := chkC f (cAt x.cells i)
/-- Whether an array may be, given the same of the arrays in its boxes. -/
def chkB (f : Ar → Int) (x : Ar) : Int :=
  if sizeE x.shape ≠ 0 then sizeE x.shape else if sizeV x.shape ≠ x.cells.length then 1 else if hasLong x.shape then 12 else firstUp (chkF f x) x.cells.length
/-- Whether an array may be that may bear so many boxes within one another. -/
def chkA : Nat → Ar → Int
  | 0, x => chkB (fun _ => 15) x
  | r + 1, x => chkB (chkA r) x
/-- What the look into the next box promises. -/
def InnerC (k n B : Nat) (f : Ar → Int) : Prop := B ≤ 8 ∧ (B = 8 → f = fun _ => 15) ∧ (B < 8 → ∀ y lo vb w, ArIn n lo w y vb → Calls Tryd.prog k #[vb, .int .i64 ((B : Int) + 1)] w fun e w' => e = .returned (.int .i64 (f y)) ∧ Below w.heap.size w w')
theorem one_alloc (w : World) (o : Obj) : Below w.heap.size w (w.alloc o) := (Below.refl _ _).alloc (Nat.le_refl _) _
theorem cell_one {w : World} {b off : Nat} {v : Value} (h : w.cell? ⟨b, off, none⟩ = some v) (hb : b < w.heap.size) (o : Obj) : (w.alloc o).cell? ⟨b, off, none⟩ = some v :=
  ((one_alloc w o).cell (p := ⟨b, off, none⟩) hb).trans h
set_option maxHeartbeats 1000000 in
theorem checkCell_any (n B : Nat) (f : Ar → Int) (IH : InnerC 76 n B f) (c : Ce) (lo : Nat) (w : World) (v0 v1 v2 : Value) (hc : CeIn (ArIn n lo w) lo w c v0 v1 v2) :
    Calls Tryd.prog 92 #[.agg #[v0, v1, v2], .int .i64 (B : Int)] w fun e w' => e = .returned (.int .i64 (chkC f c)) ∧ Below w.heap.size w w' := by
  obtain ⟨rfl, rfl, a, cap, rfl, hl, hx⟩ := hc
  obtain ⟨k, N, box⟩ := c
  simp only at hl hx ⊢
  obtain ⟨i1, i2, i3⟩ := IH
  have K1 : Hid (k = 2 ∧ N = 0 ∧ box.length = 1 → chkC f (k, N, box) = f (bAt box 0)) := fun h => by unfold chkC; rw [if_pos h]
  have K2 : Hid (¬ (k = 2 ∧ N = 0 ∧ box.length = 1) → box.length = 0 ∧ (k = 0 ∨ k = 1 ∧ Good N) → chkC f (k, N, box) = 0) := fun h h' => by unfold chkC; rw [if_neg h, if_pos h']
  have K3 : Hid (¬ (k = 2 ∧ N = 0 ∧ box.length = 1) → ¬ (box.length = 0 ∧ (k = 0 ∨ k = 1 ∧ Good N)) → chkC f (k, N, box) = 1) := fun h h' => by unfold chkC; rw [if_neg h, if_neg h']
  generalize chkC f (k, N, box) = r at K1 K2 K3
  by_cases h1 : k = 2 ∧ N = 0 ∧ box.length = 1
  · have hr := K1.out h1
    obtain ⟨rfl, rfl, hb1⟩ := h1
    rcases hx with hx | ⟨b, off, rfl, hlo, hb, hx⟩
    · rw [hx] at hb1; simp at hb1
    obtain ⟨s0, s1, e0, e1, e2⟩ := hx 0 (by omega)
    simp only [Nat.zero_mul, Nat.add_zero] at e0 e1
    have g0 := cell_one e0 hb
    have g1 := cell_one e1 hb
    clear K1 K2 K3 hx hlo
    by_cases h8 : B = 8
    · subst h8
      have hr' : Hid (r = 15) := by rw [hr, i2 rfl]; exact rfl
      clear hr i2 i3 e2
      rw [hb1]
      go_enter Tryd.func92, Tryd.ntmps92
      go_wp2
      go_ret
      exact ⟨retI hr'.out.symm, one_alloc _ _⟩
    · have i4 := i3 (by omega) (bAt box 0) lo _ ((w.alloc (.cells #[.int .i64 2, .int .i64 0, .slice (some ⟨b, off, none⟩) 1 cap] 43))) (e2.next (one_alloc _ _))
      rw [← hr] at i4
      have hB : (B : Int) < 8 := by omega
      have HB1 : Hid (Below w.heap.size w (w.alloc (.cells #[.int .i64 2, .int .i64 0, .slice (some ⟨b, off, none⟩) 1 cap] 43))) := one_alloc _ _
      clear i2 i3 h8 hr e2
      rw [hb1]
      clear hb1
      go_enter Tryd.func92, Tryd.ntmps92
      go_wp2_with fail
      refine i4.mono ?_
      rintro e w1 ⟨rfl, hb1⟩
      go_wp2
      go_ret
      exact ⟨rfl, HB1.out.trans (hb1.mono HB1.out.size)⟩
  · have K2' : Hid (box.length = 0 ∧ (k = 0 ∨ k = 1 ∧ Good N) → r = 0) := K2.out h1
    have K3' : Hid (¬ (box.length = 0 ∧ (k = 0 ∨ k = 1 ∧ Good N)) → r = 1) := K3.out h1
    clear K1 K2 K3 hx i2 i3
    generalize box.length = L at *
    by_cases hk2 : k = 2
    · have hr : Hid (r = 1) := K3'.out (by omega)
      subst hk2
      clear K2' K3'
      by_cases hN : N = 0
      · subst hN
        have hL : ¬ L = 1 := by omega
        clear h1
        by_cases hL0 : L = 0
        · subst hL0
          go_enter Tryd.func92, Tryd.ntmps92
          go_wp2
          go_ret
          exact ⟨retI hr.out.symm, one_alloc _ _⟩
        · have hL' : ¬ (L : Int) = 1 := by omega
          have hL0' : ¬ (L : Int) = 0 := by omega
          go_enter Tryd.func92, Tryd.ntmps92
          go_wp2
          go_ret
          exact ⟨retI hr.out.symm, one_alloc _ _⟩
      · clear h1
        by_cases hL0 : L = 0
        · subst hL0
          go_enter Tryd.func92, Tryd.ntmps92
          go_wp2
          go_ret
          exact ⟨retI hr.out.symm, one_alloc _ _⟩
        · have hL0' : ¬ (L : Int) = 0 := by omega
          go_enter Tryd.func92, Tryd.ntmps92
          go_wp2
          go_ret
          exact ⟨retI hr.out.symm, one_alloc _ _⟩
    · clear h1
      by_cases hL0 : L = 0
      · by_cases hk0 : k = 0
        · have hr : Hid (r = 0) := K2'.out ⟨hL0, Or.inl hk0⟩
          subst hL0
          subst hk0
          clear K2' K3'
          go_enter Tryd.func92, Tryd.ntmps92
          go_wp2
          go_ret
          exact ⟨retI hr.out.symm, one_alloc _ _⟩
        · by_cases hk1 : k = 1
          · by_cases hg : Good N
            · have hr : Hid (r = 0) := K2'.out ⟨hL0, Or.inr ⟨hk1, hg⟩⟩
              subst hL0
              subst hk1
              have C := fun w => isSign_any N w
              rw [decide_eq_true hg] at C
              clear K2' K3' hg
              go_enter Tryd.func92, Tryd.ntmps92
              go_wp2_with (go_at_call 98; refine (C _).mono ?_; rintro e w' ⟨rfl, hw⟩; rw [hw])
              go_ret
              exact ⟨retI hr.out.symm, one_alloc _ _⟩
            · have hr : Hid (r = 1) := K3'.out (by
                rintro ⟨_, h | h⟩
                · exact hk0 h
                · exact hg h.2)
              subst hL0
              subst hk1
              have C := fun w => isSign_any N w
              rw [decide_eq_false hg] at C
              clear K2' K3' hg
              go_enter Tryd.func92, Tryd.ntmps92
              go_wp2_with (go_at_call 98; refine (C _).mono ?_; rintro e w' ⟨rfl, hw⟩; rw [hw])
              go_ret
              exact ⟨retI hr.out.symm, one_alloc _ _⟩
          · have hr : Hid (r = 1) := K3'.out (by
              rintro ⟨_, h | h⟩
              · exact hk0 h
              · exact hk1 h.1)
            subst hL0
            clear K2' K3'
            go_enter Tryd.func92, Tryd.ntmps92
            go_wp2
            go_ret
            exact ⟨retI hr.out.symm, one_alloc _ _⟩
      · have hr : Hid (r = 1) := K3'.out (fun h => hL0 h.1)
        have hL0' : ¬ (L : Int) = 0 := by omega
        clear K2' K3'
        go_enter Tryd.func92, Tryd.ntmps92
        go_wp2
        go_ret
        exact ⟨retI hr.out.symm, one_alloc _ _⟩
end Go.Proofs.YtlfacpclihmnnaaDoor
namespace Go.Proofs.YtlfacpclihmnnaaDoor
open Go.ChangeShapes Go.WideShapes Go.ChangeAt Go.RowKit
open Num (resV resE In64 sgnI absI)
def isOp (op : Int) : Bool := decide (21 ≤ op ∧ op ≤ 32)
def tr (b : Bool) : Int := if b then 1 else 0
def twoV (op a b : Int) : Int :=
  if op = 21 then resV (a + b) else if op = 22 then resV (a - b) else if op = 23 then resV (a * b) else if op = 24 then min a b else if op = 25 then max a b else if op = 26 then b.fmod a
  else if op = 29 then tr (decide (a < b)) else if op = 30 then tr (decide (b < a)) else if op = 31 then tr (decide (a ≤ b)) else tr (decide (b ≤ a))
def twoE (op a b : Int) : Int := if op = 21 then resE (a + b) else if op = 22 then resE (a - b) else if op = 23 then resE (a * b) else 0
def eqE (c d : Ce) : Int := if c.1 = 2 ∨ d.1 = 2 then 5 else 0
def eqV (op : Int) (c d : Ce) : Int := if c.1 = 2 ∨ d.1 = 2 then 0 else if op = 27 then tr (decide (c.1 = d.1 ∧ c.2.1 = d.2.1)) else tr (!decide (c.1 = d.1 ∧ c.2.1 = d.2.1))
def c2E (op : Int) (c d : Ce) : Int := if isOp op = false then 1 else if op = 27 ∨ op = 28 then eqE c d else if c.1 = 0 ∧ d.1 = 0 then twoE op c.2.1 d.2.1 else 5
def c2V (op : Int) (c d : Ce) : Int := if isOp op = false then 0 else if op = 27 ∨ op = 28 then eqV op c d else if c.1 = 0 ∧ d.1 = 0 then twoV op c.2.1 d.2.1 else 0
theorem res_bad {x : Int} (h : resE x ≠ 0) : resV x = 0 := by
  unfold resE at h; unfold resV
  split at h
  · exact absurd rfl h
  · rename_i hf; rw [if_neg hf]
theorem two_bad {op a b : Int} (h : twoE op a b ≠ 0) : twoV op a b = 0 := by
  unfold twoE at h; unfold twoV
  split
  · rw [if_pos ‹_›] at h; exact res_bad h
  · rw [if_neg ‹_›] at h
    split
    · rw [if_pos ‹_›] at h; exact res_bad h
    · rw [if_neg ‹_›] at h
      split
      · rw [if_pos ‹_›] at h; exact res_bad h
      · rw [if_neg ‹_›] at h; exact absurd rfl h
theorem eq_bad {op : Int} {c d : Ce} (h : eqE c d ≠ 0) : eqV op c d = 0 := by
  unfold eqE at h; unfold eqV
  split
  · rfl
  · rw [if_neg ‹_›] at h; exact absurd rfl h
theorem c2_bad {op : Int} {c d : Ce} (h : c2E op c d ≠ 0) : c2V op c d = 0 := by
  unfold c2E at h; unfold c2V
  split
  · rfl
  · rw [if_neg ‹_›] at h
    split
    · rw [if_pos ‹_›] at h; exact eq_bad h
    · rw [if_neg ‹_›] at h
      split
      · rw [if_pos ‹_›] at h; exact two_bad h
      · rfl
/-- The cell of an array that stands beside a place. -/
def sideC (x : Ar) (i : Nat) : Ce := if x.shape = [] then cAt x.cells 0 else cAt x.cells i
/-- What is known of an array that may be: its cells are as many as its shape says. -/
theorem chk_size {r : Nat} {x : Ar} (h : chkA r x = 0) : sizeE x.shape = 0 ∧ sizeV x.shape = x.cells.length := by
  have key : ∀ f : Ar → Int, chkB f x = 0 → sizeE x.shape = 0 ∧ sizeV x.shape = x.cells.length := by
    intro f hb
    unfold chkB at hb
    by_cases h1 : sizeE x.shape = 0
    · rw [if_neg (fun k => k h1)] at hb
      by_cases h2 : sizeV x.shape = x.cells.length
      · exact ⟨h1, h2⟩
      · rw [if_pos h2] at hb; omega
    · rw [if_pos h1] at hb; exact absurd hb h1
  cases r with
  | zero => exact key _ h
  | succ r => exact key _ h
end Go.Proofs.YtlfacpclihmnnaaDoor
namespace Go.Proofs.YtlfacpclihmnnaaDoor
open Go.ChangeShapes Go.WideShapes Go.ChangeAt Go.RowKit
open Num (resV resE In64 sgnI absI)
set_option linter.unusedVariables false
theorem ret2 {k l : IntKind} {a b c d : Int} (h : a = b) (h' : c = d) : Ending.returned (.tuple #[.int k a, .int l c]) = .returned (.tuple #[.int k b, .int l d]) := by rw [h, h']
theorem three_allocs (w : World) (o1 o2 o3 : Obj) : Below w.heap.size w (((w.alloc o1).alloc o2).alloc o3) := (two_allocs w o1 o2).trans ((one_alloc _ o3).mono (by simp; omega))
theorem after3 {w w2 : World} {o1 o2 o3 : Obj} (h : Below (((w.alloc o1).alloc o2).alloc o3).heap.size (((w.alloc o1).alloc o2).alloc o3) w2) : Below w.heap.size w w2 := (three_allocs _ _ _ _).trans (h.mono (three_allocs _ _ _ _).size)
theorem below_set2 {B : Nat} {a w : World} {b : Nat} {v0 v1 : Value} (h : Below B a w) (hb : B ≤ b) : Below B a ((w.setCell ⟨b, 0, none⟩ v0).setCell ⟨b, 1, none⟩ v1) := (h.setCell (p := ⟨b, 0, none⟩) hb v0).setCell (p := ⟨b, 1, none⟩) hb v1
theorem below_set3 {B : Nat} {a w : World} {b : Nat} {v0 v1 v2 : Value} (h : Below B a w) (hb : B ≤ b) : Below B a (((w.setCell ⟨b, 0, none⟩ v0).setCell ⟨b, 1, none⟩ v1).setCell ⟨b, 2, none⟩ v2) := (below_set2 h hb).setCell (p := ⟨b, 2, none⟩) hb v2
set_option maxHeartbeats 400000 in
/-- A number as a cell, unless there is an error. -/
theorem number_any (n e : Int) (w : World) (hn : e ≠ 0 → n = 0) : Calls Tryd.prog 94 #[.int .i64 n, .int .i64 e] w fun r w' => r = .returned (.tuple #[.agg #[.int .i64 0, .int .i64 n, .slice none 0 0], .int .i64 e]) ∧ Below w.heap.size w w' := by
  by_cases h : e = 0
  · subst h
    clear hn
    go_enter Tryd.func94, Tryd.ntmps94
    go_wp2
    exact bodyPost_ret (v := .tuple #[.agg #[.int .i64 0, .int .i64 n, .slice none 0 0], .int .i64 0]) (by simp [results, Tryd.results94, go_sem]) rfl ⟨rfl, by exact (Below.refl _ _).alloc (Nat.le_refl _) _⟩
  · obtain rfl := hn h
    go_enter Tryd.func94, Tryd.ntmps94
    go_wp2
    exact bodyPost_ret (v := .tuple #[.agg #[.int .i64 0, .int .i64 0, .slice none 0 0], .int .i64 e]) (by simp [results, Tryd.results94, go_sem]) rfl ⟨rfl, by exact (Below.refl _ _).alloc (Nat.le_refl _) _⟩
theorem is_any (op : Int) (w : World) : Calls Tryd.prog 57 #[.int .i64 op] w fun e w' => e = .returned (.bool (isOp op)) ∧ w' = w := by
  by_cases h1 : 21 ≤ op
  · by_cases h2 : op ≤ 32
    · have e : isOp op = true := by simp [isOp, h1, h2]
      rw [e]
      go_enter Tryd.func57, Tryd.ntmps57
      go_wp2
      go_ret
      exact ⟨rfl, rfl⟩
    · have e : isOp op = false := by simp [isOp, h2]
      rw [e]
      go_enter Tryd.func57, Tryd.ntmps57
      go_wp2
      go_ret
      exact ⟨rfl, rfl⟩
  · have e : isOp op = false := by simp [isOp, h1]
    rw [e]
    go_enter Tryd.func57, Tryd.ntmps57
    go_wp2
    go_ret
    exact ⟨rfl, rfl⟩
/-- What Eq to Ge say of a first one that is below (-1), the same (0), above (1). -/
def ansV (op o : Int) : Int :=
  if op = 27 then tr (decide (o = 0)) else if op = 28 then tr (decide (o ≠ 0)) else if op = 29 then tr (decide (o < 0)) else if op = 30 then tr (decide (0 < o)) else if op = 31 then tr (decide (o ≤ 0)) else tr (decide (0 ≤ o))
/-- The table of layer 4, place by place; it lies where it belongs. -/
def ansT (k : Nat) : Int := ansV (27 + ((k / 3 : Nat) : Int)) (((k % 3 : Nat) : Int) - 1)
def Tab (w : World) : Prop := 0 < w.heap.size ∧ ∀ k, k < 18 → w.cell? ⟨0, k, none⟩ = some (.int .i64 (ansT k))
theorem Tab.below {w w' : World} {B : Nat} (h : Tab w) (hb : Below B w w') (hB : 0 < B) : Tab w' :=
  ⟨Nat.lt_of_lt_of_le h.1 hb.size, fun k hk => (hb.cell (p := ⟨0, k, none⟩) hB).trans (h.2 k hk)⟩
theorem Tab.next {w w' : World} (h : Tab w) (hb : Below w.heap.size w w') : Tab w' := h.below hb h.1
set_option maxHeartbeats 1000000 in
theorem answer_any (op o : Int) (h1 : 27 ≤ op) (h2 : op ≤ 32) (h3 : -1 ≤ o) (h4 : o ≤ 1) (w : World) (T : Tab w) : Calls Tryd.prog 95 #[.int .i64 op, .int .i64 o] w fun e w' => e = .returned (.int .i64 (ansV op o)) ∧ w' = w := by
  have ho : o = -1 ∨ o = 0 ∨ o = 1 := by omega
  have hp : op = 27 ∨ op = 28 ∨ op = 29 ∨ op = 30 ∨ op = 31 ∨ op = 32 := by omega
  have HT := hide T.2
  clear T h1 h2 h3 h4
  rcases hp with rfl | rfl | rfl | rfl | rfl | rfl <;> rcases ho with rfl | rfl | rfl
  · have c : w.cell? ⟨0, 0, none⟩ = some (.int .i64 0) := HT.out 0 (by omega)
    have e : ansV 27 (-1) = 0 := by decide
    rw [e]
    clear HT e
    go_enter Tryd.func95, Tryd.ntmps95
    go_wp2
    go_ret
    exact ⟨rfl, rfl⟩
  · have c : w.cell? ⟨0, 1, none⟩ = some (.int .i64 1) := HT.out 1 (by omega)
    have e : ansV 27 (0) = 1 := by decide
    rw [e]
    clear HT e
    go_enter Tryd.func95, Tryd.ntmps95
    go_wp2
    go_ret
    exact ⟨rfl, rfl⟩
  · have c : w.cell? ⟨0, 2, none⟩ = some (.int .i64 0) := HT.out 2 (by omega)
    have e : ansV 27 (1) = 0 := by decide
    rw [e]
    clear HT e
    go_enter Tryd.func95, Tryd.ntmps95
    go_wp2
    go_ret
    exact ⟨rfl, rfl⟩
  · have c : w.cell? ⟨0, 3, none⟩ = some (.int .i64 1) := HT.out 3 (by omega)
    have e : ansV 28 (-1) = 1 := by decide
    rw [e]
    clear HT e
    go_enter Tryd.func95, Tryd.ntmps95
    go_wp2
    go_ret
    exact ⟨rfl, rfl⟩
  · have c : w.cell? ⟨0, 4, none⟩ = some (.int .i64 0) := HT.out 4 (by omega)
    have e : ansV 28 (0) = 0 := by decide
    rw [e]
    clear HT e
    go_enter Tryd.func95, Tryd.ntmps95
    go_wp2
    go_ret
    exact ⟨rfl, rfl⟩
  · have c : w.cell? ⟨0, 5, none⟩ = some (.int .i64 1) := HT.out 5 (by omega)
    have e : ansV 28 (1) = 1 := by decide
    rw [e]
    clear HT e
    go_enter Tryd.func95, Tryd.ntmps95
    go_wp2
    go_ret
    exact ⟨rfl, rfl⟩
  · have c : w.cell? ⟨0, 6, none⟩ = some (.int .i64 1) := HT.out 6 (by omega)
    have e : ansV 29 (-1) = 1 := by decide
    rw [e]
    clear HT e
    go_enter Tryd.func95, Tryd.ntmps95
    go_wp2
    go_ret
    exact ⟨rfl, rfl⟩
  · have c : w.cell? ⟨0, 7, none⟩ = some (.int .i64 0) := HT.out 7 (by omega)
    have e : ansV 29 (0) = 0 := by decide
    rw [e]
    clear HT e
    go_enter Tryd.func95, Tryd.ntmps95
    go_wp2
    go_ret
    exact ⟨rfl, rfl⟩
  · have c : w.cell? ⟨0, 8, none⟩ = some (.int .i64 0) := HT.out 8 (by omega)
    have e : ansV 29 (1) = 0 := by decide
    rw [e]
    clear HT e
    go_enter Tryd.func95, Tryd.ntmps95
    go_wp2
    go_ret
    exact ⟨rfl, rfl⟩
  · have c : w.cell? ⟨0, 9, none⟩ = some (.int .i64 0) := HT.out 9 (by omega)
    have e : ansV 30 (-1) = 0 := by decide
    rw [e]
    clear HT e
    go_enter Tryd.func95, Tryd.ntmps95
    go_wp2
    go_ret
    exact ⟨rfl, rfl⟩
  · have c : w.cell? ⟨0, 10, none⟩ = some (.int .i64 0) := HT.out 10 (by omega)
    have e : ansV 30 (0) = 0 := by decide
    rw [e]
    clear HT e
    go_enter Tryd.func95, Tryd.ntmps95
    go_wp2
    go_ret
    exact ⟨rfl, rfl⟩
  · have c : w.cell? ⟨0, 11, none⟩ = some (.int .i64 1) := HT.out 11 (by omega)
    have e : ansV 30 (1) = 1 := by decide
    rw [e]
    clear HT e
    go_enter Tryd.func95, Tryd.ntmps95
    go_wp2
    go_ret
    exact ⟨rfl, rfl⟩
  · have c : w.cell? ⟨0, 12, none⟩ = some (.int .i64 1) := HT.out 12 (by omega)
    have e : ansV 31 (-1) = 1 := by decide
    rw [e]
    clear HT e
    go_enter Tryd.func95, Tryd.ntmps95
    go_wp2
    go_ret
    exact ⟨rfl, rfl⟩
  · have c : w.cell? ⟨0, 13, none⟩ = some (.int .i64 1) := HT.out 13 (by omega)
    have e : ansV 31 (0) = 1 := by decide
    rw [e]
    clear HT e
    go_enter Tryd.func95, Tryd.ntmps95
    go_wp2
    go_ret
    exact ⟨rfl, rfl⟩
  · have c : w.cell? ⟨0, 14, none⟩ = some (.int .i64 0) := HT.out 14 (by omega)
    have e : ansV 31 (1) = 0 := by decide
    rw [e]
    clear HT e
    go_enter Tryd.func95, Tryd.ntmps95
    go_wp2
    go_ret
    exact ⟨rfl, rfl⟩
  · have c : w.cell? ⟨0, 15, none⟩ = some (.int .i64 0) := HT.out 15 (by omega)
    have e : ansV 32 (-1) = 0 := by decide
    rw [e]
    clear HT e
    go_enter Tryd.func95, Tryd.ntmps95
    go_wp2
    go_ret
    exact ⟨rfl, rfl⟩
  · have c : w.cell? ⟨0, 16, none⟩ = some (.int .i64 1) := HT.out 16 (by omega)
    have e : ansV 32 (0) = 1 := by decide
    rw [e]
    clear HT e
    go_enter Tryd.func95, Tryd.ntmps95
    go_wp2
    go_ret
    exact ⟨rfl, rfl⟩
  · have c : w.cell? ⟨0, 17, none⟩ = some (.int .i64 1) := HT.out 17 (by omega)
    have e : ansV 32 (1) = 1 := by decide
    rw [e]
    clear HT e
    go_enter Tryd.func95, Tryd.ntmps95
    go_wp2
    go_ret
    exact ⟨rfl, rfl⟩
end Go.Proofs.YtlfacpclihmnnaaDoor
namespace Go.Proofs.YtlfacpclihmnnaaDoor
open Go.ChangeShapes Go.WideShapes Go.ChangeAt Go.RowKit
open Num (resV resE In64 sgnI absI)
set_option linter.unusedVariables false
/-- What a closure finds of a boxed array: its two fields, and the three cells of the cell beside a place. -/
structure Side (x : Ar) (i : Nat) (A : Nat) (a1 : Option Addr) (n1 k1 n2 k2 b off : Nat) (k z : Int) (ab : Option Addr) (nb cb : Nat) (w : World) : Prop where
  f0 : w.cell? ⟨A, 0, none⟩ = some (.slice a1 n1 k1)
  f1 : w.cell? ⟨A, 1, none⟩ = some (.slice (some ⟨b, off, none⟩) n2 k2)
  hA : A < w.heap.size
  hb : b < w.heap.size
  e1 : x.shape.length = n1
  hn : n2 ≤ 5864062014805
  hlt : (if x.shape = [] then 0 else i) < n2
  p0 : w.cell? ⟨b, off + (if x.shape = [] then 0 else i) * 3, none⟩ = some (.int .i64 k)
  p1 : w.cell? ⟨b, off + (if x.shape = [] then 0 else i) * 3 + 1, none⟩ = some (.int .i64 z)
  p2 : w.cell? ⟨b, off + (if x.shape = [] then 0 else i) * 3 + 2, none⟩ = some (.slice ab nb cb)
  hc : (sideC x i).1 = k ∧ (sideC x i).2.1 = z
  hz : In64 z
theorem Side.next {x : Ar} {i A : Nat} {a1 : Option Addr} {n1 k1 n2 k2 b off : Nat} {k z : Int} {ab : Option Addr} {nb cb : Nat} {w w' : World} (h : Side x i A a1 n1 k1 n2 k2 b off k z ab nb cb w) (hb : Below w.heap.size w w') : Side x i A a1 n1 k1 n2 k2 b off k z ab nb cb w' :=
  ⟨(hb.cell (p := ⟨A, 0, none⟩) h.hA).trans h.f0, (hb.cell (p := ⟨A, 1, none⟩) h.hA).trans h.f1, Nat.lt_of_lt_of_le h.hA hb.size, Nat.lt_of_lt_of_le h.hb hb.size, h.e1, h.hn, h.hlt, (hb.cell (p := ⟨b, _, none⟩) h.hb).trans h.p0, (hb.cell (p := ⟨b, _, none⟩) h.hb).trans h.p1, (hb.cell (p := ⟨b, _, none⟩) h.hb).trans h.p2, h.hc, h.hz⟩
end Go.Proofs.YtlfacpclihmnnaaDoor
namespace Go.Proofs.YtlfacpclihmnnaaDoor
open Go.ChangeShapes Go.WideShapes Go.ChangeAt Go.RowKit
open Num (resV resE In64 sgnI absI)
set_option linter.unusedVariables false
theorem rtruth_any (b : Bool) (w : World) : Calls Tryd.prog 50 #[.bool b] w fun r w' => r = .returned (.agg #[.int .i64 0, .int .i64 (tr b), .slice none 0 0]) ∧ Below w.heap.size w w' := by
  cases b with
  | true =>
    go_enter Tryd.func50, Tryd.ntmps50
    go_wp2
    exact bodyPost_ret (v := .agg #[.int .i64 0, .int .i64 1, .slice none 0 0]) (by simp [results, Tryd.results50, go_sem]) rfl ⟨rfl, one_alloc _ _⟩
  | false =>
    go_enter Tryd.func50, Tryd.ntmps50
    go_wp2
    exact bodyPost_ret (v := .agg #[.int .i64 0, .int .i64 0, .slice none 0 0]) (by simp [results, Tryd.results50, go_sem]) rfl ⟨rfl, one_alloc _ _⟩
set_option maxHeartbeats 4000000 in
theorem rcellN_any (op n1 n2 : Int) (a b : Option Addr) (na ca nb cb : Nat) (h1 : In64 n1) (h2 : In64 n2) (h : op = 21 ∨ op = 22 ∨ op = 23 ∨ op = 24 ∨ op = 25 ∨ op = 26 ∨ op = 29 ∨ op = 30 ∨ op = 31 ∨ op = 32) (w : World) :
    Calls Tryd.prog 23 #[.int .i64 op, .agg #[.int .i64 0, .int .i64 n1, .slice a na ca], .agg #[.int .i64 0, .int .i64 n2, .slice b nb cb]] w fun r w' => r = .returned (.tuple #[.agg #[.int .i64 0, .int .i64 (twoV op n1 n2), .slice none 0 0], .int .i64 (twoE op n1 n2)]) ∧ Below w.heap.size w w' := by
  rcases h with rfl | rfl | rfl | rfl | rfl | rfl | rfl | rfl | rfl | rfl
  · have eV : twoV 21 n1 n2 = resV (n1 + n2) := by simp [twoV]
    have eE : twoE 21 n1 n2 = resE (n1 + n2) := by simp [twoE]
    rw [eV, eE]
    have C := hide (fun W => Num.radd_any n1 n2 h1 h2 W)
    generalize resV (n1 + n2) = v at *
    generalize resE (n1 + n2) = u at *
    clear h1 h2 eV eE
    go_enter Tryd.func23, Tryd.ntmps23
    go_wp2_with fail
    refine (C.out _).mono ?_
    rintro e w1 ⟨rfl, hb1⟩
    obtain ⟨hc, hf⟩ := Num.bcell hb1
    go_wp2
    exact bodyPost_ret (v := .tuple #[.agg #[.int .i64 0, .int .i64 v, .slice none 0 0], .int .i64 u]) (by simp [results, Tryd.results23, go_sem, hc]) rfl ⟨rfl, below_set3 (after3 hb1) (by omega)⟩
  · have eV : twoV 22 n1 n2 = resV (n1 - n2) := by simp [twoV]
    have eE : twoE 22 n1 n2 = resE (n1 - n2) := by simp [twoE]
    rw [eV, eE]
    have C := hide (fun W => Num.rsub_any n1 n2 h1 h2 W)
    generalize resV (n1 - n2) = v at *
    generalize resE (n1 - n2) = u at *
    clear h1 h2 eV eE
    go_enter Tryd.func23, Tryd.ntmps23
    go_wp2_with fail
    refine (C.out _).mono ?_
    rintro e w1 ⟨rfl, hb1⟩
    obtain ⟨hc, hf⟩ := Num.bcell hb1
    go_wp2
    exact bodyPost_ret (v := .tuple #[.agg #[.int .i64 0, .int .i64 v, .slice none 0 0], .int .i64 u]) (by simp [results, Tryd.results23, go_sem, hc]) rfl ⟨rfl, below_set3 (after3 hb1) (by omega)⟩
  · have eV : twoV 23 n1 n2 = resV (n1 * n2) := by simp [twoV]
    have eE : twoE 23 n1 n2 = resE (n1 * n2) := by simp [twoE]
    rw [eV, eE]
    have C := hide (fun W => Num.rmul_any n1 n2 h1 h2 W)
    generalize resV (n1 * n2) = v at *
    generalize resE (n1 * n2) = u at *
    clear h1 h2 eV eE
    go_enter Tryd.func23, Tryd.ntmps23
    go_wp2_with fail
    refine (C.out _).mono ?_
    rintro e w1 ⟨rfl, hb1⟩
    obtain ⟨hc, hf⟩ := Num.bcell hb1
    go_wp2
    exact bodyPost_ret (v := .tuple #[.agg #[.int .i64 0, .int .i64 v, .slice none 0 0], .int .i64 u]) (by simp [results, Tryd.results23, go_sem, hc]) rfl ⟨rfl, below_set3 (after3 hb1) (by omega)⟩
  · have eV : twoV 24 n1 n2 = min n1 n2 := by simp [twoV]
    have eE : twoE 24 n1 n2 = 0 := by simp [twoE]
    rw [eV, eE, min_if]
    clear h1 h2 eV eE
    by_cases h : n2 < n1
    · rw [if_pos h]
      go_enter Tryd.func23, Tryd.ntmps23
      go_wp2
      exact bodyPost_ret (v := .tuple #[.agg #[.int .i64 0, .int .i64 n2, .slice none 0 0], .int .i64 0]) (by simp [results, Tryd.results23, go_sem]) rfl ⟨rfl, three_allocs _ _ _ _⟩
    · rw [if_neg h]
      go_enter Tryd.func23, Tryd.ntmps23
      go_wp2
      exact bodyPost_ret (v := .tuple #[.agg #[.int .i64 0, .int .i64 n1, .slice none 0 0], .int .i64 0]) (by simp [results, Tryd.results23, go_sem]) rfl ⟨rfl, three_allocs _ _ _ _⟩
  · have eV : twoV 25 n1 n2 = max n1 n2 := by simp [twoV]
    have eE : twoE 25 n1 n2 = 0 := by simp [twoE]
    rw [eV, eE, max_if]
    clear h1 h2 eV eE
    by_cases h : n1 < n2
    · rw [if_pos h]
      go_enter Tryd.func23, Tryd.ntmps23
      go_wp2
      exact bodyPost_ret (v := .tuple #[.agg #[.int .i64 0, .int .i64 n2, .slice none 0 0], .int .i64 0]) (by simp [results, Tryd.results23, go_sem]) rfl ⟨rfl, three_allocs _ _ _ _⟩
    · rw [if_neg h]
      go_enter Tryd.func23, Tryd.ntmps23
      go_wp2
      exact bodyPost_ret (v := .tuple #[.agg #[.int .i64 0, .int .i64 n1, .slice none 0 0], .int .i64 0]) (by simp [results, Tryd.results23, go_sem]) rfl ⟨rfl, three_allocs _ _ _ _⟩
  · have eV : twoV 26 n1 n2 = n2.fmod n1 := by simp [twoV]
    have eE : twoE 26 n1 n2 = 0 := by simp [twoE]
    rw [eV, eE]
    have C := hide (fun W => Num.rres_any n1 n2 h1 W)
    generalize n2.fmod n1 = v at *
    clear h1 h2 eV eE
    go_enter Tryd.func23, Tryd.ntmps23
    go_wp2_with fail
    refine (C.out _).mono ?_
    rintro e w1 ⟨rfl, hw⟩
    rw [hw]
    clear hw
    go_wp2
    exact bodyPost_ret (v := .tuple #[.agg #[.int .i64 0, .int .i64 v, .slice none 0 0], .int .i64 0]) (by simp [results, Tryd.results23, go_sem]) rfl ⟨rfl, three_allocs _ _ _ _⟩
  · have eV : twoV 29 n1 n2 = tr (decide (n1 < n2)) := by simp [twoV]
    have eE : twoE 29 n1 n2 = 0 := by simp [twoE]
    have eT : (decide (n1 < n2)) = (decide (n1 < n2)) := by first | rfl | (rw [← decide_not]; exact decide_eq_decide.2 (by omega))
    rw [eV, eE, eT]
    have C := hide (fun W => rtruth_any (decide (n1 < n2)) W)
    generalize hv : tr (decide (n1 < n2)) = v at *
    clear hv h1 h2 eV eE eT
    go_enter Tryd.func23, Tryd.ntmps23
    go_wp2_with fail
    refine (C.out _).mono ?_
    rintro e w1 ⟨rfl, hb1⟩
    obtain ⟨hc, hf⟩ := Num.bcell hb1
    go_wp2
    exact bodyPost_ret (v := .tuple #[.agg #[.int .i64 0, .int .i64 v, .slice none 0 0], .int .i64 0]) (by simp [results, Tryd.results23, go_sem, hc]) rfl ⟨rfl, below_set3 (after3 hb1) (by omega)⟩
  · have eV : twoV 30 n1 n2 = tr (decide (n2 < n1)) := by simp [twoV]
    have eE : twoE 30 n1 n2 = 0 := by simp [twoE]
    have eT : (decide (n2 < n1)) = (decide (n2 < n1)) := by first | rfl | (rw [← decide_not]; exact decide_eq_decide.2 (by omega))
    rw [eV, eE, eT]
    have C := hide (fun W => rtruth_any (decide (n2 < n1)) W)
    generalize hv : tr (decide (n2 < n1)) = v at *
    clear hv h1 h2 eV eE eT
    go_enter Tryd.func23, Tryd.ntmps23
    go_wp2_with fail
    refine (C.out _).mono ?_
    rintro e w1 ⟨rfl, hb1⟩
    obtain ⟨hc, hf⟩ := Num.bcell hb1
    go_wp2
    exact bodyPost_ret (v := .tuple #[.agg #[.int .i64 0, .int .i64 v, .slice none 0 0], .int .i64 0]) (by simp [results, Tryd.results23, go_sem, hc]) rfl ⟨rfl, below_set3 (after3 hb1) (by omega)⟩
  · have eV : twoV 31 n1 n2 = tr (decide (n1 ≤ n2)) := by simp [twoV]
    have eE : twoE 31 n1 n2 = 0 := by simp [twoE]
    have eT : (decide (n1 ≤ n2)) = (!decide (n2 < n1)) := by first | rfl | (rw [← decide_not]; exact decide_eq_decide.2 (by omega))
    rw [eV, eE, eT]
    have C := hide (fun W => rtruth_any (!decide (n2 < n1)) W)
    generalize hv : tr (!decide (n2 < n1)) = v at *
    clear hv h1 h2 eV eE eT
    go_enter Tryd.func23, Tryd.ntmps23
    go_wp2_with fail
    refine (C.out _).mono ?_
    rintro e w1 ⟨rfl, hb1⟩
    obtain ⟨hc, hf⟩ := Num.bcell hb1
    go_wp2
    exact bodyPost_ret (v := .tuple #[.agg #[.int .i64 0, .int .i64 v, .slice none 0 0], .int .i64 0]) (by simp [results, Tryd.results23, go_sem, hc]) rfl ⟨rfl, below_set3 (after3 hb1) (by omega)⟩
  · have eV : twoV 32 n1 n2 = tr (decide (n2 ≤ n1)) := by simp [twoV]
    have eE : twoE 32 n1 n2 = 0 := by simp [twoE]
    have eT : (decide (n2 ≤ n1)) = (!decide (n1 < n2)) := by first | rfl | (rw [← decide_not]; exact decide_eq_decide.2 (by omega))
    rw [eV, eE, eT]
    have C := hide (fun W => rtruth_any (!decide (n1 < n2)) W)
    generalize hv : tr (!decide (n1 < n2)) = v at *
    clear hv h1 h2 eV eE eT
    go_enter Tryd.func23, Tryd.ntmps23
    go_wp2_with fail
    refine (C.out _).mono ?_
    rintro e w1 ⟨rfl, hb1⟩
    obtain ⟨hc, hf⟩ := Num.bcell hb1
    go_wp2
    exact bodyPost_ret (v := .tuple #[.agg #[.int .i64 0, .int .i64 v, .slice none 0 0], .int .i64 0]) (by simp [results, Tryd.results23, go_sem, hc]) rfl ⟨rfl, below_set3 (after3 hb1) (by omega)⟩
end Go.Proofs.YtlfacpclihmnnaaDoor
namespace Go.Proofs.YtlfacpclihmnnaaDoor
open Go.ChangeShapes Go.WideShapes Go.ChangeAt Go.RowKit
open Num (resV resE In64 sgnI absI)
set_option linter.unusedVariables false
set_option maxRecDepth 20000 in
set_option maxHeartbeats 4000000 in
theorem rcell2_any (op k1 n1 k2 n2 : Int) (a b : Option Addr) (na ca nb cb : Nat) (c d : Ce) (hc : c.1 = k1 ∧ c.2.1 = n1) (hd : d.1 = k2 ∧ d.2.1 = n2) (h1 : In64 n1) (h2 : In64 n2) (w : World) :
    Calls Tryd.prog 23 #[.int .i64 op, .agg #[.int .i64 k1, .int .i64 n1, .slice a na ca], .agg #[.int .i64 k2, .int .i64 n2, .slice b nb cb]] w fun r w' => r = .returned (.tuple #[.agg #[.int .i64 0, .int .i64 (c2V op c d), .slice none 0 0], .int .i64 (c2E op c d)]) ∧ Below w.heap.size w w' := by
  by_cases hop : isOp op = true
  case neg =>
    have hop' : isOp op = false := by simpa using hop
    have eV : c2V op c d = 0 := by simp [c2V, hop']
    have eE : c2E op c d = 1 := by simp [c2E, hop']
    have hr : ¬ (21 ≤ op ∧ op ≤ 32) := by simpa [isOp] using hop'
    rw [eV, eE]
    clear eV eE hop hop' hc hd h1 h2
    by_cases hlo : op < 21
    · go_enter Tryd.func23, Tryd.ntmps23
      go_wp2
      exact bodyPost_ret (v := .tuple #[.agg #[.int .i64 0, .int .i64 0, .slice none 0 0], .int .i64 1]) (by simp [results, Tryd.results23, go_sem]) rfl ⟨rfl, three_allocs _ _ _ _⟩
    · have hhi : 32 < op := by omega
      go_enter Tryd.func23, Tryd.ntmps23
      go_wp2
      exact bodyPost_ret (v := .tuple #[.agg #[.int .i64 0, .int .i64 0, .slice none 0 0], .int .i64 1]) (by simp [results, Tryd.results23, go_sem]) rfl ⟨rfl, three_allocs _ _ _ _⟩
  case pos =>
  have hrg : 21 ≤ op ∧ op ≤ 32 := by simpa [isOp] using hop
  have eV : c2V op c d = if op = 27 ∨ op = 28 then eqV op c d else if c.1 = 0 ∧ d.1 = 0 then twoV op c.2.1 d.2.1 else 0 := by simp [c2V, hop]
  have eE : c2E op c d = if op = 27 ∨ op = 28 then eqE c d else if c.1 = 0 ∧ d.1 = 0 then twoE op c.2.1 d.2.1 else 5 := by simp [c2E, hop]
  rw [eV, eE]
  clear eV eE hop
  by_cases heq : op = 27 ∨ op = 28
  · rw [if_pos heq, if_pos heq]
    unfold eqV eqE
    rw [hc.1, hd.1, hc.2, hd.2]
    clear hc hd h1 h2 hrg
    by_cases hbx : k1 = 2 ∨ k2 = 2
    · rw [if_pos hbx, if_pos hbx]
      by_cases hk : k1 = 2
      · subst hk
        rcases heq with rfl | rfl
        all_goals
          go_enter Tryd.func23, Tryd.ntmps23
          go_wp2
          exact bodyPost_ret (v := .tuple #[.agg #[.int .i64 0, .int .i64 0, .slice none 0 0], .int .i64 5]) (by simp [results, Tryd.results23, go_sem]) rfl ⟨rfl, three_allocs _ _ _ _⟩
      · have hk2 : k2 = 2 := by omega
        subst hk2
        clear hbx
        rcases heq with rfl | rfl
        all_goals
          go_enter Tryd.func23, Tryd.ntmps23
          go_wp2
          exact bodyPost_ret (v := .tuple #[.agg #[.int .i64 0, .int .i64 0, .slice none 0 0], .int .i64 5]) (by simp [results, Tryd.results23, go_sem]) rfl ⟨rfl, three_allocs _ _ _ _⟩
    · rw [if_neg hbx, if_neg hbx]
      have g1 : (k1 == 2) = false := beq_eq_false_iff_ne.2 fun h => hbx (Or.inl h)
      have g2 : (k2 == 2) = false := beq_eq_false_iff_ne.2 fun h => hbx (Or.inr h)
      clear hbx
      have CT := hide (fun b W => rtruth_any b W)
      by_cases hk : k1 = k2
      · subst hk
        by_cases hn : n1 = n2
        · subst hn
          rcases heq with rfl | rfl
          · have e : (if (27 : Int) = 27 then tr (decide (k1 = k1 ∧ n1 = n1)) else tr (!decide (k1 = k1 ∧ n1 = n1))) = 1 := by simp [tr]
            rw [e]
            clear e
            have C : Hid (∀ W : World, Calls Tryd.prog 50 #[.bool true] W fun r w' => r = .returned (.agg #[.int .i64 0, .int .i64 1, .slice none 0 0]) ∧ Below W.heap.size W w') := fun W => CT.out _ W
            clear CT
            go_enter Tryd.func23, Tryd.ntmps23
            go_wp2_with fail
            refine (C.out _).mono ?_
            rintro e w1 ⟨rfl, hb1⟩
            obtain ⟨hcl, hf⟩ := Num.bcell hb1
            go_wp2
            exact bodyPost_ret (v := .tuple #[.agg #[.int .i64 0, .int .i64 1, .slice none 0 0], .int .i64 0]) (by simp [results, Tryd.results23, go_sem, hcl]) rfl ⟨rfl, below_set3 (after3 hb1) (by omega)⟩
          · have e : (if (28 : Int) = 27 then tr (decide (k1 = k1 ∧ n1 = n1)) else tr (!decide (k1 = k1 ∧ n1 = n1))) = 0 := by simp [tr]
            rw [e]
            clear e
            have C : Hid (∀ W : World, Calls Tryd.prog 50 #[.bool false] W fun r w' => r = .returned (.agg #[.int .i64 0, .int .i64 0, .slice none 0 0]) ∧ Below W.heap.size W w') := fun W => CT.out _ W
            clear CT
            go_enter Tryd.func23, Tryd.ntmps23
            go_wp2_with fail
            refine (C.out _).mono ?_
            rintro e w1 ⟨rfl, hb1⟩
            obtain ⟨hcl, hf⟩ := Num.bcell hb1
            go_wp2
            exact bodyPost_ret (v := .tuple #[.agg #[.int .i64 0, .int .i64 0, .slice none 0 0], .int .i64 0]) (by simp [results, Tryd.results23, go_sem, hcl]) rfl ⟨rfl, below_set3 (after3 hb1) (by omega)⟩
        · have gn : (n1 == n2) = false := beq_eq_false_iff_ne.2 hn
          rcases heq with rfl | rfl
          · have e : (if (27 : Int) = 27 then tr (decide (k1 = k1 ∧ n1 = n2)) else tr (!decide (k1 = k1 ∧ n1 = n2))) = 0 := by simp [tr, hn]
            rw [e]
            clear e hn
            have C : Hid (∀ W : World, Calls Tryd.prog 50 #[.bool false] W fun r w' => r = .returned (.agg #[.int .i64 0, .int .i64 0, .slice none 0 0]) ∧ Below W.heap.size W w') := fun W => CT.out _ W
            clear CT
            go_enter Tryd.func23, Tryd.ntmps23
            go_wp2_with fail
            refine (C.out _).mono ?_
            rintro e w1 ⟨rfl, hb1⟩
            obtain ⟨hcl, hf⟩ := Num.bcell hb1
            go_wp2
            exact bodyPost_ret (v := .tuple #[.agg #[.int .i64 0, .int .i64 0, .slice none 0 0], .int .i64 0]) (by simp [results, Tryd.results23, go_sem, hcl]) rfl ⟨rfl, below_set3 (after3 hb1) (by omega)⟩
          · have e : (if (28 : Int) = 27 then tr (decide (k1 = k1 ∧ n1 = n2)) else tr (!decide (k1 = k1 ∧ n1 = n2))) = 1 := by simp [tr, hn]
            rw [e]
            clear e hn
            have C : Hid (∀ W : World, Calls Tryd.prog 50 #[.bool true] W fun r w' => r = .returned (.agg #[.int .i64 0, .int .i64 1, .slice none 0 0]) ∧ Below W.heap.size W w') := fun W => CT.out _ W
            clear CT
            go_enter Tryd.func23, Tryd.ntmps23
            go_wp2_with fail
            refine (C.out _).mono ?_
            rintro e w1 ⟨rfl, hb1⟩
            obtain ⟨hcl, hf⟩ := Num.bcell hb1
            go_wp2
            exact bodyPost_ret (v := .tuple #[.agg #[.int .i64 0, .int .i64 1, .slice none 0 0], .int .i64 0]) (by simp [results, Tryd.results23, go_sem, hcl]) rfl ⟨rfl, below_set3 (after3 hb1) (by omega)⟩
      · have gk : (k1 == k2) = false := beq_eq_false_iff_ne.2 hk
        rcases heq with rfl | rfl
        · have e : (if (27 : Int) = 27 then tr (decide (k1 = k2 ∧ n1 = n2)) else tr (!decide (k1 = k2 ∧ n1 = n2))) = 0 := by simp [tr, hk]
          rw [e]
          clear e hk
          have C : Hid (∀ W : World, Calls Tryd.prog 50 #[.bool false] W fun r w' => r = .returned (.agg #[.int .i64 0, .int .i64 0, .slice none 0 0]) ∧ Below W.heap.size W w') := fun W => CT.out _ W
          clear CT
          go_enter Tryd.func23, Tryd.ntmps23
          go_wp2_with fail
          refine (C.out _).mono ?_
          rintro e w1 ⟨rfl, hb1⟩
          obtain ⟨hcl, hf⟩ := Num.bcell hb1
          go_wp2
          exact bodyPost_ret (v := .tuple #[.agg #[.int .i64 0, .int .i64 0, .slice none 0 0], .int .i64 0]) (by simp [results, Tryd.results23, go_sem, hcl]) rfl ⟨rfl, below_set3 (after3 hb1) (by omega)⟩
        · have e : (if (28 : Int) = 27 then tr (decide (k1 = k2 ∧ n1 = n2)) else tr (!decide (k1 = k2 ∧ n1 = n2))) = 1 := by simp [tr, hk]
          rw [e]
          clear e hk
          have C : Hid (∀ W : World, Calls Tryd.prog 50 #[.bool true] W fun r w' => r = .returned (.agg #[.int .i64 0, .int .i64 1, .slice none 0 0]) ∧ Below W.heap.size W w') := fun W => CT.out _ W
          clear CT
          go_enter Tryd.func23, Tryd.ntmps23
          go_wp2_with fail
          refine (C.out _).mono ?_
          rintro e w1 ⟨rfl, hb1⟩
          obtain ⟨hcl, hf⟩ := Num.bcell hb1
          go_wp2
          exact bodyPost_ret (v := .tuple #[.agg #[.int .i64 0, .int .i64 1, .slice none 0 0], .int .i64 0]) (by simp [results, Tryd.results23, go_sem, hcl]) rfl ⟨rfl, below_set3 (after3 hb1) (by omega)⟩
  · rw [if_neg heq, if_neg heq]
    by_cases hk : c.1 = 0 ∧ d.1 = 0
    · rw [if_pos hk, if_pos hk, hc.2, hd.2]
      obtain ⟨e1, e2⟩ := hk
      obtain rfl : k1 = 0 := hc.1.symm.trans e1
      obtain rfl : k2 = 0 := hd.1.symm.trans e2
      exact rcellN_any op n1 n2 a b na ca nb cb h1 h2 (by omega) w
    · rw [if_neg hk, if_neg hk]
      rw [hc.1, hd.1] at hk
      have g1 : (op == 27) = false := beq_eq_false_iff_ne.2 fun h => heq (Or.inl h)
      have g2 : (op == 28) = false := beq_eq_false_iff_ne.2 fun h => heq (Or.inr h)
      obtain ⟨r1, r2⟩ := hrg
      clear hc hd h1 h2 heq
      by_cases hk1 : k1 = 0
      · subst hk1
        have hk2 : (k2 == 0) = false := beq_eq_false_iff_ne.2 fun h => hk ⟨rfl, h⟩
        clear hk
        go_enter Tryd.func23, Tryd.ntmps23
        go_wp2
        exact bodyPost_ret (v := .tuple #[.agg #[.int .i64 0, .int .i64 0, .slice none 0 0], .int .i64 5]) (by simp [results, Tryd.results23, go_sem]) rfl ⟨rfl, three_allocs _ _ _ _⟩
      · have hk1' : (k1 == 0) = false := beq_eq_false_iff_ne.2 hk1
        clear hk
        go_enter Tryd.func23, Tryd.ntmps23
        go_wp2
        exact bodyPost_ret (v := .tuple #[.agg #[.int .i64 0, .int .i64 0, .slice none 0 0], .int .i64 5]) (by simp [results, Tryd.results23, go_sem]) rfl ⟨rfl, three_allocs _ _ _ _⟩
end Go.Proofs.YtlfacpclihmnnaaDoor
namespace Go.Proofs.YtlfacpclihmnnaaDoor
open Go.ChangeShapes Go.WideShapes Go.ChangeAt Go.RowKit
open Num (resV resE In64 sgnI absI)
set_option linter.unusedVariables false
def ordC (c d : Ce) : Int := if cmp3 c.1 d.1 ≠ 0 then cmp3 c.1 d.1 else cmp3 c.2.1 d.2.1
theorem cmp3_rng (a b : Int) : -1 ≤ cmp3 a b ∧ cmp3 a b ≤ 1 := by unfold cmp3; split <;> (try split) <;> omega
theorem ordC_rng (c d : Ce) : -1 ≤ ordC c d ∧ ordC c d ≤ 1 := by
  unfold ordC
  split
  · exact cmp3_rng _ _
  · exact cmp3_rng _ _
theorem ordC_zero (c d : Ce) : ordC c d = 0 ↔ c.1 = d.1 ∧ c.2.1 = d.2.1 := by
  unfold ordC
  by_cases h : c.1 = d.1
  · rw [h, cmp3_self, if_neg (by simp)]
    constructor
    · intro h'
      exact ⟨rfl, Decidable.byContradiction fun hn => cmp3_ne.2 hn h'⟩
    · rintro ⟨-, h'⟩
      rw [h']; exact cmp3_self _
  · rw [if_pos (cmp3_ne.2 h)]
    constructor
    · intro h'; exact absurd h' (cmp3_ne.2 h)
    · rintro ⟨h', -⟩; exact absurd h' h
theorem ans_eq (op : Int) (c d : Ce) (h : op = 27 ∨ op = 28) (hb : ¬ (c.1 = 2 ∨ d.1 = 2)) : ansV op (ordC c d) = eqV op c d := by
  unfold ansV eqV
  rw [if_neg hb]
  have hz := ordC_zero c d
  rcases h with rfl | rfl
  · rw [if_pos rfl, if_pos rfl]
    congr 1
    exact decide_eq_decide.2 hz
  · rw [if_neg (by decide), if_pos rfl, if_neg (by decide)]
    congr 1
    rw [← decide_not]
    exact decide_eq_decide.2 (not_congr hz)
theorem ans_two (op a b : Int) (h : op = 29 ∨ op = 30 ∨ op = 31 ∨ op = 32) : ansV op (cmp3 a b) = twoV op a b := by
  have hc : (a < b ∧ cmp3 a b = -1) ∨ (b < a ∧ cmp3 a b = 1) ∨ (a = b ∧ cmp3 a b = 0) := by
    unfold cmp3
    split
    · left; exact ⟨‹_›, rfl⟩
    · split
      · right; left; exact ⟨‹_›, rfl⟩
      · right; right; exact ⟨by omega, rfl⟩
  unfold ansV twoV
  rcases h with rfl | rfl | rfl | rfl <;> simp <;> congr 1 <;> apply decide_eq_decide.2 <;> rcases hc with ⟨h1, h2⟩ | ⟨h1, h2⟩ | ⟨h1, h2⟩ <;> rw [h2] <;> constructor <;> intro h <;> omega
set_option maxHeartbeats 400000 in
theorem order_any (k1 n1 k2 n2 : Int) (a b : Option Addr) (na ca nb cb : Nat) (c d : Ce) (hc : c.1 = k1 ∧ c.2.1 = n1) (hd : d.1 = k2 ∧ d.2.1 = n2) (w : World) :
    Calls Tryd.prog 96 #[.agg #[.int .i64 k1, .int .i64 n1, .slice a na ca], .agg #[.int .i64 k2, .int .i64 n2, .slice b nb cb]] w fun e w' => e = .returned (.int .i64 (ordC c d)) ∧ Below w.heap.size w w' := by
  unfold ordC
  rw [hc.1, hc.2, hd.1, hd.2]
  clear hc hd
  have C1 := hide (fun w => compare_any k1 k2 w)
  have C2 := hide (fun w => compare64_any n1 n2 w)
  generalize cmp3 k1 k2 = u at *
  generalize cmp3 n1 n2 = v at *
  by_cases h : u = 0
  · subst h
    rw [if_neg (by simp)]
    go_enter Tryd.func96, Tryd.ntmps96
    go_wp2_with fail
    refine (C1.out _).mono ?_
    rintro e w1 ⟨rfl, hw⟩
    rw [hw]
    clear hw
    go_wp2_with fail
    refine (C2.out _).mono ?_
    rintro e w1 ⟨rfl, hw⟩
    rw [hw]
    clear hw
    go_wp2
    go_ret
    exact ⟨rfl, two_allocs _ _ _⟩
  · rw [if_pos h]
    go_enter Tryd.func96, Tryd.ntmps96
    go_wp2_with fail
    refine (C1.out _).mono ?_
    rintro e w1 ⟨rfl, hw⟩
    rw [hw]
    clear hw
    go_wp2
    go_ret
    exact ⟨rfl, two_allocs _ _ _⟩
set_option maxHeartbeats 2000000 in
theorem ofTwo_any (op a b : Int) (h : op = 21 ∨ op = 22 ∨ op = 23 ∨ op = 24 ∨ op = 25 ∨ op = 26 ∨ op = 29 ∨ op = 30 ∨ op = 31 ∨ op = 32) (ha : In64 a) (hb : In64 b) (w : World) (T : Tab w) :
    Calls Tryd.prog 97 #[.int .i64 op, .int .i64 a, .int .i64 b] w fun e w' => e = .returned (.tuple #[.int .i64 (twoV op a b), .int .i64 (twoE op a b)]) ∧ w' = w := by
  rcases h with rfl | rfl | rfl | rfl | rfl | rfl | h
  · have eV : twoV 21 a b = resV (a + b) := by simp [twoV]
    have eE : twoE 21 a b = resE (a + b) := by simp [twoE]
    rw [eV, eE]
    clear eV eE
    have C := hide (Num.add_any a b ha hb w)
    generalize resV (a + b) = v at *
    generalize resE (a + b) = u at *
    clear ha hb T
    go_enter Tryd.func97, Tryd.ntmps97
    go_wp2_with fail
    refine C.out.mono ?_
    rintro e w1 ⟨rfl, rfl⟩
    go_wp2
    go_ret2
    exact ⟨rfl, rfl⟩
  · have eV : twoV 22 a b = resV (a - b) := by simp [twoV]
    have eE : twoE 22 a b = resE (a - b) := by simp [twoE]
    rw [eV, eE]
    clear eV eE
    have C := hide (Num.sub_any a b ha hb w)
    generalize resV (a - b) = v at *
    generalize resE (a - b) = u at *
    clear ha hb T
    go_enter Tryd.func97, Tryd.ntmps97
    go_wp2_with fail
    refine C.out.mono ?_
    rintro e w1 ⟨rfl, rfl⟩
    go_wp2
    go_ret2
    exact ⟨rfl, rfl⟩
  · have eV : twoV 23 a b = resV (a * b) := by simp [twoV]
    have eE : twoE 23 a b = resE (a * b) := by simp [twoE]
    rw [eV, eE]
    clear eV eE
    have C := hide (Num.mul_any a b ha hb w)
    generalize resV (a * b) = v at *
    generalize resE (a * b) = u at *
    clear ha hb T
    go_enter Tryd.func97, Tryd.ntmps97
    go_wp2_with fail
    refine C.out.mono ?_
    rintro e w1 ⟨rfl, rfl⟩
    go_wp2
    go_ret2
    exact ⟨rfl, rfl⟩
  · have eV : twoV 24 a b = min a b := by simp [twoV]
    have eE : twoE 24 a b = 0 := by simp [twoE]
    rw [eV, eE, min_if]
    clear eV eE ha hb T
    by_cases h : b < a
    · rw [if_pos h]
      go_enter Tryd.func97, Tryd.ntmps97
      go_wp2
      go_ret2
      exact ⟨rfl, rfl⟩
    · rw [if_neg h]
      go_enter Tryd.func97, Tryd.ntmps97
      go_wp2
      go_ret2
      exact ⟨rfl, rfl⟩
  · have eV : twoV 25 a b = max a b := by simp [twoV]
    have eE : twoE 25 a b = 0 := by simp [twoE]
    rw [eV, eE, max_if]
    clear eV eE ha hb T
    by_cases h : a < b
    · rw [if_pos h]
      go_enter Tryd.func97, Tryd.ntmps97
      go_wp2
      go_ret2
      exact ⟨rfl, rfl⟩
    · rw [if_neg h]
      go_enter Tryd.func97, Tryd.ntmps97
      go_wp2
      go_ret2
      exact ⟨rfl, rfl⟩
  · have eV : twoV 26 a b = b.fmod a := by simp [twoV]
    have eE : twoE 26 a b = 0 := by simp [twoE]
    rw [eV, eE]
    clear eV eE
    have C := hide (Num.res_any a b ha w)
    generalize b.fmod a = v at *
    clear ha hb T
    go_enter Tryd.func97, Tryd.ntmps97
    go_wp2_with fail
    refine C.out.mono ?_
    rintro e w1 ⟨rfl, rfl⟩
    go_wp2
    go_ret2
    exact ⟨rfl, rfl⟩
  · have C1 := hide (compare64_any a b w)
    have hr := cmp3_rng a b
    have C2 := hide (answer_any op (cmp3 a b) (by omega) (by omega) hr.1 hr.2 w T)
    have eE : twoE op a b = 0 := by rcases h with rfl | rfl | rfl | rfl <;> simp [twoE]
    rw [← ans_two op a b h, eE]
    generalize ansV op (cmp3 a b) = v at *
    generalize cmp3 a b = u at *
    clear eE ha hb T hr
    rcases h with rfl | rfl | rfl | rfl
    all_goals
      go_enter Tryd.func97, Tryd.ntmps97
      go_wp2_with fail
      refine C1.out.mono ?_
      rintro e w1 ⟨rfl, hw⟩
      rw [hw]
      clear hw
      go_wp2_with fail
      refine C2.out.mono ?_
      rintro e w1 ⟨rfl, hw⟩
      rw [hw]
      clear hw
      go_wp2
      go_ret2
      exact ⟨rfl, rfl⟩
set_option maxHeartbeats 2000000 in
theorem cell2_any (op k1 n1 k2 n2 : Int) (a b : Option Addr) (na ca nb cb : Nat) (c d : Ce) (hc : c.1 = k1 ∧ c.2.1 = n1) (hd : d.1 = k2 ∧ d.2.1 = n2) (h1 : In64 n1) (h2 : In64 n2) (w : World) (T : Tab w) :
    Calls Tryd.prog 90 #[.int .i64 op, .agg #[.int .i64 k1, .int .i64 n1, .slice a na ca], .agg #[.int .i64 k2, .int .i64 n2, .slice b nb cb]] w fun r w' => r = .returned (.tuple #[.agg #[.int .i64 0, .int .i64 (c2V op c d), .slice none 0 0], .int .i64 (c2E op c d)]) ∧ Below w.heap.size w w' := by
  have CI := hide (fun w => is_any op w)
  by_cases hop : isOp op = false
  · have eV : c2V op c d = 0 := by simp [c2V, hop]
    have eE : c2E op c d = 1 := by simp [c2E, hop]
    rw [eV, eE]
    rw [hop] at CI
    clear eV eE hop hc hd h1 h2 T
    go_enter Tryd.func90, Tryd.ntmps90
    go_wp2_with fail
    refine (CI.out _).mono ?_
    rintro e w1 ⟨rfl, hw⟩
    rw [hw]
    clear hw
    go_wp2
    exact bodyPost_ret (v := .tuple #[.agg #[.int .i64 0, .int .i64 0, .slice none 0 0], .int .i64 1]) (by simp [results, Tryd.results90, go_sem]) rfl ⟨rfl, three_allocs _ _ _ _⟩
  · have hop' : isOp op = true := by simpa using hop
    have hrg : 21 ≤ op ∧ op ≤ 32 := by simpa [isOp] using hop'
    have eV : c2V op c d = if op = 27 ∨ op = 28 then eqV op c d else if c.1 = 0 ∧ d.1 = 0 then twoV op c.2.1 d.2.1 else 0 := by simp [c2V, hop']
    have eE : c2E op c d = if op = 27 ∨ op = 28 then eqE c d else if c.1 = 0 ∧ d.1 = 0 then twoE op c.2.1 d.2.1 else 5 := by simp [c2E, hop']
    rw [eV, eE]
    rw [hop'] at CI
    clear eV eE hop hop'
    have HT := hide (fun (W : World) (hb : Below w.heap.size w W) => T.next hb)
    clear T
    by_cases heq : op = 27 ∨ op = 28
    · rw [if_pos heq, if_pos heq]
      by_cases hbx : c.1 = 2 ∨ d.1 = 2
      · have e1 : eqV op c d = 0 := by simp [eqV, hbx]
        have e2 : eqE c d = 5 := by simp [eqE, hbx]
        rw [e1, e2]
        rw [hc.1, hd.1] at hbx
        clear e1 e2 hc hd h1 h2 hrg HT
        by_cases hk : k1 = 2
        · subst hk
          rcases heq with rfl | rfl
          all_goals
            go_enter Tryd.func90, Tryd.ntmps90
            go_wp2_with fail
            refine (CI.out _).mono ?_
            rintro e w1 ⟨rfl, hw⟩
            rw [hw]
            clear hw
            go_wp2
            exact bodyPost_ret (v := .tuple #[.agg #[.int .i64 0, .int .i64 0, .slice none 0 0], .int .i64 5]) (by simp [results, Tryd.results90, go_sem]) rfl ⟨rfl, three_allocs _ _ _ _⟩
        · have hk2 : k2 = 2 := by omega
          subst hk2
          clear hbx
          rcases heq with rfl | rfl
          all_goals
            go_enter Tryd.func90, Tryd.ntmps90
            go_wp2_with fail
            refine (CI.out _).mono ?_
            rintro e w1 ⟨rfl, hw⟩
            rw [hw]
            clear hw
            go_wp2
            exact bodyPost_ret (v := .tuple #[.agg #[.int .i64 0, .int .i64 0, .slice none 0 0], .int .i64 5]) (by simp [results, Tryd.results90, go_sem]) rfl ⟨rfl, three_allocs _ _ _ _⟩
      · have e2 : eqE c d = 0 := by simp [eqE, hbx]
        rw [e2, ← ans_eq op c d heq hbx]
        rw [hc.1, hd.1] at hbx
        have hr := ordC_rng c d
        have CO := hide (fun w => order_any k1 n1 k2 n2 a b na ca nb cb c d hc hd w)
        have CA := hide (fun w T => answer_any op (ordC c d) (by omega) (by omega) hr.1 hr.2 w T)
        generalize ansV op (ordC c d) = v at *
        generalize ordC c d = u at *
        have g1 : (k1 == 2) = false := beq_eq_false_iff_ne.2 fun h => hbx (Or.inl h)
        have g2 : (k2 == 2) = false := beq_eq_false_iff_ne.2 fun h => hbx (Or.inr h)
        clear e2 hc hd h1 h2 hrg hbx hr
        rcases heq with rfl | rfl
        all_goals
          go_enter Tryd.func90, Tryd.ntmps90
          go_wp2_with fail
          refine (CI.out _).mono ?_
          rintro e w1 ⟨rfl, hw⟩
          rw [hw]
          clear hw
          go_wp2_with fail
          refine (CO.out _).mono ?_
          rintro e w2 ⟨rfl, hb2⟩
          have T2 := HT.out w2 (after3 hb2)
          obtain ⟨hcl, hfz⟩ := Num.bcell hb2
          go_wp2_with fail
          refine (CA.out _ T2).mono ?_
          rintro e w3 ⟨rfl, hw⟩
          rw [hw]
          clear hw
          go_wp2_with fail
          refine (number_any _ _ _ (fun h => absurd rfl h)).mono ?_
          rintro e w4 ⟨rfl, hb4⟩
          have B4 := (after3 hb2).trans (hb4.mono (after3 hb2).size)
          have hb24 := hb2.trans (hb4.mono hb2.size)
          clear hcl hfz T2
          obtain ⟨hcl, hfz⟩ := Num.bcell hb24
          go_wp2
          exact bodyPost_ret (v := .tuple #[.agg #[.int .i64 0, .int .i64 v, .slice none 0 0], .int .i64 0]) (by simp [results, Tryd.results90, go_sem, hcl]) rfl ⟨rfl, below_set3 B4 (by omega)⟩
    · rw [if_neg heq, if_neg heq]
      by_cases hk : c.1 = 0 ∧ d.1 = 0
      · rw [if_pos hk, if_pos hk]
        rw [hc.1, hd.1] at hk
        obtain ⟨rfl, rfl⟩ := hk
        rw [hc.2, hd.2]
        have CT := hide (fun w T => ofTwo_any op n1 n2 (by omega) h1 h2 w T)
        have HB := hide (@two_bad op n1 n2)
        generalize twoV op n1 n2 = v at *
        generalize twoE op n1 n2 = u at *
        have g1 : (op == 27) = false := beq_eq_false_iff_ne.2 fun h => heq (Or.inl h)
        have g2 : (op == 28) = false := beq_eq_false_iff_ne.2 fun h => heq (Or.inr h)
        clear hc hd h1 h2 hrg heq
        go_enter Tryd.func90, Tryd.ntmps90
        go_wp2_with fail
        refine (CI.out _).mono ?_
        rintro e w1 ⟨rfl, hw⟩
        rw [hw]
        clear hw
        go_wp2_with fail
        refine (CT.out _ (HT.out _ (three_allocs _ _ _ _))).mono ?_
        rintro e w3 ⟨rfl, hw⟩
        rw [hw]
        clear hw
        go_wp2_with fail
        refine (number_any _ _ _ HB.out).mono ?_
        rintro e w4 ⟨rfl, hb4⟩
        have B4 := after3 hb4
        obtain ⟨hcl, hfz⟩ := Num.bcell hb4
        go_wp2
        exact bodyPost_ret (v := .tuple #[.agg #[.int .i64 0, .int .i64 v, .slice none 0 0], .int .i64 u]) (by simp [results, Tryd.results90, go_sem, hcl]) rfl ⟨rfl, below_set3 B4 (by omega)⟩
      · rw [if_neg hk, if_neg hk]
        rw [hc.1, hd.1] at hk
        have g1 : (op == 27) = false := beq_eq_false_iff_ne.2 fun h => heq (Or.inl h)
        have g2 : (op == 28) = false := beq_eq_false_iff_ne.2 fun h => heq (Or.inr h)
        clear hc hd h1 h2 hrg heq HT
        by_cases hk1 : k1 = 0
        · subst hk1
          have hk2 : ¬ k2 = 0 := fun h => hk ⟨rfl, h⟩
          clear hk
          go_enter Tryd.func90, Tryd.ntmps90
          go_wp2_with fail
          refine (CI.out _).mono ?_
          rintro e w1 ⟨rfl, hw⟩
          rw [hw]
          clear hw
          go_wp2
          exact bodyPost_ret (v := .tuple #[.agg #[.int .i64 0, .int .i64 0, .slice none 0 0], .int .i64 5]) (by simp [results, Tryd.results90, go_sem]) rfl ⟨rfl, three_allocs _ _ _ _⟩
        · clear hk
          go_enter Tryd.func90, Tryd.ntmps90
          go_wp2_with fail
          refine (CI.out _).mono ?_
          rintro e w1 ⟨rfl, hw⟩
          rw [hw]
          clear hw
          go_wp2
          exact bodyPost_ret (v := .tuple #[.agg #[.int .i64 0, .int .i64 0, .slice none 0 0], .int .i64 5]) (by simp [results, Tryd.results90, go_sem]) rfl ⟨rfl, three_allocs _ _ _ _⟩
end Go.Proofs.YtlfacpclihmnnaaDoor
namespace Go.Proofs.YtlfacpclihmnnaaDoor
open Go.ChangeShapes Go.WideShapes Go.ChangeAt Go.RowKit
set_option linter.unusedVariables false
set_option maxHeartbeats 1000000 in
theorem rcheckCell_any (n B : Nat) (f : Ar → Int) (IH : InnerC 49 n B f) (c : Ce) (lo : Nat) (w : World) (v0 v1 v2 : Value) (hc : CeIn (ArIn n lo w) lo w c v0 v1 v2) :
    Calls Tryd.prog 75 #[.agg #[v0, v1, v2], .int .i64 (B : Int)] w fun e w' => e = .returned (.int .i64 (chkC f c)) ∧ Below w.heap.size w w' := by
  obtain ⟨rfl, rfl, a, cap, rfl, hl, hx⟩ := hc
  obtain ⟨k, N, box⟩ := c
  simp only at hl hx ⊢
  obtain ⟨i1, i2, i3⟩ := IH
  have K1 : Hid (k = 2 ∧ N = 0 ∧ box.length = 1 → chkC f (k, N, box) = f (bAt box 0)) := fun h => by unfold chkC; rw [if_pos h]
  have K2 : Hid (¬ (k = 2 ∧ N = 0 ∧ box.length = 1) → box.length = 0 ∧ (k = 0 ∨ k = 1 ∧ Good N) → chkC f (k, N, box) = 0) := fun h h' => by unfold chkC; rw [if_neg h, if_pos h']
  have K3 : Hid (¬ (k = 2 ∧ N = 0 ∧ box.length = 1) → ¬ (box.length = 0 ∧ (k = 0 ∨ k = 1 ∧ Good N)) → chkC f (k, N, box) = 1) := fun h h' => by unfold chkC; rw [if_neg h, if_neg h']
  generalize chkC f (k, N, box) = r at K1 K2 K3
  by_cases h1 : k = 2 ∧ N = 0 ∧ box.length = 1
  · have hr := K1.out h1
    obtain ⟨rfl, rfl, hb1⟩ := h1
    rcases hx with hx | ⟨b, off, rfl, hlo, hb, hx⟩
    · rw [hx] at hb1; simp at hb1
    obtain ⟨s0, s1, e0, e1, e2⟩ := hx 0 (by omega)
    simp only [Nat.zero_mul, Nat.add_zero] at e0 e1
    have g0 := cell_one e0 hb
    have g1 := cell_one e1 hb
    clear K1 K2 K3 hx hlo
    by_cases h8 : B = 8
    · subst h8
      have hr' : Hid (r = 15) := by rw [hr, i2 rfl]; exact rfl
      clear hr i2 i3 e2
      rw [hb1]
      go_enter Tryd.func75, Tryd.ntmps75
      go_wp2
      go_ret
      exact ⟨retI hr'.out.symm, one_alloc _ _⟩
    · have i4 := i3 (by omega) (bAt box 0) lo _ ((w.alloc (.cells #[.int .i64 2, .int .i64 0, .slice (some ⟨b, off, none⟩) 1 cap] 43))) (e2.next (one_alloc _ _))
      rw [← hr] at i4
      have hB : (B : Int) < 8 := by omega
      have hB8 : ¬ (B : Int) = 8 := by omega
      have HB1 : Hid (Below w.heap.size w (w.alloc (.cells #[.int .i64 2, .int .i64 0, .slice (some ⟨b, off, none⟩) 1 cap] 43))) := one_alloc _ _
      clear i2 i3 h8 hr e2
      rw [hb1]
      clear hb1
      go_enter Tryd.func75, Tryd.ntmps75
      go_wp2_with fail
      refine i4.mono ?_
      rintro e w1 ⟨rfl, hb1⟩
      go_wp2
      go_ret
      exact ⟨rfl, HB1.out.trans (hb1.mono HB1.out.size)⟩
  · have K2' : Hid (box.length = 0 ∧ (k = 0 ∨ k = 1 ∧ Good N) → r = 0) := K2.out h1
    have K3' : Hid (¬ (box.length = 0 ∧ (k = 0 ∨ k = 1 ∧ Good N)) → r = 1) := K3.out h1
    clear K1 K2 K3 hx i2 i3
    generalize box.length = L at *
    by_cases hk2 : k = 2
    · have hr : Hid (r = 1) := K3'.out (by omega)
      subst hk2
      clear K2' K3'
      by_cases hN : N = 0
      · subst hN
        have hL : ¬ L = 1 := by omega
        clear h1
        by_cases hL0 : L = 0
        · subst hL0
          go_enter Tryd.func75, Tryd.ntmps75
          go_wp2
          go_ret
          exact ⟨retI hr.out.symm, one_alloc _ _⟩
        · have hL' : ¬ (L : Int) = 1 := by omega
          have hL0' : ¬ (L : Int) = 0 := by omega
          have hLp : (0 : Int) < (L : Int) := by omega
          go_enter Tryd.func75, Tryd.ntmps75
          go_wp2
          go_ret
          exact ⟨retI hr.out.symm, one_alloc _ _⟩
      · clear h1
        by_cases hL0 : L = 0
        · subst hL0
          go_enter Tryd.func75, Tryd.ntmps75
          go_wp2
          go_ret
          exact ⟨retI hr.out.symm, one_alloc _ _⟩
        · have hL0' : ¬ (L : Int) = 0 := by omega
          have hLp : (0 : Int) < (L : Int) := by omega
          go_enter Tryd.func75, Tryd.ntmps75
          go_wp2
          go_ret
          exact ⟨retI hr.out.symm, one_alloc _ _⟩
    · clear h1
      by_cases hL0 : L = 0
      · by_cases hk0 : k = 0
        · have hr : Hid (r = 0) := K2'.out ⟨hL0, Or.inl hk0⟩
          subst hL0
          subst hk0
          clear K2' K3'
          go_enter Tryd.func75, Tryd.ntmps75
          go_wp2
          go_ret
          exact ⟨retI hr.out.symm, one_alloc _ _⟩
        · by_cases hk1 : k = 1
          · by_cases hg : Good N
            · have hr : Hid (r = 0) := K2'.out ⟨hL0, Or.inr ⟨hk1, hg⟩⟩
              subst hL0
              subst hk1
              have C := fun w => rgood_any N w
              rw [decide_eq_true hg] at C
              clear K2' K3' hg
              go_enter Tryd.func75, Tryd.ntmps75
              go_wp2_with (go_at_call 91; refine (C _).mono ?_; rintro e w' ⟨rfl, hw⟩; rw [hw])
              go_ret
              exact ⟨retI hr.out.symm, one_alloc _ _⟩
            · have hr : Hid (r = 1) := K3'.out (by
                rintro ⟨_, h | h⟩
                · exact hk0 h
                · exact hg h.2)
              subst hL0
              subst hk1
              have C := fun w => rgood_any N w
              rw [decide_eq_false hg] at C
              clear K2' K3' hg
              go_enter Tryd.func75, Tryd.ntmps75
              go_wp2_with (go_at_call 91; refine (C _).mono ?_; rintro e w' ⟨rfl, hw⟩; rw [hw])
              go_ret
              exact ⟨retI hr.out.symm, one_alloc _ _⟩
          · have hr : Hid (r = 1) := K3'.out (by
              rintro ⟨_, h | h⟩
              · exact hk0 h
              · exact hk1 h.1)
            subst hL0
            clear K2' K3'
            go_enter Tryd.func75, Tryd.ntmps75
            go_wp2
            go_ret
            exact ⟨retI hr.out.symm, one_alloc _ _⟩
      · have hr : Hid (r = 1) := K3'.out (fun h => hL0 h.1)
        have hL0' : ¬ (L : Int) = 0 := by omega
        have hLp : (0 : Int) < (L : Int) := by omega
        clear K2' K3'
        go_enter Tryd.func75, Tryd.ntmps75
        go_wp2
        go_ret
        exact ⟨retI hr.out.symm, one_alloc _ _⟩
theorem cells_at {n lo : Nat} {w : World} {a2 : Option Addr} {cs : List Ce} (hc : cs = [] ∨ ∃ b off, a2 = some ⟨b, off, none⟩ ∧ lo ≤ b ∧ b < w.heap.size ∧
      ∀ i, i < cs.length → ∃ v0 v1 v2, w.cell? ⟨b, off + i * 3, none⟩ = some v0 ∧ w.cell? ⟨b, off + i * 3 + 1, none⟩ = some v1 ∧ w.cell? ⟨b, off + i * 3 + 2, none⟩ = some v2 ∧ CeIn (ArIn n lo w) lo w (cAt cs i) v0 v1 v2) (i : Nat) (hi : i < cs.length) :
    ∃ b off z0 z1 ab nb cb, a2 = some ⟨b, off, none⟩ ∧ ∀ wr, Below w.heap.size w wr → wr.cell? ⟨b, off + i * 3, none⟩ = some (.int .i64 z0) ∧ wr.cell? ⟨b, off + i * 3 + 1, none⟩ = some (.int .i64 z1) ∧ wr.cell? ⟨b, off + i * 3 + 2, none⟩ = some (.slice ab nb cb) ∧ CeIn (ArIn n lo wr) lo wr (cAt cs i) (.int .i64 z0) (.int .i64 z1) (.slice ab nb cb) := by
  rcases hc with hc | ⟨b, off, ha, hlo, hb, hc⟩
  · rw [hc] at hi; simp at hi
  obtain ⟨v0, v1, v2, e0, e1, e2, e3⟩ := hc i hi
  have e4 := e3
  obtain ⟨rfl, rfl, ab, cb, rfl, -⟩ := e4
  exact ⟨b, off, _, _, ab, _, cb, ha, fun wr hw => ⟨(hw.cell (p := ⟨b, off + i * 3, none⟩) hb).trans e0, (hw.cell (p := ⟨b, off + i * 3 + 1, none⟩) hb).trans e1, (hw.cell (p := ⟨b, off + i * 3 + 2, none⟩) hb).trans e2, e3.mono (Nat.le_refl _) hw fun x v h => h.next hw⟩⟩
theorem cell_new0 (w : World) (cs : Array Value) (t : TypeId) (i : Nat) (v : Value) (h : cs[i]? = some v) : (w.alloc (.cells cs t)).cell? ⟨w.heap.size, i, none⟩ = some v := cell_new w cs t (0, 0) i v h
set_option maxHeartbeats 2000000 in
theorem checkB_any (n B : Nat) (f : Ar → Int) (IH : InnerC 76 n B f) (x : Ar) (lo : Nat) (va : Value) (w : World) (hx : ArIn (n + 1) lo w x va) :
    Calls Tryd.prog 76 #[va, .int .i64 (B : Int)] w fun e w' => e = .returned (.int .i64 (chkB f x)) ∧ Below w.heap.size w w' := by
  obtain ⟨a1, c1, a2, c2, rfl, R, hl, hc⟩ := hx
  have K1 : Hid (¬ sizeE x.shape = 0 → chkB f x = sizeE x.shape) := fun h => by unfold chkB; rw [if_pos h]
  have K2 : Hid (sizeE x.shape = 0 → ¬ sizeV x.shape = x.cells.length → chkB f x = 1) := fun h h' => by unfold chkB; rw [if_neg (fun k => k h), if_pos h']
  have K3 : Hid (sizeE x.shape = 0 → sizeV x.shape = x.cells.length → hasLong x.shape → chkB f x = 12) := fun h h' h'' => by unfold chkB; rw [if_neg (fun k => k h), if_neg (fun k => k h'), if_pos h'']
  have K4 : Hid (sizeE x.shape = 0 → sizeV x.shape = x.cells.length → ¬ hasLong x.shape → chkB f x = firstUp (chkF f x) x.cells.length) := fun h h' h'' => by unfold chkB; rw [if_neg (fun k => k h), if_neg (fun k => k h'), if_neg h'']
  generalize chkB f x = r at K1 K2 K3 K4
  have b0 := one_alloc w (.cells #[.slice a1 x.shape.length c1, .slice a2 x.cells.length c2] 25)
  have C1 := size_any x.shape a1 c1 _ (R.next b0)
  have C2 := ends_any x.shape a1 c1 _ (R.next b0)
  have hlR := R.1
  have HB0 : Hid (Below w.heap.size w (w.alloc (.cells #[.slice a1 x.shape.length c1, .slice a2 x.cells.length c2] 25))) := b0
  have HC : Hid (∀ i, i < x.cells.length → ∃ b off z0 z1 ab nb cb, a2 = some ⟨b, off, none⟩ ∧ ∀ wr, Below w.heap.size w wr → (wr.cell? ⟨b, off + i * 3, none⟩ = some (.int .i64 z0) ∧ wr.cell? ⟨b, off + i * 3 + 1, none⟩ = some (.int .i64 z1) ∧ wr.cell? ⟨b, off + i * 3 + 2, none⟩ = some (.slice ab nb cb)) ∧ Calls Tryd.prog 92 #[.agg #[.int .i64 z0, .int .i64 z1, .slice ab nb cb], .int .i64 (B : Int)] wr fun e w' => e = .returned (.int .i64 (chkF f x i)) ∧ Below wr.heap.size wr w') := by
    intro i hi
    obtain ⟨b, off, z0, z1, ab, nb, cb, ha, h⟩ := cells_at hc i hi
    refine ⟨b, off, z0, z1, ab, nb, cb, ha, fun wr hw => ?_⟩
    obtain ⟨e0, e1, e2, e3⟩ := h wr hw
    exact ⟨⟨e0, e1, e2⟩, checkCell_any n B f IH _ lo wr _ _ _ e3⟩
  clear R hc b0 IH
  by_cases h1 : sizeE x.shape = 0
  · rw [h1] at C1
    by_cases h2 : sizeV x.shape = x.cells.length
    · rw [h2] at C1
      by_cases h3 : hasLong x.shape
      · have hr : Hid (r = 12) := K3.out h1 h2 h3
        have hm := most_long.2 h3
        clear K1 K2 K3 K4 HC h1 h2 h3
        generalize leastL x.shape = P at C2
        generalize mostL x.shape = Q at C2 hm
        generalize x.shape.length = SA at *
        generalize x.cells.length = CA at *
        go_enter Tryd.func76, Tryd.ntmps76
        go_wp2_with fail
        refine C1.mono ?_
        rintro e w1 ⟨rfl, hw⟩
        rw [hw]
        clear hw
        go_wp2_with fail
        refine C2.mono ?_
        rintro e w1 ⟨rfl, hw⟩
        rw [hw]
        clear hw
        go_wp2
        go_ret
        exact ⟨retI hr.out.symm, HB0.out⟩
      · have hr := K4.out h1 h2 h3
        have hm : ¬ 16384 < mostL x.shape := fun h => h3 (most_long.1 h)
        clear K1 K2 K3 K4 h1 h2 h3
        have H0 : Hid (firstUp (chkF f x) 0 = 0) := rfl
        generalize leastL x.shape = P at C2
        generalize mostL x.shape = Q at C2 hm
        generalize chkF f x = F at *
        generalize x.shape.length = SA at *
        generalize x.cells.length = CA at *
        have HR := hide hr
        clear hr
        go_enter Tryd.func76, Tryd.ntmps76
        go_wp2_with fail
        refine C1.mono ?_
        rintro e w1 ⟨rfl, hw⟩
        rw [hw]
        clear hw
        go_wp2_with fail
        refine C2.mono ?_
        rintro e w1 ⟨rfl, hw⟩
        rw [hw]
        clear hw C1 C2
        go_wp2
        go_loopw [37] (fun i wr => ∃ j : Nat, j ≤ CA ∧ i = .int .i64 (j : Int) ∧ firstUp F j = 0 ∧ Below w.heap.size w wr) (fun i _ => CA - (intOf i).toNat)
        case atStart => exact ⟨0, Nat.zero_le _, rfl, H0.out, HB0.out⟩
        case round =>
          clear HB0
          obtain ⟨j, hj, rfl, hz, hnx⟩ := hrel
          have HZ := hide hz
          clear hz
          by_cases hlt : j < CA
          · obtain ⟨b, off, z0, z1, ab, nb, cb, rfl, hcs⟩ := HC.out j hlt
            obtain ⟨⟨k0, k1, k2⟩, -⟩ := hcs wr hnx
            have C : Hid (∀ o, Calls Tryd.prog 92 #[.agg #[.int .i64 z0, .int .i64 z1, .slice ab nb cb], .int .i64 (B : Int)] (wr.alloc o) fun e w' => e = .returned (.int .i64 (F j)) ∧ Below w.heap.size w w') := by
              intro o
              refine ((hcs (wr.alloc o) (hnx.alloc hnx.size o)).2).mono ?_
              rintro e w1 ⟨he, hb⟩
              exact ⟨he, (hnx.alloc hnx.size o).trans (hb.mono (hnx.alloc hnx.size o).size)⟩
            have HT : Hid (F j ≠ 0 → r = F j) := fun h => by rw [HR.out]; exact firstUp_hit HZ.out h CA hlt
            have HS : Hid (firstUp F (j + 1) = F j) := firstUp_step HZ.out
            clear hcs HC
            obtain ⟨z, ez⟩ : ∃ z, F j = z := ⟨_, rfl⟩
            rw [ez] at C HT HS
            clear ez
            by_cases hz0 : z = 0
            · subst hz0
              go_wp2_with fail
              refine (C.out _).mono ?_
              rintro e w1 ⟨rfl, hb1⟩
              go_wp2
              go_roundw
              case rel => exact ⟨j + 1, by omega, by go_num, HS.out, hb1⟩
              case measure => simp [intOf]; omega
            · have HN := hide hz0
              go_wp2_with fail
              refine (C.out _).mono ?_
              rintro e w1 ⟨rfl, hb1⟩
              go_wp2
              go_ret
              exact ⟨retI (HT.out HN.out).symm, hb1⟩
          · have hje : j = CA := by omega
            subst hje
            have hr : Hid (r = 0) := by show r = 0; rw [HR.out]; exact HZ.out
            clear HC HR HZ
            go_wp2
            go_ret
            exact ⟨retI hr.out.symm, hnx⟩
    · have hr : Hid (r = 1) := K2.out h1 h2
      clear K1 K2 K3 K4 HC C2 h1
      generalize sizeV x.shape = S at C1 h2
      generalize x.shape.length = SA at *
      generalize x.cells.length = CA at *
      go_enter Tryd.func76, Tryd.ntmps76
      go_wp2_with fail
      refine C1.mono ?_
      rintro e w1 ⟨rfl, hw⟩
      rw [hw]
      clear hw
      go_wp2
      go_ret
      exact ⟨retI hr.out.symm, HB0.out⟩
  · have hr := hide (K1.out h1)
    clear K1 K2 K3 K4 HC C2
    generalize sizeV x.shape = S at C1
    generalize sizeE x.shape = E at C1 h1 hr
    generalize x.shape.length = SA at *
    generalize x.cells.length = CA at *
    go_enter Tryd.func76, Tryd.ntmps76
    go_wp2_with fail
    refine C1.mono ?_
    rintro e w1 ⟨rfl, hw⟩
    rw [hw]
    clear hw
    go_wp2
    go_ret
    exact ⟨retI hr.out.symm, HB0.out⟩
end Go.Proofs.YtlfacpclihmnnaaDoor
namespace Go.Proofs.YtlfacpclihmnnaaDoor
open Go.ChangeShapes Go.WideShapes Go.ChangeAt Go.RowKit
open Num (resV resE In64 sgnI absI)
set_option linter.unusedVariables false
theorem ArIn.form {n lo : Nat} {w : World} {x : Ar} {v : Value} (h : ArIn n lo w x v) : ∃ a1 c1 a2 c2, v = .agg #[.slice a1 x.shape.length c1, .slice a2 x.cells.length c2] := by
  cases n with
  | zero => exact h.elim
  | succ n => obtain ⟨a1, c1, a2, c2, hv, -⟩ := h; exact ⟨a1, c1, a2, c2, hv⟩
theorem cells_of {n lo : Nat} {w : World} {x : Ar} {a1 a2 : Option Addr} {k1 k2 c1 c2 : Nat} (h : ArIn (n + 1) lo w x (.agg #[.slice a1 k1 c1, .slice a2 k2 c2])) : k1 = x.shape.length ∧ k2 = x.cells.length ∧ Row lo w a1 x.shape ∧ x.cells.length ≤ 5864062014805 ∧ CellsIn n lo w x.cells a2 := by
  obtain ⟨a1', c1', a2', c2', hv, hR, hl, hc⟩ := h
  simp only [Value.agg.injEq, Array.mk.injEq, List.cons.injEq, and_true, Value.slice.injEq] at hv
  obtain ⟨⟨rfl, rfl, rfl⟩, rfl, rfl, rfl⟩ := hv
  exact ⟨rfl, rfl, hR, hl, hc⟩
end Go.Proofs.YtlfacpclihmnnaaDoor
namespace Go.Proofs.YtlfacpclihmnnaaDoor
open Go.ChangeShapes Go.WideShapes Go.ChangeAt Go.RowKit
open Num (resV resE In64 sgnI absI)
set_option linter.unusedVariables false
theorem four_allocs (w : World) (o1 o2 o3 o4 : Obj) : Below w.heap.size w ((((w.alloc o1).alloc o2).alloc o3).alloc o4) := (three_allocs w o1 o2 o3).trans ((one_alloc _ o4).mono (three_allocs w o1 o2 o3).size)
end Go.Proofs.YtlfacpclihmnnaaDoor
namespace Go.Proofs.YtlfacpclihmnnaaDoor
open Go.ChangeShapes Go.WideShapes Go.ChangeAt Go.RowKit
theorem places_bad {l : List Int} {n : Int} {w w' : World} (hs : ¬ sizeE l = 0) (hb : Below w.heap.size w w') : PlacesIs l n w (.returned (.tuple #[.slice none 0 0, .int .i64 (sizeE l)])) w' :=
  ⟨hb, fun _ => rfl, fun h => absurd h hs, fun h => absurd h hs⟩
theorem places_out {l : List Int} {n : Int} {w w' : World} (hs : sizeE l = 0) (ho : ¬ (0 ≤ n ∧ n < sizeV l)) (hb : Below w.heap.size w w') : PlacesIs l n w (.returned (.tuple #[.slice none 0 0, .int .i64 8])) w' :=
  ⟨hb, fun h => absurd hs h, fun _ _ => rfl, fun _ h1 h2 => absurd ⟨h1, h2⟩ ho⟩
theorem places_in {l : List Int} {n : Int} {w w' : World} (hs : sizeE l = 0) (h0 : 0 ≤ n) (h1 : n < sizeV l) (hb : Below w.heap.size w w') (f : Nat → Value) (hr : w'.rowIs w.heap.size 3 l.length f) (hf : ∀ i, i < l.length → f i = .int .i64 ((digits l n)[i]?.getD 0)) : PlacesIs l n w (.returned (.tuple #[.slice (some ⟨w.heap.size, 0, none⟩) l.length l.length, .int .i64 0])) w' := by
  obtain ⟨a, b, c, d⟩ := sizeV_in hs h0 h1
  exact ⟨hb, fun h => absurd hs h, fun _ h => absurd ⟨h0, h1⟩ h, fun _ _ _ => ⟨_, rfl, row_made hr (digits_length l n) (Nat.le_refl _) (by omega) hf, b, by omega⟩⟩
theorem cell_apart {w : World} {p q : Addr} {v : Value} (h : p.block ≠ q.block) (x : Value) (hc : w.cell? p = some v) : (w.setCell q x).cell? p = some v := by
  rw [World.cell?_of_block (w := w) (Below.heap_setCell w q x p.block h)]
  exact hc
set_option maxHeartbeats 1000000 in
theorem rplaces_any {lo : Nat} (l : List Int) (n : Int) (a : Option Addr) (cap : Nat) (w : World) (R : Row lo w a l) :
    Calls Tryd.prog 37 #[.slice a l.length cap, .int .i64 n] w fun e w' => PlacesIs l n w e w' := by
  have C := rsize_any l a cap w R
  have hrow := @row_at _ _ _ _ R
  have hl := R.1
  clear R
  by_cases hs : sizeE l = 0
  · by_cases ho : 0 ≤ n ∧ n < sizeV l
    · obtain ⟨h0, h1⟩ := ho
      obtain ⟨s1, s2, s3, s4⟩ := sizeV_in hs h0 h1
      have FIN := fun (w' : World) (hb : Below w.heap.size w w') f hr hf => places_in hs h0 h1 hb f hr hf
      rw [hs] at C
      have DG : Hid (∀ i, i < l.length → (digits l n)[i]?.getD 0 = n % prodL (l.drop i) / prodL (l.drop (i + 1))) := fun i hi => digit_ref l s2 n h0 (by omega) i hi
      have DD : Hid (∀ i, i < l.length → 0 < l[i]?.getD 0 ∧ l[i]?.getD 0 ≤ 16384 ∧ 0 < prodL (l.drop (i + 1)) ∧ prodL (l.drop i) = l[i]?.getD 0 * prodL (l.drop (i + 1)) ∧ prodL (l.drop i) ≤ 16384 ∧ 0 ≤ n % prodL (l.drop i) ∧ n % prodL (l.drop i) ≤ 16384 ∧ n % prodL (l.drop i) % prodL (l.drop (i + 1)) = n % prodL (l.drop (i + 1))) := by
        intro i hi
        have p1 := s2 _ (getD_mem hi)
        have p2 := prod_of_mem s2 (getD_mem hi)
        have p3 := prodL_pos (l := l.drop (i + 1)) fun z hz => s2 z (List.mem_of_mem_drop hz)
        have p4 := prodL_pos (l := l.drop i) fun z hz => s2 z (List.mem_of_mem_drop hz)
        have p5 : prodL (l.drop i) ≤ prodL l := by
          have e : prodL l = prodL (l.take i) * prodL (l.drop i) := by rw [← prodL_append, List.take_append_drop]
          have p6 := prodL_pos (l := l.take i) fun z hz => s2 z (List.mem_of_mem_take hz)
          have := Int.mul_le_mul (a := 1) (b := prodL (l.drop i)) (c := prodL (l.take i)) (d := prodL (l.drop i)) (by omega) (by omega) (by omega) (by omega)
          omega
        have p7 := Int.emod_nonneg n (show prodL (l.drop i) ≠ 0 by omega)
        have p8 := Int.emod_lt_of_pos n (show 0 < prodL (l.drop i) by omega)
        refine ⟨p1, by omega, by omega, prodL_drop l i hi, by omega, p7, by omega, ?_⟩
        exact Int.emod_emod_of_dvd n ⟨l[i]?.getD 0, by rw [prodL_drop l i hi, Int.mul_comm]⟩
      have H0 : Hid (n = n % prodL (l.drop 0) ∧ sizeV l = prodL (l.drop 0)) := ⟨by rw [List.drop_zero, Int.emod_eq_of_lt h0 (by omega)], s3⟩
      have mk := run_make_row' (P := Tryd.prog) 22 3 (.int .i64 0) 8 Tryd.underlying22 int3 rfl .i64 .i64 l.length (by omega) (by omega)
      have rm := World.rowIs_made w (.int .i64 0) l.length 3
      have bm : Below w.heap.size w (w.alloc (.cells (madeCells #[.int .i64 0] l.length) 3)) := (Below.refl _ _).alloc (Nat.le_refl _) _
      have FIN' : Hid (∀ (w' : World) (hb : Below w.heap.size w w') f (hr : w'.rowIs w.heap.size 3 l.length f) (hf : ∀ i, i < l.length → f i = .int .i64 ((digits l n)[i]?.getD 0)), PlacesIs l n w (.returned (.tuple #[.slice (some ⟨w.heap.size, 0, none⟩) l.length l.length, .int .i64 0])) w') := FIN
      clear FIN
      have BM : Hid _ := bm
      have RM : Hid ((w.alloc (.cells (madeCells #[.int .i64 0] l.length) 3)).rowIs w.heap.size 3 l.length (fun _ => .int .i64 0)) := rm
      clear bm rm s2 hs s3
      generalize sizeV l = S at C h1 H0
      go_enter Tryd.func37, Tryd.ntmps37
      go_wp2_with (go_at_call 36; refine C.mono ?_; rintro e w' ⟨rfl, hw⟩; rw [hw])
      clear C mk
      go_loopw [1, 9, 10] (fun nn st i wr => ∃ k : Nat, k ≤ l.length ∧ i = .int .i64 (k : Int) ∧ nn = .int .i64 (n % prodL (l.drop k)) ∧ st = .int .i64 (prodL (l.drop k)) ∧ Below w.heap.size w wr ∧ wr.rowIs w.heap.size 3 l.length (fun i => if i < k then .int .i64 ((digits l n)[i]?.getD 0) else .int .i64 0)) (fun _ _ i _ => l.length - (intOf i).toNat)
      case atStart =>
        refine ⟨0, Nat.zero_le _, by go_num, by rw [← H0.out.1], by rw [H0.out.2], BM.out, World.rowIs.congr RM.out ?_⟩
        intro i hi
        simp
      case round =>
        obtain ⟨k, hk, rfl, rfl, rfl, hnx, hr⟩ := hrel
        by_cases hlt : k < l.length
        · obtain ⟨b, off, ha, hb, hck⟩ := hrow hlt
          subst ha
          have hc1 : wr.cell? ⟨b, off + k, none⟩ = some (.int .i64 (l[k]?.getD 0)) := (hnx.cell (p := ⟨b, off + k, none⟩) hb).trans hck
          have hz := hr.cell hlt
          rw [if_neg (by omega)] at hz
          have hfz := hr.frozen k
          obtain ⟨d1, d2, d3, d4, d5, d6, d7, d8⟩ := DD.out k hlt
          have dg := DG.out k hlt
          obtain ⟨s, es⟩ : ∃ s, l[k]?.getD 0 = s := ⟨_, rfl⟩
          rw [es] at hc1 d1 d2 d4
          obtain ⟨q, eq⟩ : ∃ q, n % prodL (l.drop k) = q := ⟨_, rfl⟩
          rw [eq] at d6 d7 d8 dg ⊢
          obtain ⟨P, eP⟩ : ∃ P, prodL (l.drop k) = P := ⟨_, rfl⟩
          rw [eP] at d4 d5 ⊢
          have D8 : Hid (q % prodL (l.drop (k + 1)) = n % prodL (l.drop (k + 1))) := d8
          obtain ⟨p, ep⟩ : ∃ p, prodL (l.drop (k + 1)) = p := ⟨_, rfl⟩
          have EP : Hid (prodL (l.drop (k + 1)) = p) := ep
          rw [ep] at d3 d4 dg
          have u1 : P / s = p := by rw [d4]; exact Int.mul_ediv_cancel_left _ (by omega)
          have u2 : 1 ≤ s := by omega
          have u3 : p ≤ P := by
            have := Int.mul_le_mul (a := 1) (b := p) (c := s) (d := p) (by omega) (by omega) (by omega) (by omega)
            omega
          have hne : (s == 0) = false := beq_eq_false_iff_ne.2 (by omega)
          have hne2 : (p == 0) = false := beq_eq_false_iff_ne.2 (by omega)
          have t0 : P.tdiv s = p := by rw [Int.tdiv_eq_ediv_of_nonneg (by omega)]; exact u1
          have t1 : q.tmod p = q % p := Int.tmod_eq_emod_of_nonneg d6
          have t2 : q.tdiv p = q / p := Int.tdiv_eq_ediv_of_nonneg d6
          have t3 : 0 ≤ q / p := Int.ediv_nonneg d6 (by omega)
          have t4 : q / p ≤ q := Int.ediv_le_self _ d6
          have t5 : 0 ≤ q % p := Int.emod_nonneg _ (by omega)
          have t6 : q % p < p := Int.emod_lt_of_pos _ d3
          have hset := hr.set k (.int .i64 (q / p))
          have HS : Hid ((wr.setCell ⟨w.heap.size, k, none⟩ (.int .i64 (q / p))).rowIs w.heap.size 3 l.length (fun i => if i < k + 1 then .int .i64 ((digits l n)[i]?.getD 0) else .int .i64 0)) := by
            refine hset.congr ?_
            intro i hi
            by_cases e : i = k
            · subst e; rw [if_pos rfl, if_pos (Nat.lt_succ_self _), dg]
            · rw [if_neg e]
              by_cases e2 : i < k
              · rw [if_pos e2, if_pos (by omega)]
              · rw [if_neg e2, if_neg (by omega)]
          have HB : Hid (Below w.heap.size w (wr.setCell ⟨w.heap.size, k, none⟩ (.int .i64 (q / p)))) := hnx.setCell (p := ⟨w.heap.size, k, none⟩) (Nat.le_refl _) _
          clear hset hr dg es eq hrow hck DG DD FIN' eP d4 d8 ep u1
          go_wp2
          go_roundw
          case rel => exact ⟨k + 1, by omega, by go_num, by rw [← D8.out, EP.out], by rw [EP.out], HB.out, HS.out⟩
          case measure => simp [intOf]; omega
        · have hje : k = l.length := by omega
          subst hje
          have F := FIN'.out wr hnx _ hr (fun i hi => by rw [if_pos hi])
          have F' : Hid _ := F
          clear F hr FIN' DG DD
          go_wp2
          go_ret2
          exact F'.out
    · have F : Hid (PlacesIs l n w (.returned (.tuple #[.slice none 0 0, .int .i64 8])) w) := places_out hs ho (Below.refl _ _)
      rw [hs] at C
      generalize sizeV l = S at C ho
      by_cases h0 : n < 0
      · have hd : decide (n < 0) = true := decide_eq_true h0
        clear hs ho
        go_enter Tryd.func37, Tryd.ntmps37
        go_wp2_with (go_at_call 36; refine C.mono ?_; rintro e w' ⟨rfl, hw⟩; rw [hw])
        go_ret2
        exact F.out
      · have hd : decide (n < 0) = false := decide_eq_false h0
        have h1 : S ≤ n := by omega
        clear hs ho
        go_enter Tryd.func37, Tryd.ntmps37
        go_wp2_with (go_at_call 36; refine C.mono ?_; rintro e w' ⟨rfl, hw⟩; rw [hw])
        go_ret2
        exact F.out
  · have F : Hid (PlacesIs l n w (.returned (.tuple #[.slice none 0 0, .int .i64 (sizeE l)])) w) := places_bad hs (Below.refl _ _)
    generalize sizeE l = E at C hs F
    go_enter Tryd.func37, Tryd.ntmps37
    go_wp2_with (go_at_call 36; refine C.mono ?_; rintro e w' ⟨rfl, hw⟩; rw [hw])
    go_ret2
    exact F.out
end Go.Proofs.YtlfacpclihmnnaaDoor
namespace Go.Proofs.YtlfacpclihmnnaaDoor
open Go.ChangeShapes Go.WideShapes Go.ChangeAt Go.RowKit
set_option linter.unusedVariables false
/-- append onto a row of the call's own, as one step of a region. -/
theorem step_append_own {P : Program} {w : World} {ops : Array Oper} {o : Oper} {a : Act} {K : Act → World → Prop} {Q : Exit → Act → World → Prop} {E : Prop} (hg : o.guard = none) (s x : Operand) (t : TypeId)
    (ho : o.op = .call { callee := .builtin .append, args := #[s, x], argTypes := #[t, t] })
    (base : Nat) (e : TypeId) (i : TypeInfo) (z : Value) (size bytes : Nat) (ht : P.underlying t = some (.slice e)) (hi : P.info? e = some i) (hz : i.zero = some z)
    (hsize : i.size = size) (hby : i.bytes = bytes) (hzs : z.cells.size = size) (hsz : 0 < size)
    (v : Value) (n : Nat) (xs : List Value) (hs : a.eval s = v) (hown : w.ownsRow base e size v n xs)
    (ad : Addr) (m c : Nat) (news : List Value) (hx : a.eval x = .slice (some ad) m c) (hl : news.length = m * size) (hnews : ∀ j u, news[j]? = some u → w.cell? (ad.add j) = some u) (h1 : ∀ u ∈ news, u.oneCell' = true)
    (h63 : n + m ≤ maxLen) (hbytes : (n + m) * bytes ≤ 140737488355328) (hbase : base ≤ w.heap.size)
    (h : ∀ v' w', w'.ownsRow base e size v' (n + m) (xs ++ news) → Below base w w' → K (a.put o.dst v') w') : if Region.wanted o (yielded ops a.tmps) = true then Oper.wp P o a w K Q else E := by
  have hw : Region.wanted o (yielded ops a.tmps) = true := by simp [Region.wanted, hg]
  rw [if_pos hw]
  refine wp_append_own w s x t ho base e i z size bytes ht hi hz hsize hby hzs hsz v n xs hs hown ad m c news hx hl hnews h1 h63 hbytes hbase ?_
  intro v' w' hown' hgrow _
  exact h v' w' hown' ((Below.refl _ _).grown hgrow hbase (fun q hq => (hown.lt q hq).1))
/-- What the row holds that append has put together, up to number j. -/
def rowF (k : Int) (l : List Int) (j : Nat) : List Value := (List.range (j * 3)).map (numF k l l.length)
theorem rowF_step (k : Int) (l : List Int) (j : Nat) (hj : j < l.length) : rowF k l (j + 1) = rowF k l j ++ [.int .i64 k, .int .i64 (l[j]?.getD 0), .slice none 0 0] := by
  unfold rowF
  have e : (j + 1) * 3 = j * 3 + 1 + 1 + 1 := by omega
  rw [e, List.range_succ, List.range_succ, List.range_succ]
  simp only [List.map_append, List.map_cons, List.map_nil, List.append_assoc, List.cons_append, List.nil_append]
  have f0 : numF k l l.length (j * 3) = .int .i64 k := by
    unfold numF; rw [if_pos (by omega), if_pos (by omega)]
  have f1 : numF k l l.length (j * 3 + 1) = .int .i64 (l[j]?.getD 0) := by
    unfold numF; rw [if_pos (by omega), if_neg (by omega), if_pos (by omega), show (j * 3 + 1) / 3 = j by omega]
  have f2 : numF k l l.length (j * 3 + 1 + 1) = .slice none 0 0 := by
    unfold numF; rw [if_pos (by omega), if_neg (by omega), if_neg (by omega)]
  rw [f0, f1, f2]
theorem owns_form {w : World} {base n : Nat} {e : TypeId} {v : Value} {xs : List Value} (h : w.ownsRow base e 3 v n xs) (hn : 0 < n) : ∃ g cap, v = .slice (some ⟨g, 0, none⟩) n cap ∧ base ≤ g ∧ g < w.heap.size := by
  obtain ⟨h1, h2⟩ := h
  rcases h2 with ⟨rfl, h2⟩ | ⟨g, cap, cur, rfl, hb, hg, -⟩
  · omega
  · exact ⟨g, cap, rfl, hb, lt_of_block hg⟩
theorem owns_cells {w : World} {base lo n : Nat} {v : Value} (k : Int) (l : List Int) (h : w.ownsRow base 43 3 v l.length (rowF k l l.length)) (hlo : lo ≤ base) :
    ∃ a2 cap, v = .slice a2 l.length cap ∧ CellsIn n lo w (numCs k l) a2 := by
  have h' := h
  obtain ⟨h1, h2⟩ := h'
  rcases h2 with ⟨rfl, h2⟩ | ⟨g, cap, cur, rfl, hb, hg, -⟩
  · have e : l = [] := List.eq_nil_of_length_eq_zero h2
    subst e
    exact ⟨none, 0, rfl, Or.inl rfl⟩
  · refine ⟨_, cap, rfl, Or.inr ⟨g, 0, rfl, by omega, lt_of_block hg, ?_⟩⟩
    intro i hi
    rw [numCs_len] at hi
    rw [numCs_at k l i hi]
    have hc : ∀ m, m < l.length * 3 → w.cell? ⟨g, m, none⟩ = some (numF k l l.length m) := by
      intro m hm
      have := h.cellAt m (by simpa [rowF] using hm)
      rw [this]
      simp [rowF, hm]
    have f0 : numF k l l.length (i * 3) = .int .i64 k := by
      unfold numF; rw [if_pos (by omega), if_pos (by omega)]
    have f1 : numF k l l.length (i * 3 + 1) = .int .i64 (l[i]?.getD 0) := by
      unfold numF; rw [if_pos (by omega), if_neg (by omega), if_pos (by omega), show (i * 3 + 1) / 3 = i by omega]
    have f2 : numF k l l.length (i * 3 + 2) = .slice none 0 0 := by
      unfold numF; rw [if_pos (by omega), if_neg (by omega), if_neg (by omega)]
    have h0 := hc (i * 3) (by omega)
    have h1 := hc (i * 3 + 1) (by omega)
    have h2 := hc (i * 3 + 2) (by omega)
    rw [f0] at h0
    rw [f1] at h1
    rw [f2] at h2
    rw [Nat.zero_add]
    exact ⟨_, _, _, h0, h1, h2, rfl, rfl, none, 0, rfl, by simp, Or.inl rfl⟩
end Go.Proofs.YtlfacpclihmnnaaDoor
namespace Go.Proofs.YtlfacpclihmnnaaDoor
open Go.ChangeShapes Go.WideShapes Go.ChangeAt Go.RowKit
set_option linter.unusedVariables false
set_option maxRecDepth 100000
/-- What holds while the document's Nums or Text goes on: its answer's place (block s), the array (block o, its shape sv) and its cells so far. -/
def Inv (s o : Nat) (sv : Value) (k : Int) (l : List Int) (j : Nat) (v : Value) (w wr : World) : Prop :=
  Below s w wr ∧ o < wr.heap.size ∧ (wr.cell? ⟨s, 0, none⟩ = some (.slice none 0 0) ∧ wr.cell? ⟨s, 1, none⟩ = some (.slice none 0 0) ∧ wr.frozen? ⟨s, 0, none⟩ = false ∧ wr.frozen? ⟨s, 1, none⟩ = false) ∧
  (wr.cell? ⟨o, 0, none⟩ = some sv ∧ wr.cell? ⟨o, 1, none⟩ = some v ∧ wr.frozen? ⟨o, 0, none⟩ = false ∧ wr.frozen? ⟨o, 1, none⟩ = false) ∧ wr.ownsRow (o + 1) 43 3 v j (rowF k l j)
theorem frozen_set (w : World) (a b : Addr) (v : Value) (h : w.frozen? b = false) : (w.setCell a v).frozen? b = false := by
  simpa using h
theorem inv_step {s o : Nat} {sv : Value} {k : Int} {l : List Int} {j : Nat} {v v' : Value} {w wr w1 : World} (so : s < o) (h : Inv s o sv k l j v w wr) (hb : Below (o + 1) wr w1) (hown : w1.ownsRow (o + 1) 43 3 v' (j + 1) (rowF k l (j + 1))) : Inv s o sv k l (j + 1) v' w (w1.setCell ⟨o, 1, none⟩ v') := by
  obtain ⟨h1, h2, ⟨c0, c1, c2, c3⟩, ⟨d0, d1, d2, d3⟩, -⟩ := h
  have e0 : w1.cell? ⟨o, 0, none⟩ = some sv := (hb.cell (p := ⟨o, 0, none⟩) (by show o < _; omega)).trans d0
  have e1 : w1.cell? ⟨o, 1, none⟩ = some v := (hb.cell (p := ⟨o, 1, none⟩) (by show o < _; omega)).trans d1
  refine ⟨(h1.trans (hb.mono (by omega))).setCell (p := ⟨o, 1, none⟩) (by show s ≤ o; omega) _, ?_, ⟨?_, ?_, ?_, ?_⟩, ⟨?_, ?_, ?_, ?_⟩, ownsRow_setCell_below hown (a := ⟨o, 1, none⟩) (by show o < _; omega) _⟩
  · have : (w1.setCell ⟨o, 1, none⟩ v').heap.size = w1.heap.size := by simp
    rw [this]; exact Nat.lt_of_lt_of_le h2 hb.size
  · exact cell_apart (p := ⟨s, 0, none⟩) (q := ⟨o, 1, none⟩) (by show s ≠ o; omega) _ ((hb.cell (p := ⟨s, 0, none⟩) (by show s < _; omega)).trans c0)
  · exact cell_apart (p := ⟨s, 1, none⟩) (q := ⟨o, 1, none⟩) (by show s ≠ o; omega) _ ((hb.cell (p := ⟨s, 1, none⟩) (by show s < _; omega)).trans c1)
  · exact frozen_set _ _ _ _ ((hb.frozen (p := ⟨s, 0, none⟩) (by show s < _; omega)).trans c2)
  · exact frozen_set _ _ _ _ ((hb.frozen (p := ⟨s, 1, none⟩) (by show s < _; omega)).trans c3)
  · rw [World.cell?_setCell_other _ _ _ _ (by simp)]; exact e0
  · exact World.cell?_setCell_same' _ _ _ (by rw [e1]; rfl)
  · exact frozen_set _ _ _ _ ((hb.frozen (p := ⟨o, 0, none⟩) (by show o < _; omega)).trans d2)
  · exact frozen_set _ _ _ _ ((hb.frozen (p := ⟨o, 1, none⟩) (by show o < _; omega)).trans d3)
theorem info33' : ∃ i, Tryd.prog.info? 43 = some i ∧ i.zero = some (.agg #[.int .i64 0, .int .i64 0, .slice none 0 0]) ∧ i.size = 3 ∧ i.bytes = 40 := by
  obtain ⟨i, hi, hzz⟩ := Option.map_eq_some_iff.1 info33
  simp only [Prod.mk.injEq] at hzz
  exact ⟨i, hi, hzz.1, hzz.2.1, hzz.2.2⟩
theorem owns_drew {w : World} {base e size n : Nat} {v : Value} {xs : List Value} (h : w.ownsRow base e size v n xs) : w.drew.ownsRow base e size v n xs := h
set_option maxHeartbeats 4000000 in
theorem rnums_any {lo : Nat} (n : Nat) (l : List Int) (a : Option Addr) (cap : Nat) (w : World) (R : Row lo w a l) (hl : l.length ≤ 16384) :
    Calls Tryd.prog 19 #[.slice a l.length cap] w fun e w' => GivesA (n + 1) (numsA l) w e w' := by
  obtain ⟨i0, hi, hz0, hz1, hz2⟩ := info33'
  have hrow := @row_at _ _ _ _ R
  clear R
  have b1 : Below w.heap.size w ((w.alloc (.cells #[.slice none 0 0, .slice none 0 0] 25)).alloc (.cells #[.int .i64 (l.length : Int)] 3)) := two_allocs _ _ _
  have s1 := size_two w (.cells #[.slice none 0 0, .slice none 0 0] 25) (.cells #[.int .i64 (l.length : Int)] 3)
  have HST : Hid (Inv w.heap.size (w.heap.size + 2) (.slice (some ⟨w.heap.size + 1, 0, none⟩) 1 1) 0 l 0 (.slice none 0 0) w (((w.alloc (.cells #[.slice none 0 0, .slice none 0 0] 25)).alloc (.cells #[.int .i64 (l.length : Int)] 3)).alloc (.cells #[.slice (some ⟨w.heap.size + 1, 0, none⟩) 1 1, .slice none 0 0] 25))) := by
    have g := fun (b i : Nat) (v : Value) (hb : b < w.heap.size + 2) (h : ((w.alloc (.cells #[.slice none 0 0, .slice none 0 0] 25)).alloc (.cells #[.int .i64 (l.length : Int)] 3)).cell? ⟨b, i, none⟩ = some v) => ((one_alloc _ (.cells #[.slice (some ⟨w.heap.size + 1, 0, none⟩) 1 1, .slice none 0 0] 25)).cell (p := ⟨b, i, none⟩) (by rw [s1]; exact hb)).trans h
    have gf : ∀ i, (((w.alloc (.cells #[.slice none 0 0, .slice none 0 0] 25)).alloc (.cells #[.int .i64 (l.length : Int)] 3)).alloc (.cells #[.slice (some ⟨w.heap.size + 1, 0, none⟩) 1 1, .slice none 0 0] 25)).frozen? ⟨w.heap.size, i, none⟩ = false := fun i =>
      (((two_allocs (w.alloc (.cells #[.slice none 0 0, .slice none 0 0] 25)) (.cells #[.int .i64 (l.length : Int)] 3) (.cells #[.slice (some ⟨w.heap.size + 1, 0, none⟩) 1 1, .slice none 0 0] 25)).frozen (p := ⟨w.heap.size, i, none⟩) (by simp))).trans (frozen_new w _ 25 i)
    have n0 := cell_new0 ((w.alloc (.cells #[.slice none 0 0, .slice none 0 0] 25)).alloc (.cells #[.int .i64 (l.length : Int)] 3)) #[.slice (some ⟨w.heap.size + 1, 0, none⟩) 1 1, .slice none 0 0] 25 0 _ rfl
    have n1 := cell_new0 ((w.alloc (.cells #[.slice none 0 0, .slice none 0 0] 25)).alloc (.cells #[.int .i64 (l.length : Int)] 3)) #[.slice (some ⟨w.heap.size + 1, 0, none⟩) 1 1, .slice none 0 0] 25 1 _ rfl
    have nf := fun i => frozen_new ((w.alloc (.cells #[.slice none 0 0, .slice none 0 0] 25)).alloc (.cells #[.int .i64 (l.length : Int)] 3)) #[.slice (some ⟨w.heap.size + 1, 0, none⟩) 1 1, .slice none 0 0] 25 i
    rw [s1] at n0 n1 nf
    refine ⟨b1.trans ((one_alloc _ _).mono (by rw [s1]; omega)), by simp, ⟨g _ _ _ (by omega) (cell_new1 w _ 25 (0, 0) _ 0 _ rfl), g _ _ _ (by omega) (cell_new1 w _ 25 (0, 0) _ 1 _ rfl), gf 0, gf 1⟩, ⟨n0, n1, nf 0, nf 1⟩, ?_⟩
    exact World.ownsRow_nil _ _ _ _
  have HLEN : Hid ((((w.alloc (.cells #[.slice none 0 0, .slice none 0 0] 25)).alloc (.cells #[.int .i64 (l.length : Int)] 3)).alloc (.cells #[.slice (some ⟨w.heap.size + 1, 0, none⟩) 1 1, .slice none 0 0] 25)).cell? ⟨w.heap.size + 1, 0, none⟩ = some (.int .i64 (l.length : Int))) :=
    ((one_alloc _ (.cells #[.slice (some ⟨w.heap.size + 1, 0, none⟩) 1 1, .slice none 0 0] 25)).cell (p := ⟨w.heap.size + 1, 0, none⟩) (by rw [s1]; show w.heap.size + 1 < _; omega)).trans (cell_new2 w #[.int .i64 (l.length : Int)] 3 (0, 0) (.cells #[.slice none 0 0, .slice none 0 0] 25) 0 _ rfl)
  clear b1 s1
  go_enter Tryd.func19, Tryd.ntmps19
  go_wp2
  go_loopw [4] (fun i wr => ∃ (j : Nat) (v : Value), j ≤ l.length ∧ i = .int .i64 (j : Int) ∧ Inv w.heap.size (w.heap.size + 2) (.slice (some ⟨w.heap.size + 1, 0, none⟩) 1 1) 0 l j v w wr ∧ wr.cell? ⟨w.heap.size + 1, 0, none⟩ = some (.int .i64 (l.length : Int))) (fun i _ => l.length - (intOf i).toNat)
  case atStart => exact ⟨0, _, Nat.zero_le _, rfl, HST.out, HLEN.out⟩
  case round =>
    clear HST HLEN
    obtain ⟨j, v, hj, rfl, hinv, hlen⟩ := hrel
    have HI := hide hinv
    have HL := hide hlen
    obtain ⟨hnx, hsz, ⟨c0, c1, c2, c3⟩, ⟨d0, d1, d2, d3⟩, hown⟩ := hinv
    by_cases hlt : j < l.length
    · obtain ⟨b, off, ha, hb, hck⟩ := hrow hlt
      subst ha
      have hc1 : wr.cell? ⟨b, off + j, none⟩ = some (.int .i64 (l[j]?.getD 0)) := (hnx.cell (p := ⟨b, off + j, none⟩) hb).trans hck
      have hc2 : ∀ o, (wr.drew.alloc o).cell? ⟨w.heap.size + 2, 1, none⟩ = some v := fun o => ((one_alloc wr.drew o).cell (p := ⟨w.heap.size + 2, 1, none⟩) hsz).trans d1
      have HSTEP := hide (rowF_step 0 l j hlt)
      generalize l[j]?.getD 0 = z at *
      have HOWN := hide ((owns_drew hown).alloc (.cells #[.int .i64 0, .int .i64 z, .slice none 0 0] 43))
      have HNEWS : Hid (∀ i u, [Value.int .i64 0, .int .i64 z, .slice none 0 0][i]? = some u → (wr.drew.alloc (.cells #[.int .i64 0, .int .i64 z, .slice none 0 0] 43)).cell? ((⟨wr.heap.size, 0, none⟩ : Addr).add i) = some u) := by
        intro i u hu
        have ha : (⟨wr.heap.size, 0, none⟩ : Addr).add i = ⟨wr.drew.heap.size, i, none⟩ := by
          unfold Addr.add
          split
          · subst_vars; rfl
          · simp
        rw [ha]
        exact cell_new0 wr.drew _ 43 i u (by simpa using hu)
      have HONE : Hid (∀ u ∈ [Value.int .i64 0, .int .i64 z, .slice none 0 0], u.oneCell' = true) := by
        intro u hu
        simp at hu
        rcases hu with rfl | rfl | rfl <;> rfl
      have HMAX : Hid (j + 1 ≤ maxLen ∧ (j + 1) * 40 ≤ 140737488355328 ∧ w.heap.size + 2 + 1 ≤ (wr.drew.alloc (.cells #[.int .i64 0, .int .i64 z, .slice none 0 0] 43)).heap.size) := by
        refine ⟨by unfold maxLen; omega, by omega, ?_⟩
        have : (wr.drew.alloc (.cells #[.int .i64 0, .int .i64 z, .slice none 0 0] 43)).heap.size = wr.heap.size + 1 := by simp
        omega
      have HAL : Hid (Below (w.heap.size + 2 + 1) wr (wr.drew.alloc (.cells #[.int .i64 0, .int .i64 z, .slice none 0 0] 43))) := ((Below.refl _ _).drew).alloc (by show _ ≤ wr.heap.size; omega) _
      clear hown hck hrow hlen c0 c1 c2 c3 d0 d2 hb hnx
      go_wp2
      go_region_law (refine step_append_own rfl (.tmp 16) (.tmp 22) 23 rfl (w.heap.size + 2 + 1) 43 i0 (.agg #[.int .i64 0, .int .i64 0, .slice none 0 0]) 3 40 Tryd.underlying23 hi hz0 hz1 hz2 rfl (by decide) v j (rowF 0 l j) rfl HOWN.out ⟨wr.heap.size, 0, none⟩ 1 1 [.int .i64 0, .int .i64 z, .slice none 0 0] rfl rfl HNEWS.out HONE.out HMAX.out.1 HMAX.out.2.1 HMAX.out.2.2 ?_; intro v' w1 hown1 hb1; obtain ⟨g, cp, rfl, -⟩ := owns_form hown1 (Nat.succ_pos j); have dd1 := (HAL.out.trans hb1).cell (p := ⟨w.heap.size + 2, 1, none⟩) (Nat.lt_succ_self _) |>.trans d1; have dd3 := (HAL.out.trans hb1).frozen (p := ⟨w.heap.size + 2, 1, none⟩) (Nat.lt_succ_self _) |>.trans d3)
      all_goals
        have hown2 : w1.ownsRow (w.heap.size + 2 + 1) 43 3 (.slice (some ⟨g, 0, none⟩) (j + 1) cp) (j + 1) (rowF 0 l (j + 1)) := by rw [HSTEP.out]; exact hown1
        have HN := hide (inv_step (by omega) HI.out (HAL.out.trans hb1) hown2)
        have HN2 : Hid ((w1.setCell ⟨w.heap.size + 2, 1, none⟩ (.slice (some ⟨g, 0, none⟩) (j + 1) cp)).cell? ⟨w.heap.size + 1, 0, none⟩ = some (.int .i64 (l.length : Int))) := cell_apart (p := ⟨w.heap.size + 1, 0, none⟩) (q := ⟨w.heap.size + 2, 1, none⟩) (by show w.heap.size + 1 ≠ w.heap.size + 2; omega) _ (((HAL.out.trans hb1).cell (p := ⟨w.heap.size + 1, 0, none⟩) (by show w.heap.size + 1 < _; omega)).trans HL.out)
        clear hown1 hown2 hb1 dd1 dd3 HOWN HNEWS HONE HMAX HAL HI HL HSTEP
        go_wp2
        go_roundw
        case rel => exact ⟨j + 1, _, by omega, by go_num, HN.out, HN2.out⟩
        case measure => simp [intOf]; omega
    · have hje : j = l.length := by omega
      subst hje
      obtain ⟨a2, cp, rfl, hcs⟩ := owns_cells (n := n) (lo := w.heap.size + 2 + 1) 0 l hown (Nat.le_refl _)
      have HF : Hid (∀ x y, ArIn (n + 1) w.heap.size ((wr.setCell ⟨w.heap.size, 0, none⟩ x).setCell ⟨w.heap.size, 1, none⟩ y) (numsA l) (.agg #[.slice (some ⟨w.heap.size + 1, 0, none⟩) 1 1, .slice a2 l.length cp])) := by
        intro x y
        have hk : Keeps (w.heap.size + 1) wr ((wr.setCell ⟨w.heap.size, 0, none⟩ x).setCell ⟨w.heap.size, 1, none⟩ y) := ((Keeps.refl _ _).setCell (p := ⟨w.heap.size, 0, none⟩) (by show w.heap.size < _; omega) x).setCell (p := ⟨w.heap.size, 1, none⟩) (by show w.heap.size < _; omega) y
        refine arIn_mk (x := numsA l) ?_ (by simp [numsA, Ar.cells, numCs_len]; omega) ?_ rfl (numCs_len 0 l)
        · exact ((row_one (lo := w.heap.size + 1) (b := w.heap.size + 1) (by omega) (Nat.le_refl _) HL.out).keeps hk).low (by omega)
        · exact ((hcs.mono (lo' := w.heap.size + 1) (by omega) (Below.refl _ _)).keeps hk).mono (by omega) (Below.refl _ _)
      have HT := hide (set_two c0 c1 (.slice (some ⟨w.heap.size + 1, 0, none⟩) 1 1) (.slice a2 l.length cp))
      have HB := hide hnx
      clear hown hrow hcs HI HL hnx
      go_wp2
      exact bodyPost_ret (v := .agg #[.slice (some ⟨w.heap.size + 1, 0, none⟩) 1 1, .slice a2 l.length cp]) (by simp [results, Tryd.results19, go_sem, HT.out.1, HT.out.2]) rfl ⟨⟨_, rfl, HF.out _ _⟩, (HB.out.setCell (p := ⟨w.heap.size, 0, none⟩) (Nat.le_refl _) _).setCell (p := ⟨w.heap.size, 1, none⟩) (Nat.le_refl _) _⟩
end Go.Proofs.YtlfacpclihmnnaaDoor
namespace Go.Proofs.YtlfacpclihmnnaaDoor
open Go.ChangeShapes Go.WideShapes Go.ChangeAt Go.RowKit
set_option linter.unusedVariables false
theorem row_nil (lo : Nat) (w : World) (a : Option Addr) : Row lo w a [] := ⟨by simp, Or.inl rfl⟩
end Go.Proofs.YtlfacpclihmnnaaDoor
namespace Go.Proofs.YtlfacpclihmnnaaDoor
open Go.ChangeShapes Go.WideShapes Go.ChangeAt Go.RowKit
set_option linter.unusedVariables false
theorem own : ownKnob Tryd.prog.godebug = none := by kernel_rfl
theorem laidOut : laidOutB Tryd.prog = true := by kernel_rfl
theorem bytes3 : Tryd.prog.bytesOf 3 = 8 := by kernel_rfl
/-- What Places tells: the places, and the error. -/
def plsL (l : List Int) (n : Int) : List Int := if sizeE l = 0 ∧ 0 ≤ n ∧ n < sizeV l then digits l n else []
def plsE (l : List Int) (n : Int) : Int := if sizeE l = 0 then (if 0 ≤ n ∧ n < sizeV l then 0 else 8) else sizeE l
theorem pls_ok {l : List Int} {n : Int} (h : plsE l n = 0) : sizeE l = 0 ∧ 0 ≤ n ∧ n < sizeV l ∧ plsL l n = digits l n := by
  unfold plsE at h
  by_cases hs : sizeE l = 0
  · by_cases ho : 0 ≤ n ∧ n < sizeV l
    · exact ⟨hs, ho.1, ho.2, by unfold plsL; rw [if_pos ⟨hs, ho⟩]⟩
    · rw [if_pos hs, if_neg ho] at h; omega
  · rw [if_neg hs] at h; exact absurd h hs
theorem plc_ok {l m : List Int} (h : plcE l m = 0) : sizeE l = 0 ∧ inAxes l m ∧ plcV l m = place l m := by
  unfold plcE at h
  by_cases hs : sizeE l = 0
  · by_cases hl : m.length = l.length
    · by_cases hi : inAxes l m
      · exact ⟨hs, hi, by unfold plcV; rw [if_pos ⟨hs, hi⟩]⟩
      · simp [hs, hl, hi] at h
    · simp [hs, hl] at h
  · simp [hs] at h
/-- The places of the cell at places. -/
theorem there {l m : List Int} (h : plcE l m = 0) : plsE l (plcV l m) = 0 ∧ plsL l (plcV l m) = m := by
  obtain ⟨hs, hi, hv⟩ := plc_ok h
  obtain ⟨b1, b2, b3, b4⟩ := place_bound hi
  obtain ⟨s1, s2, s3⟩ := sizeE_ok hs
  have hz : ¬ hasZero l := by
    rintro ⟨z, hz, e⟩
    have := b1 z hz
    omega
  rcases s3 with s3 | ⟨-, s4⟩
  · exact absurd s3 hz
  have sv : sizeV l = prodL l := (size_ok s1 s2 hz (by omega)).1
  have hr : 0 ≤ plcV l m ∧ plcV l m < sizeV l := by rw [hv, sv]; exact ⟨b2, b3⟩
  refine ⟨by unfold plsE; rw [if_pos hs, if_pos hr], ?_⟩
  unfold plsL
  rw [if_pos ⟨hs, hr⟩, hv]
  exact digits_place hi
/-- The cell at the places of a cell. -/
theorem back {l : List Int} {n : Int} (h : plsE l n = 0) : plcE l (plsL l n) = 0 ∧ plcV l (plsL l n) = n := by
  obtain ⟨hs, h0, h1, hL⟩ := pls_ok h
  obtain ⟨s1, s2, s3, s4⟩ := sizeV_in hs h0 h1
  obtain ⟨d1, d2⟩ := digits_in s2 h0 (by omega)
  rw [hL]
  have hl := digits_length l n
  refine ⟨by unfold plcE; simp [hs, hl, d1], ?_⟩
  unfold plcV
  rw [if_pos ⟨hs, d1⟩]
  exact d2
end Go.Proofs.YtlfacpclihmnnaaDoor
namespace Go.Proofs.YtlfacpclihmnnaaDoor
open Go.ChangeShapes Go.WideShapes Go.ChangeAt Go.RowKit Go.Deep
set_option linter.unusedVariables false
set_option maxRecDepth 100000
theorem cells25 : Tryd.prog.cellsOf 25 = 2 := by kernel_rfl
theorem cells33 : Tryd.prog.cellsOf 43 = 3 := by kernel_rfl
theorem cells22 : Tryd.prog.cellsOf 22 = 1 := by kernel_rfl
theorem cells23 : Tryd.prog.cellsOf 23 = 1 := by kernel_rfl
theorem cells31 : Tryd.prog.cellsOf 41 = 1 := by kernel_rfl
theorem cells3 : Tryd.prog.cellsOf 3 = 1 := by kernel_rfl
theorem cells2 : Tryd.prog.cellsOf 2 = 1 := by kernel_rfl
theorem bytes33 : Tryd.prog.bytesOf 43 = 40 := by kernel_rfl
theorem bytes25 : Tryd.prog.bytesOf 25 = 48 := by kernel_rfl
theorem weightsAll_mem {H : Type} {P : Program} {e : TypeId} {d : DataW H} : ∀ {l : List (DataW H)}, d ∈ l → ∀ n ∈ d.weights P e, n ∈ DataW.weightsAll P e l
  | x :: l, hd, n, hn => by
    simp only [DataW.weightsAll, List.mem_append]
    rcases List.mem_cons.1 hd with rfl | h
    · exact Or.inl hn
    · exact Or.inr (weightsAll_mem h n hn)
  | [], hd, _, _ => by simp at hd
def Fit {H : Type} (t : TypeId) (d : DataW H) : Prop := ∀ n ∈ d.weights Tryd.prog t, n ≤ reachBytes
theorem fit_slice {H : Type} {t e : TypeId} {elems spare : List (DataW H)} (hu : Tryd.prog.underlying t = some (.slice e)) (h : Fit t (.slice elems spare)) : (elems.length + spare.length) * Tryd.prog.bytesOf e ≤ reachBytes ∧ ∀ d ∈ elems, Fit e d := by
  unfold Fit at *
  simp only [DataW.weights, hu] at h
  refine ⟨h _ List.mem_cons_self, fun d hd n hn => h n ?_⟩
  exact List.mem_cons_of_mem _ (List.mem_append_left _ (weightsAll_mem hd n hn))
theorem fit_arr {H : Type} {d0 d1 : DataW H} (h : Fit 25 (.agg [d0, d1])) : Fit 22 d0 ∧ Fit 23 d1 := by
  unfold Fit at *
  simp only [DataW.weights, Tryd.underlying25, DataW.weightsEach, List.map_cons, List.map_nil, List.append_nil, List.mem_append] at h
  exact ⟨fun n hn => h n (Or.inl hn), fun n hn => h n (Or.inr hn)⟩
theorem fit_cell {H : Type} {d0 d1 d2 : DataW H} (h : Fit 43 (.agg [d0, d1, d2])) : Fit 41 d2 := by
  unfold Fit at *
  simp only [DataW.weights, Tryd.underlying43, DataW.weightsEach, List.map_cons, List.map_nil, List.append_nil, List.mem_append] at h
  exact fun n hn => h n (Or.inr (Or.inr hn))
theorem add_off (b off i : Nat) : (⟨b, off, none⟩ : Addr).add i = ⟨b, off + i, none⟩ := by
  unfold Addr.add
  split
  · subst_vars; rfl
  · rfl
theorem two_of {W : World} {a : Addr} {cs : List Value} (h : W.cells? 0 a 2 = some cs) : ∃ c0 c1, cs = [c0, c1] ∧ W.cell? a = some c0 ∧ W.cell? (a.add 1) = some c1 := by
  obtain ⟨_, hl, hc⟩ := World.cells?_some h
  match cs, hl with
  | [c0, c1], _ =>
    have h0 := hc 0 (by omega)
    have h1 := hc 1 (by omega)
    exact ⟨c0, c1, rfl, by simpa [Addr.add] using h0, by simpa using h1⟩
theorem three_of {W : World} {a : Addr} {cs : List Value} (h : W.cells? 0 a 3 = some cs) : ∃ c0 c1 c2, cs = [c0, c1, c2] ∧ W.cell? a = some c0 ∧ W.cell? (a.add 1) = some c1 ∧ W.cell? (a.add 2) = some c2 := by
  obtain ⟨_, hl, hc⟩ := World.cells?_some h
  match cs, hl with
  | [c0, c1, c2], _ =>
    have h0 := hc 0 (by omega)
    have h1 := hc 1 (by omega)
    have h2 := hc 2 (by omega)
    exact ⟨c0, c1, c2, rfl, by simpa [Addr.add] using h0, by simpa using h1, by simpa using h2⟩
section
variable {H : Type} {enc : TypeId × Value → H} {W : World} {sp : Nat → Bool} {held : Bool}
/-- What the opening of an array promises. -/
def Opens (enc : TypeId × Value → H) (W : World) (sp : Nat → Bool) (held : Bool) (k : Nat) : Prop := ∀ (x : DataW H × List MemPlace) (cs : List Value) (fuel : Nat), SizeOf.sizeOf x.1 < k → DataW.trod enc Tryd.prog W 0 sp held fuel 25 cs = some x → Fit 25 x.1 → ∃ n y c0 c1, cs = [c0, c1] ∧ ArIn n 0 W y (.agg #[c0, c1]) ∧ Snd y
theorem open_cell {k : Nat} (IH : Opens enc W sp held k) (x : DataW H × List MemPlace) (cs : List Value) (fuel : Nat) (hk : SizeOf.sizeOf x.1 ≤ k) (h : DataW.trod enc Tryd.prog W 0 sp held fuel 43 cs = some x) (hf : Fit 43 x.1) :
    ∃ n c v0 v1 v2, cs = [v0, v1, v2] ∧ CeIn (ArIn n 0 W) 0 W c v0 v1 v2 ∧ SndC c := by
  obtain ⟨y0, y1, y2, m, rfl, hl, h0, h1, h2⟩ := trod_struct3 Tryd.underlying43 h
  rw [cells33] at hl
  match cs, hl with
  | [v0, v1, v2], _ =>
    simp only [cells3, cells2, cells31, List.drop_zero, List.take_succ_cons, List.take_zero, List.drop_succ_cons] at h0 h1 h2
    obtain ⟨z0, e0, -, i0⟩ := DataW.trod_int Tryd.underlying3 h0
    obtain ⟨z1, e1, -, i1⟩ := DataW.trod_int Tryd.underlying2 h1
    simp only [List.cons.injEq, and_true] at e0 e1
    subst e0 e1
    replace i0 : I64 z0 := bounds_i64 i0
    replace i1 : I64 z1 := bounds_i64 i1
    have hf2 := fit_cell hf
    rcases open_slice Tryd.underlying41 h2 with ⟨hcs, hx⟩ | ⟨a, len, cap, mm, n, D, Pl, hcs, _, hlc, hm, hmm, hx, hel⟩
    · simp only [List.cons.injEq, and_true] at hcs
      subst hcs
      exact ⟨1, (z0, z1, []), _, _, _, rfl, ⟨rfl, rfl, none, 0, rfl, by simp, Or.inl rfl⟩, i0, i1, by simp⟩
    · simp only [List.cons.injEq, and_true] at hcs
      subst hcs
      rw [hx] at hf2
      obtain ⟨hb, hfe⟩ := fit_slice Tryd.underlying41 hf2
      have hlen : len * 48 ≤ reachBytes := by
        rw [bytes25] at hb
        simp only [List.length_map, List.length_range] at hb
        omega
      have hlm : len ≤ mm := by rw [hmm]; split <;> omega
      have hE : ∀ i, i < len → ∃ p : Ar × Value × Value, ∃ n, W.cell? (a.add (i * 2)) = some p.2.1 ∧ W.cell? (a.add (i * 2 + 1)) = some p.2.2 ∧ ArIn n 0 W p.1 (.agg #[p.2.1, p.2.2]) ∧ Snd p.1 := by
        intro i hi
        obtain ⟨cs', hc', ht'⟩ := hel i (by omega)
        rw [cells25] at hc'
        obtain ⟨c0, c1, rfl, g0, g1⟩ := two_of hc'
        rw [add_add] at g1
        have hmem : D i ∈ (List.range len).map D := List.mem_map_of_mem (List.mem_range.2 hi)
        have hs : SizeOf.sizeOf (D i) < k := by
          have s1 := List.sizeOf_lt_of_mem hmem
          rw [hx] at hk
          simp only [DataW.agg.sizeOf_spec, DataW.slice.sizeOf_spec, List.cons.sizeOf_spec, List.nil.sizeOf_spec] at hk
          omega
        obtain ⟨n', y, c0', c1', hcc, hin, hsn⟩ := IH (D i, Pl i) [c0, c1] n hs ht' (hfe _ hmem)
        simp only [List.cons.injEq, and_true] at hcc
        obtain ⟨rfl, rfl⟩ := hcc
        exact ⟨(y, c0, c1), n', g0, g1, hin, hsn⟩
      obtain ⟨F, hF⟩ := choose_lt hE
      obtain ⟨N, hN⟩ := fuel_lt (n := len) (q := fun i n => ArIn n 0 W (F i).1 (.agg #[(F i).2.1, (F i).2.2])) (fun i a b hab h => h.deep hab) (fun i hi => by obtain ⟨n, _, _, h, _⟩ := hF i hi; exact ⟨n, h⟩)
      have hbl : ((List.range len).map fun i => (F i).1).length = len := by simp
      refine ⟨N, (z0, z1, (List.range len).map fun i => (F i).1), _, _, _, rfl, ⟨rfl, rfl, some a, cap, by simp, ?_, ?_⟩, i0, i1, fun y hy => by
        obtain ⟨i, hi, rfl⟩ := List.mem_map.1 hy
        obtain ⟨_, _, _, _, hs⟩ := hF i (List.mem_range.1 hi)
        exact hs⟩
      · simp only [hbl]; unfold reachBytes at hlen; omega
      · by_cases hl0 : len = 0
        · left; subst hl0; rfl
        · right
          obtain ⟨b, off, spot⟩ := a
          obtain ⟨_, g0, _, _⟩ := hF 0 (by omega)
          have hspot : spot = none := by simpa [Addr.add] using World.cell?_spot g0
          subst hspot
          refine ⟨b, off, rfl, Nat.zero_le _, ?_, ?_⟩
          · refine Decidable.byContradiction fun hbn => ?_
            have : W.heap[b]? = none := by simp; omega
            rw [add_off] at g0
            simp [World.cell?, this] at g0
          · intro j hj
            have hj' : j < len := by simpa using hj
            obtain ⟨_, g0, g1, _⟩ := hF j hj'
            rw [add_off] at g0 g1
            refine ⟨_, _, g0, by rw [Nat.add_assoc]; exact g1, ?_⟩
            have := hN j hj'
            simpa [bAt, hj'] using this
theorem open_arr (k : Nat) : Opens enc W sp held k := by
  induction k with
  | zero => intro x cs fuel hk; omega
  | succ k ih =>
    intro x cs fuel hk h hf
    obtain ⟨y0, y1, m, rfl, hl, h0, h1⟩ := trod_struct2 Tryd.underlying25 h
    rw [cells25] at hl
    match cs, hl with
    | [c0, c1], _ =>
      simp only [cells22, cells23, List.drop_zero, List.take_succ_cons, List.take_zero, List.drop_succ_cons] at h0 h1
      obtain ⟨f0, f1⟩ := fit_arr hf
      obtain ⟨sh, a1, n1, cp1, rfl, hsl, hR, hsI⟩ : ∃ sh a1 n1 cp1, c0 = .slice a1 n1 cp1 ∧ List.length sh = n1 ∧ Row 0 W a1 sh ∧ ∀ z ∈ sh, I64 z := by
        rcases open_ints Tryd.underlying22 Tryd.underlying3 cells3 h0 with ⟨hcs, hx⟩ | ⟨a, l, c, zs, hcs, _, hlc, hm, hz, hx, hcell, hwz⟩
        · simp only [List.cons.injEq, and_true] at hcs
          exact ⟨[], none, 0, 0, hcs, rfl, row_nil _ _ _, by simp⟩
        · simp only [List.cons.injEq, and_true] at hcs
          rw [hx] at f0
          obtain ⟨hb, -⟩ := fit_slice Tryd.underlying22 f0
          rw [bytes3] at hb
          have hzl : l ≤ zs.length := by rw [hz]; split <;> omega
          simp only [lits, List.length_map, List.length_take, List.length_drop, reachBytes] at hb
          refine ⟨zs.take l, some a, l, c, hcs, by rw [List.length_take]; omega, ?_, fun z hz => bounds_i64 (hwz z (List.mem_of_mem_take hz))⟩
          refine ⟨by rw [List.length_take]; omega, ?_⟩
          by_cases hl0 : l = 0
          · left; subst hl0; rfl
          · right
            obtain ⟨b, off, spot⟩ := a
            have hc0 := hcell 0 (by omega)
            have hspot : spot = none := by simpa [Addr.add] using World.cell?_spot hc0
            subst hspot
            refine ⟨b, off, rfl, Nat.zero_le _, ?_, ?_⟩
            · refine Decidable.byContradiction fun hbn => ?_
              have : W.heap[b]? = none := by simp; omega
              simp [Addr.add, World.cell?, this] at hc0
            · intro i hi
              have hi' : i < l := by rw [List.length_take] at hi; omega
              have := hcell i (by omega)
              rw [add_off] at this
              rw [this]
              simp [hi']
      rcases open_slice Tryd.underlying23 h1 with ⟨hcs, hx⟩ | ⟨a, len, cap, mm, n, D, Pl, hcs, _, hlc, hm, hmm, hx, hel⟩
      · simp only [List.cons.injEq, and_true] at hcs
        subst hcs
        exact ⟨1, .mk sh [], _, _, rfl, arIn_mk (n := 0) (x := .mk sh []) hR (by simp [Ar.cells]) (Or.inl rfl) hsl rfl, Snd.of hsI (by simp)⟩
      · simp only [List.cons.injEq, and_true] at hcs
        subst hcs
        rw [hx] at f1
        obtain ⟨hb, hfe⟩ := fit_slice Tryd.underlying23 f1
        have hlen : len * 40 ≤ reachBytes := by
          rw [bytes33] at hb
          simp only [List.length_map, List.length_range] at hb
          omega
        have hlm : len ≤ mm := by rw [hmm]; split <;> omega
        have hE : ∀ i, i < len → ∃ p : Ce × Value × Value × Value, ∃ n, W.cell? (a.add (i * 3)) = some p.2.1 ∧ W.cell? (a.add (i * 3 + 1)) = some p.2.2.1 ∧ W.cell? (a.add (i * 3 + 2)) = some p.2.2.2 ∧ CeIn (ArIn n 0 W) 0 W p.1 p.2.1 p.2.2.1 p.2.2.2 ∧ SndC p.1 := by
          intro i hi
          obtain ⟨cs', hc', ht'⟩ := hel i (by omega)
          rw [cells33] at hc'
          obtain ⟨w0, w1, w2, rfl, g0, g1, g2⟩ := three_of hc'
          rw [add_add] at g1 g2
          have hmem : D i ∈ (List.range len).map D := List.mem_map_of_mem (List.mem_range.2 hi)
          have hs : SizeOf.sizeOf (D i) ≤ k := by
            have s1 := List.sizeOf_lt_of_mem hmem
            rw [hx] at hk
            simp only [DataW.agg.sizeOf_spec, DataW.slice.sizeOf_spec, List.cons.sizeOf_spec, List.nil.sizeOf_spec] at hk
            omega
          obtain ⟨n', c, u0, u1, u2, hcc, hin, hsn⟩ := open_cell ih (D i, Pl i) [w0, w1, w2] n hs ht' (hfe _ hmem)
          simp only [List.cons.injEq, and_true] at hcc
          obtain ⟨rfl, rfl, rfl⟩ := hcc
          exact ⟨(c, w0, w1, w2), n', g0, g1, g2, hin, hsn⟩
        obtain ⟨F, hF⟩ := choose_lt hE
        obtain ⟨N, hN⟩ := fuel_lt (n := len) (q := fun i n => CeIn (ArIn n 0 W) 0 W (F i).1 (F i).2.1 (F i).2.2.1 (F i).2.2.2) (fun i a b hab h => h.deeper fun x v hx => hx.deep hab) (fun i hi => by obtain ⟨n, _, _, _, h, _⟩ := hF i hi; exact ⟨n, h⟩)
        have hbl : ((List.range len).map fun i => (F i).1).length = len := by simp
        refine ⟨N + 1, .mk sh ((List.range len).map fun i => (F i).1), _, _, rfl, arIn_mk (n := N) (x := .mk sh ((List.range len).map fun i => (F i).1)) hR ?_ ?_ hsl hbl, Snd.of hsI fun c hc => by
          obtain ⟨i, hi, rfl⟩ := List.mem_map.1 hc
          obtain ⟨_, _, _, _, _, hs⟩ := hF i (List.mem_range.1 hi)
          exact hs⟩
        · show ((List.range len).map fun i => (F i).1).length ≤ _
          rw [hbl]; unfold reachBytes at hlen; omega
        · show CellsIn N 0 W ((List.range len).map fun i => (F i).1) (some a)
          by_cases hl0 : len = 0
          · left; subst hl0; rfl
          · right
            obtain ⟨b, off, spot⟩ := a
            obtain ⟨_, g0, _, _⟩ := hF 0 (by omega)
            have hspot : spot = none := by simpa [Addr.add] using World.cell?_spot g0
            subst hspot
            refine ⟨b, off, rfl, Nat.zero_le _, ?_, ?_⟩
            · refine Decidable.byContradiction fun hbn => ?_
              have : W.heap[b]? = none := by simp; omega
              rw [add_off] at g0
              simp [World.cell?, this] at g0
            · intro j hj
              have hj' : j < len := by simpa using hj
              obtain ⟨_, g0, g1, g2, _⟩ := hF j hj'
              rw [add_off] at g0 g1 g2
              refine ⟨_, _, _, g0, by rw [Nat.add_assoc]; exact g1, by rw [Nat.add_assoc]; exact g2, ?_⟩
              have := hN j hj'
              simpa [cAt, hj'] using this
/-- An array that came in. -/
theorem arr_of {ts : List TypeId} {ds : List (DataW H)} {j : Nat} {d : DataW H} {v : Value} {p : List MemPlace}
    (hsz : (DataW.weightsEach Tryd.prog ts ds).all (· ≤ reachBytes) = true) (ht : ts[j]? = some 25) (hd : ds[j]? = some d)
    (h : DataW.Trod enc Tryd.prog W 0 sp held 25 v d p) : ∃ n y c0 c1, v.cells.toList = [c0, c1] ∧ ArIn n 0 W y (.agg #[c0, c1]) ∧ Snd y := by
  obtain ⟨fuel, hf⟩ := h
  exact open_arr (SizeOf.sizeOf d + 1) (d, p) _ fuel (by simp) hf (fun n hn => by
    have := List.all_eq_true.1 hsz n (DataW.weights_mem_each ht hd n hn)
    simpa using this)
end
end Go.Proofs.YtlfacpclihmnnaaDoor
namespace Go.Proofs.YtlfacpclihmnnaaDoor
open Go.ChangeShapes Go.WideShapes Go.ChangeAt Go.RowKit
set_option linter.unusedVariables false
set_option maxRecDepth 100000
theorem run_append_none_any {P : Program} {w : World} (base : Nat) (t ty e : TypeId) (i : TypeInfo) (size : Nat) (ht : P.underlying t = some (.slice e)) (hi : P.info? e = some i)
    (v : Value) (n c : Nat) (xs : List Value) (hown : w.ownsRow base e size v n xs) :
    (Builtin.append_ #[t, t] ty #[v, .slice none 0 c]).run P w = .ok v w := by
  rcases hown.2 with ⟨rfl, rfl⟩ | ⟨g, cap, cur, rfl, _, _, hnc, _⟩
  · simp [Builtin.append_, run_underlying ht, sizeOf, typeInfo, hi, Builtin.lenOf, Builtin.firstCells]
  · simp [Builtin.append_, run_underlying ht, sizeOf, typeInfo, hi, Builtin.lenOf, Builtin.firstCells, hnc, storeCells]
theorem wpList_append_B {P : Program} {w : World} {ops : Array Oper} {rest : List Oper} {o : Oper} {a : Act} {Q : Exit → Act → World → Prop} (hgd : o.guard = none) (s x : Operand) (t : TypeId)
    (ho : o.op = .call { callee := .builtin .append, args := #[s, x], argTypes := #[t, t] })
    (base : Nat) (e : TypeId) (i : TypeInfo) (z : Value) (size bytes : Nat) (ht : P.underlying t = some (.slice e)) (hi : P.info? e = some i) (hz : i.zero = some z)
    (hsize : i.size = size) (hby : i.bytes = bytes) (hzs : z.cells.size = size) (hsz : 0 < size)
    (v : Value) (n : Nat) (xs : List Value) (hs : a.eval s = v) (hown : w.ownsRow base e size v n xs)
    (ad : Addr) (m c : Nat) (news : List Value) (hx : a.eval x = .slice (some ad) m c) (hl : news.length = m * size) (hnews : ∀ j u, news[j]? = some u → w.cell? (ad.add j) = some u) (h1 : ∀ u ∈ news, u.oneCell' = true)
    (h63 : n + m ≤ maxLen) (hbytes : (n + m) * bytes ≤ 140737488355328) (hbase : base ≤ w.heap.size)
    (h : ∀ v' w', w'.ownsRow base e size v' (n + m) (xs ++ news) → Below base w w' → wpList P ops Q rest (a.put o.dst v') w') : wpList P ops Q (o :: rest) a w :=
  wpList_append_own w hgd s x t ho base e i z size bytes ht hi hz hsize hby hzs hsz v n xs hs hown ad m c news hx hl hnews h1 h63 hbytes hbase fun v' w' h2 h3 _ => h v' w' h2 ((Below.refl _ _).grown h3 hbase (fun q hq => (hown.lt q hq).1))
theorem owns_below {e : TypeId} {size n base : Nat} {w w1 : World} {v : Value} {xs : List Value} (h : w.ownsRow base e size v n xs) (hb : Below w.heap.size w w1) : w1.ownsRow base e size v n xs := by
  obtain ⟨h1, h2⟩ := h
  refine ⟨h1, ?_⟩
  rcases h2 with ⟨rfl, h2⟩ | ⟨g, cap, cur, rfl, hbg, hg, hn, hm, hs, ht⟩
  · exact Or.inl ⟨rfl, h2⟩
  · exact Or.inr ⟨g, cap, cur, rfl, hbg, (hb.block g (lt_of_block hg)).trans hg, hn, hm, hs, ht⟩
/-- A row of numbers that append has put together. -/
theorem owns_row {w : World} {base : Nat} {v : Value} (l : List Int) (hl : l.length ≤ 140737488355328) (h : w.ownsRow base 3 1 v l.length (l.map (Value.int .i64))) : ∃ a cap, v = .slice a l.length cap ∧ Row base w a l := by
  have h' := h
  obtain ⟨h1, h2⟩ := h'
  rcases h2 with ⟨rfl, h2⟩ | ⟨g, cap, cur, rfl, hb, hg, -⟩
  · have e : l = [] := List.eq_nil_of_length_eq_zero h2
    subst e
    exact ⟨none, 0, rfl, row_nil _ _ _⟩
  · refine ⟨_, cap, rfl, hl, Or.inr ⟨g, 0, rfl, hb, lt_of_block hg, fun i hi => ?_⟩⟩
    rw [Nat.zero_add, h.cellAt i (by omega)]
    simp [hi]
/-- Cells, one behind the other, as they lie in a row. -/
def rowT (T : Nat → Value × Value × Value) (j : Nat) : List Value := (List.range j).flatMap fun i => [(T i).1, (T i).2.1, (T i).2.2]
theorem rowT_step (T : Nat → Value × Value × Value) (j : Nat) : rowT T (j + 1) = rowT T j ++ [(T j).1, (T j).2.1, (T j).2.2] := by
  simp [rowT, List.range_succ]
theorem rowT_len (T : Nat → Value × Value × Value) (j : Nat) : (rowT T j).length = j * 3 := by
  induction j with
  | zero => rfl
  | succ j ih => rw [rowT_step, List.length_append, ih]; simp; omega
theorem rowT_at (T : Nat → Value × Value × Value) (m i : Nat) (hi : i < m) : (rowT T m)[i * 3]? = some (T i).1 ∧ (rowT T m)[i * 3 + 1]? = some (T i).2.1 ∧ (rowT T m)[i * 3 + 2]? = some (T i).2.2 := by
  induction m with
  | zero => omega
  | succ m ih =>
    rw [rowT_step]
    have hl := rowT_len T m
    rcases Nat.lt_succ_iff_lt_or_eq.1 hi with h | rfl
    · rw [List.getElem?_append_left (by omega), List.getElem?_append_left (by omega), List.getElem?_append_left (by omega)]
      exact ih h
    · rw [List.getElem?_append_right (by omega), List.getElem?_append_right (by omega), List.getElem?_append_right (by omega), hl]
      simp
theorem owns_cellsT {w : World} {base m : Nat} {v : Value} (T : Nat → Value × Value × Value) (h : w.ownsRow base 43 3 v m (rowT T m)) :
    ∃ a2 cap, v = .slice a2 m cap ∧ (m = 0 ∨ ∃ g, a2 = some ⟨g, 0, none⟩ ∧ base ≤ g ∧ g < w.heap.size ∧ ∀ i, i < m → w.cell? ⟨g, i * 3, none⟩ = some (T i).1 ∧ w.cell? ⟨g, i * 3 + 1, none⟩ = some (T i).2.1 ∧ w.cell? ⟨g, i * 3 + 2, none⟩ = some (T i).2.2) := by
  have h' := h
  obtain ⟨h1, h2⟩ := h'
  rcases h2 with ⟨rfl, rfl⟩ | ⟨g, cap, cur, rfl, hb, hg, -⟩
  · exact ⟨none, 0, rfl, Or.inl rfl⟩
  · refine ⟨_, cap, rfl, Or.inr ⟨g, rfl, hb, lt_of_block hg, fun i hi => ?_⟩⟩
    obtain ⟨e0, e1, e2⟩ := rowT_at T m i hi
    exact ⟨(h.cellAt _ (by omega)).trans e0, (h.cellAt _ (by omega)).trans e1, (h.cellAt _ (by omega)).trans e2⟩
/-- A loop that appends to the second field of the variable in block o: what lay there when it began (in W) is as it was, but for that block; what it has put together lies behind. -/
structure Grows (W : World) (o : Nat) (sv : Value) (T : Nat → Value × Value × Value) (j : Nat) (v : Value) (wr : World) : Prop where
  size : W.heap.size ≤ wr.heap.size
  keep : ∀ b, b < W.heap.size → b ≠ o → wr.heap[b]? = W.heap[b]?
  c0 : wr.cell? ⟨o, 0, none⟩ = some sv
  c1 : wr.cell? ⟨o, 1, none⟩ = some v
  f1 : wr.frozen? ⟨o, 1, none⟩ = false
  own : wr.ownsRow W.heap.size 43 3 v j (rowT T j)
theorem Grows.next {W : World} {o : Nat} {sv : Value} {T : Nat → Value × Value × Value} {j : Nat} {v : Value} {wr w1 : World} (ho : o < W.heap.size) (h : Grows W o sv T j v wr) (hb : Below wr.heap.size wr w1) : Grows W o sv T j v w1 :=
  ⟨Nat.le_trans h.size hb.size, fun b hb1 hne => (hb.block b (Nat.lt_of_lt_of_le hb1 h.size)).trans (h.keep b hb1 hne), (hb.cell (p := ⟨o, 0, none⟩) (Nat.lt_of_lt_of_le ho h.size)).trans h.c0, (hb.cell (p := ⟨o, 1, none⟩) (Nat.lt_of_lt_of_le ho h.size)).trans h.c1, (hb.frozen (p := ⟨o, 1, none⟩) (Nat.lt_of_lt_of_le ho h.size)).trans h.f1, owns_below h.own hb⟩
theorem Grows.step {W : World} {o : Nat} {sv : Value} {T : Nat → Value × Value × Value} {j : Nat} {v v' : Value} {wr w1 : World} (ho : o < W.heap.size) (h : Grows W o sv T j v wr) (hb : Below W.heap.size wr w1) (hown : w1.ownsRow W.heap.size 43 3 v' (j + 1) (rowT T (j + 1))) : Grows W o sv T (j + 1) v' (w1.setCell ⟨o, 1, none⟩ v') := by
  have e0 : w1.cell? ⟨o, 0, none⟩ = some sv := (hb.cell (p := ⟨o, 0, none⟩) ho).trans h.c0
  have e1 : w1.cell? ⟨o, 1, none⟩ = some v := (hb.cell (p := ⟨o, 1, none⟩) ho).trans h.c1
  refine ⟨?_, fun b hb1 hne => ?_, ?_, ?_, ?_, ownsRow_setCell_below hown (a := ⟨o, 1, none⟩) ho _⟩
  · have : (w1.setCell ⟨o, 1, none⟩ v').heap.size = w1.heap.size := by simp
    rw [this]; exact Nat.le_trans h.size hb.size
  · rw [Below.heap_setCell _ _ _ _ (by show b ≠ o; exact hne), hb.block b hb1]
    exact h.keep b hb1 hne
  · rw [World.cell?_setCell_other _ _ _ _ (by simp)]; exact e0
  · exact World.cell?_setCell_same' _ _ _ (by rw [e1]; rfl)
  · exact frozen_set _ _ _ _ ((hb.frozen (p := ⟨o, 1, none⟩) ho).trans h.f1)
theorem Grows.cell {W : World} {o : Nat} {sv : Value} {T : Nat → Value × Value × Value} {j : Nat} {v : Value} {wr : World} (h : Grows W o sv T j v wr) {b i : Nat} {u : Value} (hb : b < W.heap.size) (hne : b ≠ o) (hc : W.cell? ⟨b, i, none⟩ = some u) : wr.cell? ⟨b, i, none⟩ = some u := by
  rw [World.cell?_of_block (w := W) (h.keep b hb hne)]; exact hc
theorem Grows.keeps {W : World} {o : Nat} {sv : Value} {T : Nat → Value × Value × Value} {j : Nat} {v : Value} {wr : World} (h : Grows W o sv T j v wr) : Keeps (o + 1) W wr := ⟨h.size, fun b h1 h2 => h.keep b h2 (by omega)⟩
end Go.Proofs.YtlfacpclihmnnaaDoor
