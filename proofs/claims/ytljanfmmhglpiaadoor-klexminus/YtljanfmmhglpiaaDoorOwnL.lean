/-
  The contract of the document's Cmp and Same; for all arrays.
-/
import Derived.Test.YtljanfmmhglpiaaDoorOwnD
import Derived.Test.YtljanfmmhglpiaaDoorOwnJ
import Derived.Test.YtljanfmmhglpiaaDoorOwnK
import Derived.Test.YtljanfmmhglpiaaDoorRows
import Derived.WalkKit
import Derived.ProofKit
import Derived.Below
import Derived.Deep.OwnRows
import Derived.Deep.QuietTactic
import Derived.BigQuiet
import Derived.Deep.RegionWith
namespace Go.Proofs.YtljanfmmhglpiaaDoor
open Go.ChangeShapes Go.WideShapes Go.ChangeAt Go.RowKit
set_option maxRecDepth 100000
set_option linter.unusedVariables false
theorem hide {p : Prop} (h : p) : Hid p := h
theorem firstUp_zero {f : Nat → Int} {m : Nat} (h : firstUp f m = 0) (j : Nat) (hj : j ≤ m) : firstUp f j = 0 :=
  Decidable.byContradiction fun h' => h' (by rw [← firstUp_stays h' m hj]; exact h)
set_option maxHeartbeats 2000000 in
theorem rcmp_any (n : Nat) : CmpC 21 n := by
  induction n with
  | zero => intro x y lo lo' va vb w hx; exact hx.elim
  | succ n IH =>
    intro x y lo lo' va vb w hx hy
    obtain ⟨a1, c1, a2, c2, rfl, R, hl, hc⟩ := hx
    obtain ⟨b1, d1, b2, d2, rfl, R', hl', hd⟩ := hy
    have hlR := R.1
    have hlR' := R'.1
    have K1 : Hid (cmp3 x.shape.length y.shape.length ≠ 0 → cmpA (n + 1) x y = cmp3 x.shape.length y.shape.length) := fun h => by simp only [cmpA]; rw [if_pos h]
    have K2 : Hid (¬ cmp3 x.shape.length y.shape.length ≠ 0 → firstUp (axF x y) x.shape.length ≠ 0 → cmpA (n + 1) x y = firstUp (axF x y) x.shape.length) := fun h h' => by simp only [cmpA]; rw [if_neg h, if_pos h']
    have K3 : Hid (¬ cmp3 x.shape.length y.shape.length ≠ 0 → ¬ firstUp (axF x y) x.shape.length ≠ 0 → firstUp (ceF (cmpA n) x y) (min x.cells.length y.cells.length) ≠ 0 → cmpA (n + 1) x y = firstUp (ceF (cmpA n) x y) (min x.cells.length y.cells.length)) := fun h h' h'' => by simp only [cmpA]; rw [if_neg h, if_neg h', if_pos h'']
    have K4 : Hid (¬ cmp3 x.shape.length y.shape.length ≠ 0 → ¬ firstUp (axF x y) x.shape.length ≠ 0 → ¬ firstUp (ceF (cmpA n) x y) (min x.cells.length y.cells.length) ≠ 0 → cmpA (n + 1) x y = cmp3 x.cells.length y.cells.length) := fun h h' h'' => by simp only [cmpA]; rw [if_neg h, if_neg h', if_neg h'']
    generalize cmpA (n + 1) x y = r at K1 K2 K3 K4
    have hb0 := two_allocs w (.cells #[.slice a1 x.shape.length c1, .slice a2 x.cells.length c2] 33) (.cells #[.slice b1 y.shape.length d1, .slice b2 y.cells.length d2] 33)
    have sz := size_two w (.cells #[.slice a1 x.shape.length c1, .slice a2 x.cells.length c2] 33) (.cells #[.slice b1 y.shape.length d1, .slice b2 y.cells.length d2] 33)
    have A0 := cell_new1 w #[.slice a1 x.shape.length c1, .slice a2 x.cells.length c2] 33 (0, 0) (.cells #[.slice b1 y.shape.length d1, .slice b2 y.cells.length d2] 33) 0 _ rfl
    have A1 := cell_new1 w #[.slice a1 x.shape.length c1, .slice a2 x.cells.length c2] 33 (0, 0) (.cells #[.slice b1 y.shape.length d1, .slice b2 y.cells.length d2] 33) 1 _ rfl
    have B0 := cell_new2 w #[.slice b1 y.shape.length d1, .slice b2 y.cells.length d2] 33 (0, 0) (.cells #[.slice a1 x.shape.length c1, .slice a2 x.cells.length c2] 33) 0 _ rfl
    have B1 := cell_new2 w #[.slice b1 y.shape.length d1, .slice b2 y.cells.length d2] 33 (0, 0) (.cells #[.slice a1 x.shape.length c1, .slice a2 x.cells.length c2] 33) 1 _ rfl
    obtain ⟨W2, eW⟩ : ∃ W2, W2 = (w.alloc (.cells #[.slice a1 x.shape.length c1, .slice a2 x.cells.length c2] 33)).alloc (.cells #[.slice b1 y.shape.length d1, .slice b2 y.cells.length d2] 33) := ⟨_, rfl⟩
    rw [← eW] at hb0 sz A0 A1 B0 B1
    /- What a world later on still holds. -/
    have HA : Hid (∀ wr, Below (w.heap.size + 2) W2 wr → wr.cell? ⟨w.heap.size, 0, none⟩ = some (.slice a1 x.shape.length c1) ∧ wr.cell? ⟨w.heap.size, 1, none⟩ = some (.slice a2 x.cells.length c2) ∧ wr.cell? ⟨w.heap.size + 1, 0, none⟩ = some (.slice b1 y.shape.length d1) ∧ wr.cell? ⟨w.heap.size + 1, 1, none⟩ = some (.slice b2 y.cells.length d2)) := by
      intro wr hb
      exact ⟨(hb.cell (p := ⟨w.heap.size, 0, none⟩) (by show w.heap.size < _; omega)).trans A0, (hb.cell (p := ⟨w.heap.size, 1, none⟩) (by show w.heap.size < _; omega)).trans A1, (hb.cell (p := ⟨w.heap.size + 1, 0, none⟩) (by show w.heap.size + 1 < _; omega)).trans B0, (hb.cell (p := ⟨w.heap.size + 1, 1, none⟩) (by show w.heap.size + 1 < _; omega)).trans B1⟩
    have HW : Hid (∀ wr, Below (w.heap.size + 2) W2 wr → Below w.heap.size w wr) := fun wr hb => hb0.trans (hb.mono (by omega))
    have HS : Hid (∀ i, i < x.shape.length → i < y.shape.length → ∃ b off b' off' s t, a1 = some ⟨b, off, none⟩ ∧ b1 = some ⟨b', off', none⟩ ∧ axF x y i = cmp3 s t ∧ ∀ wr, Below (w.heap.size + 2) W2 wr → wr.cell? ⟨b, off + i, none⟩ = some (.int .i64 s) ∧ wr.cell? ⟨b', off' + i, none⟩ = some (.int .i64 t)) := by
      intro i hi hi'
      obtain ⟨b, off, ha, hb, hck⟩ := row_at R hi
      obtain ⟨b', off', ha', hb', hck'⟩ := row_at R' hi'
      exact ⟨b, off, b', off', _, _, ha, ha', rfl, fun wr hw => ⟨((HW.out wr hw).cell (p := ⟨b, off + i, none⟩) hb).trans hck, ((HW.out wr hw).cell (p := ⟨b', off' + i, none⟩) hb').trans hck'⟩⟩
    have HC : Hid (∀ i, i < x.cells.length → i < y.cells.length → ∃ b off b' off' v0 v1 v2 u0 u1 u2, a2 = some ⟨b, off, none⟩ ∧ b2 = some ⟨b', off', none⟩ ∧ ∀ wr, Below (w.heap.size + 2) W2 wr → (wr.cell? ⟨b, off + i * 3, none⟩ = some v0 ∧ wr.cell? ⟨b, off + i * 3 + 1, none⟩ = some v1 ∧ wr.cell? ⟨b, off + i * 3 + 2, none⟩ = some v2) ∧ (wr.cell? ⟨b', off' + i * 3, none⟩ = some u0 ∧ wr.cell? ⟨b', off' + i * 3 + 1, none⟩ = some u1 ∧ wr.cell? ⟨b', off' + i * 3 + 2, none⟩ = some u2) ∧
        Calls Tryd.prog 29 #[.agg #[v0, v1, v2], .agg #[u0, u1, u2]] wr.drew fun e w' => e = .returned (.int .i64 (ceF (cmpA n) x y i)) ∧ Below (w.heap.size + 2) W2 w') := by
      intro i hi hi'
      rcases hc with hc | ⟨b, off, ha, hlo, hb, hc⟩
      · rw [hc] at hi; simp at hi
      rcases hd with hd | ⟨b', off', ha', hlo', hb', hd⟩
      · rw [hd] at hi'; simp at hi'
      obtain ⟨v0, v1, v2, e0, e1, e2, e3⟩ := hc i hi
      obtain ⟨u0, u1, u2, f0, f1, f2, f3⟩ := hd i hi'
      refine ⟨b, off, b', off', v0, v1, v2, u0, u1, u2, ha, ha', ?_⟩
      intro wr hw
      have hbw := HW.out wr hw
      refine ⟨⟨(hbw.cell (p := ⟨b, off + i * 3, none⟩) hb).trans e0, (hbw.cell (p := ⟨b, off + i * 3 + 1, none⟩) hb).trans e1, (hbw.cell (p := ⟨b, off + i * 3 + 2, none⟩) hb).trans e2⟩,
        ⟨(hbw.cell (p := ⟨b', off' + i * 3, none⟩) hb').trans f0, (hbw.cell (p := ⟨b', off' + i * 3 + 1, none⟩) hb').trans f1, (hbw.cell (p := ⟨b', off' + i * 3 + 2, none⟩) hb').trans f2⟩, ?_⟩
      have hbm := hbw.drew
      refine (rcell_any n IH _ _ lo lo' wr.drew _ _ _ _ _ _ (e3.mono (Nat.le_refl _) hbm fun x v h => h.next hbm) (f3.mono (Nat.le_refl _) hbm fun x v h => h.next hbm)).mono ?_
      rintro e w2 ⟨he, hb2⟩
      have hws := hw.size
      exact ⟨he, hw.drew.trans (hb2.mono (by show w.heap.size + 2 ≤ wr.heap.size; omega))⟩
    have HR : Hid (Below (w.heap.size + 2) W2 W2) := Below.refl _ _
    clear hc hd R R' IH A0 B0 A1 B1 hb0 sz
    have HZ1 : Hid (firstUp (axF x y) 0 = 0 ∧ firstUp (ceF (cmpA n) x y) 0 = 0) := ⟨rfl, rfl⟩
    have HE : Hid (¬ cmp3 x.shape.length y.shape.length ≠ 0 → x.shape.length = y.shape.length) := fun h1 => Decidable.byContradiction fun h => h1 (cmp3_ne.2 (by omega))
    generalize axF x y = ax at *
    generalize ceF (cmpA n) x y = ce at *
    generalize x.shape.length = SA at *
    generalize y.shape.length = SB at *
    generalize x.cells.length = CA at *
    generalize y.cells.length = CB at *
    obtain ⟨r1, er1⟩ : ∃ r1, cmp3 SA SB = r1 := ⟨_, rfl⟩
    rw [er1] at K1 K2 K3 K4 HE
    by_cases h1 : r1 ≠ 0
    · have hr : Hid (r = r1) := K1.out h1
      clear K1 K2 K3 K4 HS HC
      go_enter Tryd.func21, Tryd.ntmps21
      go_wp2_with fail
      refine (ref_ints _ _ _).mono ?_
      rintro e w1 ⟨rfl, hw⟩
      rw [hw, er1, ← eW]
      clear hw eW
      go_wp2
      go_loopw [5, 6] (fun o i wr => o = .int .i64 r1 ∧ i = .int .i64 0 ∧ Below (w.heap.size + 2) W2 wr) (fun _ i _ => 0)
      case atStart => exact ⟨rfl, rfl, HR.out⟩
      case round =>
        obtain ⟨rfl, rfl, hnx⟩ := hrel
        obtain ⟨q0, q1, q2, q3⟩ := HA.out _ hnx
        have HX : Hid (Below (w.heap.size + 2) W2 wr) := hnx
        by_cases gS : 0 < SA
        · go_wp2
          clear q0 q1 q2 q3 hnx
          go_loopw [5, 7] (fun o i wr => o = .int .i64 r1 ∧ i = .int .i64 0 ∧ Below (w.heap.size + 2) W2 wr) (fun _ i _ => 0)
          case atStart => exact ⟨rfl, rfl, HX.out⟩
          case round =>
            obtain ⟨rfl, rfl, hnx⟩ := hrel
            obtain ⟨q0, q1, q2, q3⟩ := HA.out _ hnx
            by_cases gA : 0 < CA
            · by_cases gB : 0 < CB
              · go_wp2
                go_ret
                exact ⟨retI hr.out.symm, HW.out _ hnx⟩
              · have gB0 : CB = 0 := by omega
                subst gB0
                go_wp2
                go_ret
                exact ⟨retI hr.out.symm, HW.out _ hnx⟩
            · have gA0 : CA = 0 := by omega
              subst gA0
              go_wp2
              go_ret
              exact ⟨retI hr.out.symm, HW.out _ hnx⟩
        · have gS0 : SA = 0 := by omega
          subst gS0
          go_wp2
          clear q0 q1 q2 q3 hnx
          go_loopw [5, 7] (fun o i wr => o = .int .i64 r1 ∧ i = .int .i64 0 ∧ Below (w.heap.size + 2) W2 wr) (fun _ i _ => 0)
          case atStart => exact ⟨rfl, rfl, HX.out⟩
          case round =>
            obtain ⟨rfl, rfl, hnx⟩ := hrel
            obtain ⟨q0, q1, q2, q3⟩ := HA.out _ hnx
            by_cases gA : 0 < CA
            · by_cases gB : 0 < CB
              · go_wp2
                go_ret
                exact ⟨retI hr.out.symm, HW.out _ hnx⟩
              · have gB0 : CB = 0 := by omega
                subst gB0
                go_wp2
                go_ret
                exact ⟨retI hr.out.symm, HW.out _ hnx⟩
            · have gA0 : CA = 0 := by omega
              subst gA0
              go_wp2
              go_ret
              exact ⟨retI hr.out.symm, HW.out _ hnx⟩
    · have H1 : Hid (¬ r1 ≠ 0) := h1
      have hS := HE.out h1
      have z1 : r1 = 0 := by simpa using h1
      subst z1
      subst hS
      clear h1 K1 HE
      obtain ⟨F1, eF1⟩ : ∃ F1, firstUp ax SA = F1 := ⟨_, rfl⟩
      have HF1 : Hid (firstUp ax SA = F1) := eF1
      rw [eF1] at K2 K3 K4
      clear eF1
      by_cases h2 : F1 ≠ 0
      · have hr : Hid (r = F1) := K2.out H1.out h2
        have HN : Hid (F1 ≠ 0) := h2
        clear K2 K3 K4 H1 HC
        go_enter Tryd.func21, Tryd.ntmps21
        go_wp2_with fail
        refine (ref_ints _ _ _).mono ?_
        rintro e w1 ⟨rfl, hw⟩
        rw [hw, er1, ← eW]
        clear hw eW er1
        go_wp2
        go_loopw [5, 6] (fun o i wr => ∃ j : Nat, j ≤ SA ∧ i = .int .i64 (j : Int) ∧ o = .int .i64 (firstUp ax j) ∧ Below (w.heap.size + 2) W2 wr) (fun _ i _ => SA - (intOf i).toNat)
        case atStart => exact ⟨0, Nat.zero_le _, rfl, by rw [HZ1.out.1], HR.out⟩
        case round =>
          obtain ⟨j, hj, rfl, rfl, hnx⟩ := hrel
          by_cases hz : firstUp ax j = 0
          · have hlt : j < SA := by
              rcases Nat.lt_or_eq_of_le hj with h | h
              · exact h
              · subst h; rw [HF1.out] at hz; exact absurd hz HN.out
            obtain ⟨b, off, b', off', s, t, rfl, rfl, hst, hcs⟩ := HS.out j hlt (by omega)
            obtain ⟨k0, k1⟩ := hcs wr hnx
            obtain ⟨q0, q1, q2, q3⟩ := HA.out _ hnx
            have HST : Hid (firstUp ax (j + 1) = cmp3 s t) := by rw [firstUp_step hz]; exact hst
            rw [hz]
            clear hst hcs hz HS HF1
            go_wp2
            go_quiet ((go_at_call 28; exact Calls.quiet_of_same (ref_ints _ _ _)))
            go_wp2
            go_roundw
            case rel => exact ⟨j + 1, by omega, by go_num, by rw [HST.out], drewN_below hnx _⟩
            case measure => simp [intOf]; omega
          · have hF : firstUp ax j = F1 := by rw [← HF1.out]; exact (firstUp_stays hz SA hj).symm
            rw [hF]
            obtain ⟨q0, q1, q2, q3⟩ := HA.out _ hnx
            have HX : Hid (Below (w.heap.size + 2) W2 wr) := hnx
            clear hz hF HF1 HS
            by_cases gS : j < SA
            · go_wp2
              clear q0 q1 q2 q3 hnx
              go_loopw [5, 7] (fun o i wr => o = .int .i64 F1 ∧ i = .int .i64 0 ∧ Below (w.heap.size + 2) W2 wr) (fun _ i _ => 0)
              case atStart => exact ⟨rfl, rfl, HX.out⟩
              case round =>
                obtain ⟨rfl, rfl, hnx⟩ := hrel
                obtain ⟨q0, q1, q2, q3⟩ := HA.out _ hnx
                by_cases gA : 0 < CA
                · by_cases gB : 0 < CB
                  · go_wp2
                    go_ret
                    exact ⟨retI hr.out.symm, HW.out _ hnx⟩
                  · have gB0 : CB = 0 := by omega
                    subst gB0
                    go_wp2
                    go_ret
                    exact ⟨retI hr.out.symm, HW.out _ hnx⟩
                · have gA0 : CA = 0 := by omega
                  subst gA0
                  go_wp2
                  go_ret
                  exact ⟨retI hr.out.symm, HW.out _ hnx⟩
            · go_wp2
              clear q0 q1 q2 q3 hnx
              go_loopw [5, 7] (fun o i wr => o = .int .i64 F1 ∧ i = .int .i64 0 ∧ Below (w.heap.size + 2) W2 wr) (fun _ i _ => 0)
              case atStart => exact ⟨rfl, rfl, HX.out⟩
              case round =>
                obtain ⟨rfl, rfl, hnx⟩ := hrel
                obtain ⟨q0, q1, q2, q3⟩ := HA.out _ hnx
                by_cases gA : 0 < CA
                · by_cases gB : 0 < CB
                  · go_wp2
                    go_ret
                    exact ⟨retI hr.out.symm, HW.out _ hnx⟩
                  · have gB0 : CB = 0 := by omega
                    subst gB0
                    go_wp2
                    go_ret
                    exact ⟨retI hr.out.symm, HW.out _ hnx⟩
                · have gA0 : CA = 0 := by omega
                  subst gA0
                  go_wp2
                  go_ret
                  exact ⟨retI hr.out.symm, HW.out _ hnx⟩
      · have H2 : Hid (¬ F1 ≠ 0) := h2
        have z2 : F1 = 0 := by simpa using h2
        subst z2
        clear h2 K2
        obtain ⟨F2, eF2⟩ : ∃ F2, firstUp ce (min CA CB) = F2 := ⟨_, rfl⟩
        have HF2 : Hid (firstUp ce (min CA CB) = F2) := eF2
        rw [eF2] at K3 K4
        clear eF2
        go_enter Tryd.func21, Tryd.ntmps21
        go_wp2_with fail
        refine (ref_ints _ _ _).mono ?_
        rintro e w1 ⟨rfl, hw⟩
        rw [hw, er1, ← eW]
        clear hw eW er1
        go_wp2
        go_loopw [5, 6] (fun o i wr => ∃ j : Nat, j ≤ SA ∧ i = .int .i64 (j : Int) ∧ o = .int .i64 0 ∧ Below (w.heap.size + 2) W2 wr) (fun _ i _ => SA - (intOf i).toNat)
        case atStart => exact ⟨0, Nat.zero_le _, rfl, rfl, HR.out⟩
        case round =>
          obtain ⟨j, hj, rfl, rfl, hnx⟩ := hrel
          by_cases hlt : j < SA
          · clear HC HF2 K3 K4 H1 H2
            obtain ⟨b, off, b', off', s, t, rfl, rfl, hst, hcs⟩ := HS.out j hlt (by omega)
            obtain ⟨k0, k1⟩ := hcs wr hnx
            obtain ⟨q0, q1, q2, q3⟩ := HA.out _ hnx
            have hst0 : cmp3 s t = 0 := by
              rw [← hst, ← firstUp_step (firstUp_zero HF1.out j hj)]
              exact firstUp_zero HF1.out (j + 1) hlt
            clear hst hcs HS HF1
            go_wp2
            go_quiet ((go_at_call 28; exact Calls.quiet_of_same (ref_ints _ _ _)))
            go_wp2
            go_roundw
            case rel => exact ⟨j + 1, by omega, by go_num, by rw [hst0], drewN_below hnx _⟩
            case measure => simp [intOf]; omega
          · obtain ⟨q0, q1, q2, q3⟩ := HA.out _ hnx
            have HX : Hid (Below (w.heap.size + 2) W2 wr) := hnx
            clear HS HF1
            by_cases h3 : F2 ≠ 0
            · have hr : Hid (r = F2) := K3.out H1.out H2.out h3
              have HN : Hid (F2 ≠ 0) := h3
              clear K3 K4 H1 H2
              go_wp2
              clear q0 q1 q2 q3 hnx
              go_loopw [5, 7] (fun o i wr => ∃ j : Nat, j ≤ min CA CB ∧ i = .int .i64 (j : Int) ∧ o = .int .i64 (firstUp ce j) ∧ Below (w.heap.size + 2) W2 wr) (fun _ i _ => min CA CB - (intOf i).toNat)
              case atStart => exact ⟨0, Nat.zero_le _, rfl, by rw [HZ1.out.2], HX.out⟩
              case round =>
                clear HX
                obtain ⟨k, hk, rfl, rfl, hnx⟩ := hrel
                obtain ⟨q0, q1, q2, q3⟩ := HA.out _ hnx
                by_cases hz : firstUp ce k = 0
                · have hlt : k < min CA CB := by
                    rcases Nat.lt_or_eq_of_le hk with h | h
                    · exact h
                    · subst h; rw [HF2.out] at hz; exact absurd hz HN.out
                  have gA : k < CA := by omega
                  have gB : k < CB := by omega
                  obtain ⟨b, off, b', off', v0, v1, v2, u0, u1, u2, rfl, rfl, hcs⟩ := HC.out k gA gB
                  obtain ⟨⟨k0, k1, k2⟩, ⟨k3, k4, k5⟩, C⟩ := hcs wr hnx
                  have HST : Hid (firstUp ce (k + 1) = ce k) := firstUp_step hz
                  rw [hz]
                  have HCC := hide C
                  clear C hcs hz HC HF2
                  go_wp2
                  go_region_with (go_at_call 29; refine HCC.out.mono ?_; rintro e w1 ⟨rfl, hb1⟩)
                  all_goals go_wp2
                  all_goals
                    go_roundw
                    case rel => exact ⟨k + 1, by omega, by go_num, by rw [HST.out], hb1⟩
                    case measure => simp [intOf]; omega
                · have hF : firstUp ce k = F2 := by rw [← HF2.out]; exact (firstUp_stays hz _ hk).symm
                  rw [hF]
                  clear hz hF HF2 HC
                  by_cases gA : k < CA
                  · by_cases gB : k < CB
                    · go_wp2
                      go_ret
                      exact ⟨retI hr.out.symm, HW.out _ hnx⟩
                    · go_wp2
                      go_ret
                      exact ⟨retI hr.out.symm, HW.out _ hnx⟩
                  · go_wp2
                    go_ret
                    exact ⟨retI hr.out.symm, HW.out _ hnx⟩
            · have hr : Hid (r = cmp3 CA CB) := K4.out H1.out H2.out h3
              have z3 : F2 = 0 := by simpa using h3
              subst z3
              clear K3 K4 H1 H2 h3
              go_wp2
              clear q0 q1 q2 q3 hnx
              go_loopw [5, 7] (fun o i wr => ∃ j : Nat, j ≤ min CA CB ∧ i = .int .i64 (j : Int) ∧ o = .int .i64 0 ∧ Below (w.heap.size + 2) W2 wr) (fun _ i _ => min CA CB - (intOf i).toNat)
              case atStart => exact ⟨0, Nat.zero_le _, rfl, rfl, HX.out⟩
              case round =>
                clear HX
                obtain ⟨k, hk, rfl, rfl, hnx⟩ := hrel
                obtain ⟨q0, q1, q2, q3⟩ := HA.out _ hnx
                by_cases hlt : k < min CA CB
                · have gA : k < CA := by omega
                  have gB : k < CB := by omega
                  obtain ⟨b, off, b', off', v0, v1, v2, u0, u1, u2, rfl, rfl, hcs⟩ := HC.out k gA gB
                  obtain ⟨⟨k0, k1, k2⟩, ⟨k3, k4, k5⟩, C⟩ := hcs wr hnx
                  have hst0 : ce k = 0 := by
                    rw [← firstUp_step (firstUp_zero HF2.out k hk)]
                    exact firstUp_zero HF2.out (k + 1) hlt
                  rw [hst0] at C
                  have HCC := hide C
                  clear C hcs HC HF2 hst0
                  go_wp2
                  go_region_with (go_at_call 29; refine HCC.out.mono ?_; rintro e w1 ⟨rfl, hb1⟩)
                  all_goals go_wp2
                  all_goals
                    go_roundw
                    case rel => exact ⟨k + 1, by omega, by go_num, rfl, hb1⟩
                    case measure => simp [intOf]; omega
                · clear HF2 HC
                  by_cases gA : k < CA
                  · have gB : ¬ k < CB := by omega
                    go_wp2_with fail
                    refine (ref_ints _ _ _).mono ?_
                    rintro e w1 ⟨rfl, hw⟩
                    rw [hw]
                    clear hw
                    go_wp2
                    go_ret
                    exact ⟨retI hr.out.symm, HW.out _ hnx⟩
                  · go_wp2_with fail
                    refine (ref_ints _ _ _).mono ?_
                    rintro e w1 ⟨rfl, hw⟩
                    rw [hw]
                    clear hw
                    go_wp2
                    go_ret
                    exact ⟨retI hr.out.symm, HW.out _ hnx⟩
set_option maxHeartbeats 1000000 in
theorem rsame_any {n lo lo' : Nat} {x y : Ar} {va vb : Value} {w : World} (hx : ArIn n lo w x va) (hy : ArIn n lo' w y vb) :
    Calls Tryd.prog 12 #[va, vb] w fun e w' => e = .returned (.bool (decide (cmpA n x y = 0))) ∧ Below w.heap.size w w' := by
  have C := fun w' hb => rcmp_any n x y lo lo' va vb w' (hx.next hb) (hy.next hb)
  cases n with
  | zero => exact hx.elim
  | succ n =>
    obtain ⟨a1, c1, a2, c2, rfl, -⟩ := hx
    obtain ⟨b1, d1, b2, d2, rfl, -⟩ := hy
    generalize cmpA (n + 1) x y = r at C
    have HC : Hid _ := C
    clear C
    generalize x.shape.length = SA at *
    generalize y.shape.length = SB at *
    generalize x.cells.length = CA at *
    generalize y.cells.length = CB at *
    go_enter Tryd.func12, Tryd.ntmps12
    go_wp2_with fail
    refine (HC.out _ (two_allocs _ _ _)).mono ?_
    rintro e w1 ⟨rfl, hb1⟩
    go_wp2
    go_ret
    exact ⟨rfl, (two_allocs _ _ _).trans (hb1.mono (two_allocs _ _ _).size)⟩
end Go.Proofs.YtljanfmmhglpiaaDoor
