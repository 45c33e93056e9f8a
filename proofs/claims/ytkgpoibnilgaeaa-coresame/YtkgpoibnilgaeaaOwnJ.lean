/-
  The contract of layer 3's Cmp and Same; for all arrays.
-/
import Derived.Test.YtkgpoibnilgaeaaOwnH
import Derived.Test.YtkgpoibnilgaeaaOwnI
import Derived.Test.YtkgpoibnilgaeaaRows
import Derived.WalkKit
import Derived.ProofKit
import Derived.Below
import Derived.Deep.OwnRows
import Derived.Deep.QuietTactic
import Derived.BigQuiet
import Derived.Deep.RegionWith
namespace Go.Proofs.Ytkgpoibnilgaeaa
open Go.ChangeShapes Go.WideShapes Go.ChangeAt Go.RowKit
set_option linter.unusedVariables false
set_option maxHeartbeats 1000000 in
theorem by_cell (f : Nat → Int) (m : Nat) (hm : m ≤ 140737488355328) (mv : Int) (hmv : mv = (m : Int)) (p q : Value) (w : World)
    (hf : ∀ i, i < m → ∀ w', Below w.heap.size w w' → Calls Try.prog 59 #[.int .i64 (i : Int), p, q] w' fun e w'' => e = .returned (.int .i64 (f i)) ∧ Below w'.heap.size w' w'') :
    Calls Try.prog 58 #[.int .i64 mv, .func (.func 59) #[] #[p, q]] w fun e w' => e = .returned (.int .i64 (firstUp f m)) ∧ Below w.heap.size w w' := by
  subst hmv
  have HF : Hid _ := hf
  clear hf
  go_enter Try.func58, Try.ntmps58
  go_wp2
  go_loopw [8] (fun i wr => ∃ j : Nat, j ≤ m ∧ i = .int .i64 j ∧ firstUp f j = 0 ∧ Below w.heap.size w wr) (fun i _ => m - (intOf i).toNat)
  case atStart => exact ⟨0, Nat.zero_le _, rfl, rfl, Below.refl _ _⟩
  case round =>
    obtain ⟨j, hj, rfl, h0, hnx⟩ := hrel
    have H0 : Hid (firstUp f j = 0) := h0
    clear h0
    by_cases hlt : j < m
    · have C := HF.out j hlt wr hnx
      have HR : Hid (f j ≠ 0 → firstUp f m = f j) := fun h => firstUp_hit H0.out h m hlt
      have HS : Hid (firstUp f (j + 1) = f j) := firstUp_step H0.out
      obtain ⟨z, hz⟩ : ∃ z, f j = z := ⟨_, rfl⟩
      rw [hz] at C HR HS
      clear hz
      by_cases hz0 : z = 0
      · subst hz0
        go_wp2_with fail
        refine C.mono ?_
        rintro e w1 ⟨rfl, hb1⟩
        go_wp2
        go_roundw
        case rel => exact ⟨j + 1, by omega, by go_num, HS.out, hnx.trans (hb1.mono hnx.size)⟩
        case measure => simp [intOf]; omega
      · have HZ : Hid (z ≠ 0) := hz0
        go_wp2_with fail
        refine C.mono ?_
        rintro e w1 ⟨rfl, hb1⟩
        go_wp2
        go_ret
        exact ⟨retI (HR.out HZ.out).symm, hnx.trans (hb1.mono hnx.size)⟩
    · have hje : j = m := by omega
      subst hje
      go_wp2
      go_ret
      exact ⟨retI H0.out.symm, hnx⟩
theorem cell_new (w : World) (cs : Array Value) (t : TypeId) (fr : Nat × Nat) (i : Nat) (v : Value) (h : cs[i]? = some v) : (w.alloc (.cells cs t fr)).cell? ⟨w.heap.size, i, none⟩ = some v := by
  have : (w.alloc (.cells cs t fr)).heap[w.heap.size]? = some (.cells cs t fr) := by
    show (w.heap.push _)[w.heap.size]? = _
    simp
  unfold World.cell?
  simp only [this, h]
  rfl
theorem cell_new1 (w : World) (cs : Array Value) (t : TypeId) (fr : Nat × Nat) (o2 : Obj) (i : Nat) (v : Value) (h : cs[i]? = some v) : ((w.alloc (.cells cs t fr)).alloc o2).cell? ⟨w.heap.size, i, none⟩ = some v :=
  (((Below.refl _ _).alloc (Nat.le_refl _) o2).cell (p := ⟨w.heap.size, i, none⟩) (by simp)).trans (cell_new w cs t fr i v h)
theorem cell_new2 (w : World) (cs : Array Value) (t : TypeId) (fr : Nat × Nat) (o1 : Obj) (i : Nat) (v : Value) (h : cs[i]? = some v) : ((w.alloc o1).alloc (.cells cs t fr)).cell? ⟨w.heap.size + 1, i, none⟩ = some v := by
  have := cell_new (w.alloc o1) cs t fr i v h
  simpa using this
theorem size_two (w : World) (o1 o2 : Obj) : ((w.alloc o1).alloc o2).heap.size = w.heap.size + 2 := by simp
set_option maxHeartbeats 2000000 in
theorem cmp_any (n : Nat) : CmpC 44 n := by
  induction n with
  | zero => intro x y lo lo' va vb w hx; exact hx.elim
  | succ n IH =>
    intro x y lo lo' va vb w hx hy
    obtain ⟨a1, c1, a2, c2, rfl, R, hl, hc⟩ := hx
    obtain ⟨b1, d1, b2, d2, rfl, R', hl', hd⟩ := hy
    have hmf : ∀ (fn : Fn) (first cap : Array Value) (w : World), (Instr.makeFunc fn first cap).run Try.prog w = .ok (.func fn first cap) w := fun _ _ _ _ => rfl
    have K1 : Hid (cmp3 x.shape.length y.shape.length ≠ 0 → cmpA (n + 1) x y = cmp3 x.shape.length y.shape.length) := fun h => by simp only [cmpA]; rw [if_pos h]
    have K2 : Hid (¬ cmp3 x.shape.length y.shape.length ≠ 0 → firstUp (axF x y) x.shape.length ≠ 0 → cmpA (n + 1) x y = firstUp (axF x y) x.shape.length) := fun h h' => by simp only [cmpA]; rw [if_neg h, if_pos h']
    have K3 : Hid (¬ cmp3 x.shape.length y.shape.length ≠ 0 → ¬ firstUp (axF x y) x.shape.length ≠ 0 → firstUp (ceF (cmpA n) x y) (min x.cells.length y.cells.length) ≠ 0 → cmpA (n + 1) x y = firstUp (ceF (cmpA n) x y) (min x.cells.length y.cells.length)) := fun h h' h'' => by simp only [cmpA]; rw [if_neg h, if_neg h', if_pos h'']
    have K4 : Hid (¬ cmp3 x.shape.length y.shape.length ≠ 0 → ¬ firstUp (axF x y) x.shape.length ≠ 0 → ¬ firstUp (ceF (cmpA n) x y) (min x.cells.length y.cells.length) ≠ 0 → cmpA (n + 1) x y = cmp3 x.cells.length y.cells.length) := fun h h' h'' => by simp only [cmpA]; rw [if_neg h, if_neg h', if_neg h'']
    generalize cmpA (n + 1) x y = r at K1 K2 K3 K4
    by_cases h1 : cmp3 x.shape.length y.shape.length ≠ 0
    · have hr : Hid (r = cmp3 x.shape.length y.shape.length) := K1.out h1
      clear K1 K2 K3 K4 hc hd R R' IH hmf
      generalize x.shape.length = A1 at h1 hr
      generalize y.shape.length = A2 at h1 hr
      generalize x.cells.length = B1
      generalize y.cells.length = B2
      go_enter Try.func44, Try.ntmps44
      go_wp2_with fail
      refine (compare_any _ _ _).mono ?_
      rintro e w1 ⟨rfl, hw⟩
      rw [hw]
      clear hw
      go_wp2
      go_ret
      exact ⟨retI hr.out.symm, two_allocs _ _ _⟩
    · have H1 : Hid (¬ cmp3 x.shape.length y.shape.length ≠ 0) := h1
      have z1 : cmp3 x.shape.length y.shape.length = 0 := by simpa using h1
      have hsl : x.shape.length = y.shape.length := Decidable.byContradiction fun h => h1 (cmp3_ne.2 (by omega))
      have hb0 := two_allocs w (.cells #[.slice a1 x.shape.length c1, .slice a2 x.cells.length c2] 25) (.cells #[.slice b1 y.shape.length d1, .slice b2 y.cells.length d2] 25)
      have sz := size_two w (.cells #[.slice a1 x.shape.length c1, .slice a2 x.cells.length c2] 25) (.cells #[.slice b1 y.shape.length d1, .slice b2 y.cells.length d2] 25)
      have A0 := cell_new1 w #[.slice a1 x.shape.length c1, .slice a2 x.cells.length c2] 25 (0, 0) (.cells #[.slice b1 y.shape.length d1, .slice b2 y.cells.length d2] 25) 0 _ rfl
      have A1 := cell_new1 w #[.slice a1 x.shape.length c1, .slice a2 x.cells.length c2] 25 (0, 0) (.cells #[.slice b1 y.shape.length d1, .slice b2 y.cells.length d2] 25) 1 _ rfl
      have B0 := cell_new2 w #[.slice b1 y.shape.length d1, .slice b2 y.cells.length d2] 25 (0, 0) (.cells #[.slice a1 x.shape.length c1, .slice a2 x.cells.length c2] 25) 0 _ rfl
      have B1 := cell_new2 w #[.slice b1 y.shape.length d1, .slice b2 y.cells.length d2] 25 (0, 0) (.cells #[.slice a1 x.shape.length c1, .slice a2 x.cells.length c2] 25) 1 _ rfl
      have C1 := by_axis (axF x y) x.shape.length R.1 (.pointer (some ⟨w.heap.size, 0, none⟩)) (.pointer (some ⟨w.heap.size + 1, 0, none⟩)) ((w.alloc (.cells #[.slice a1 x.shape.length c1, .slice a2 x.cells.length c2] 25)).alloc (.cells #[.slice b1 y.shape.length d1, .slice b2 y.cells.length d2] 25)) (by
        intro i hi w' hb
        exact axis_any x.shape y.shape i hi (by omega) w.heap.size (w.heap.size + 1) a1 b1 _ _ c1 d1 w' rfl rfl
          ((hb.cell (p := ⟨w.heap.size, 0, none⟩) (by rw [sz]; simp)).trans A0) ((hb.cell (p := ⟨w.heap.size + 1, 0, none⟩) (by rw [sz]; simp)).trans B0) (R.next (hb0.trans (hb.mono (by rw [sz]; omega)))) (R'.next (hb0.trans (hb.mono (by rw [sz]; omega)))))
      have C2 : ∀ w1, Below ((w.alloc (.cells #[.slice a1 x.shape.length c1, .slice a2 x.cells.length c2] 25)).alloc (.cells #[.slice b1 y.shape.length d1, .slice b2 y.cells.length d2] 25)).heap.size ((w.alloc (.cells #[.slice a1 x.shape.length c1, .slice a2 x.cells.length c2] 25)).alloc (.cells #[.slice b1 y.shape.length d1, .slice b2 y.cells.length d2] 25)) w1 →
          ∀ mv : Int, mv = ((min x.cells.length y.cells.length : Nat) : Int) → Calls Try.prog 58 #[.int .i64 mv, .func (.func 59) #[] #[.pointer (some ⟨w.heap.size, 0, none⟩), .pointer (some ⟨w.heap.size + 1, 0, none⟩)]] w1 fun e w' => e = .returned (.int .i64 (firstUp (ceF (cmpA n) x y) (min x.cells.length y.cells.length))) ∧ Below w1.heap.size w1 w' := by
        intro w1 hb1 mv hmv
        refine by_cell (ceF (cmpA n) x y) (min x.cells.length y.cells.length) (by omega) mv hmv _ _ w1 ?_
        intro i hi w' hb
        have hsz := hb1.size
        rw [sz] at hsz
        have hbw : Below w.heap.size w w' := (hb0.trans (hb1.mono (by rw [sz]; omega))).trans (hb.mono (by omega))
        have hb1' := hb1.mono (B' := w.heap.size + 2) (by rw [sz]; exact Nat.le_refl _)
        have hbb := hb
        rcases hc with hc | ⟨b, off, rfl, hlo, hb, hc⟩
        · rw [hc] at hi; simp at hi
        rcases hd with hd | ⟨b', off', rfl, hlo', hb', hd⟩
        · rw [hd] at hi; simp at hi
        obtain ⟨v0, v1, v2, e0, e1, e2, e3⟩ := hc i (by omega)
        obtain ⟨u0, u1, u2, f0, f1, f2, f3⟩ := hd i (by omega)
        refine cellf_any b off b' off' i x.cells.length y.cells.length c2 d2 w.heap.size (w.heap.size + 1) v0 v1 v2 u0 u1 u2 (ceF (cmpA n) x y i) w' (by omega) (by omega) hl hl'
          ((hbb.cell (p := ⟨w.heap.size, 1, none⟩) (by show w.heap.size < w1.heap.size; omega)).trans ((hb1'.cell (p := ⟨w.heap.size, 1, none⟩) (by show w.heap.size < w.heap.size + 2; omega)).trans A1))
          ((hbb.cell (p := ⟨w.heap.size + 1, 1, none⟩) (by show w.heap.size + 1 < w1.heap.size; omega)).trans ((hb1'.cell (p := ⟨w.heap.size + 1, 1, none⟩) (by show w.heap.size + 1 < w.heap.size + 2; omega)).trans B1))
          ((hbw.cell (p := ⟨b, off + i * 3, none⟩) hb).trans e0) ((hbw.cell (p := ⟨b, off + i * 3 + 1, none⟩) hb).trans e1) ((hbw.cell (p := ⟨b, off + i * 3 + 2, none⟩) hb).trans e2)
          ((hbw.cell (p := ⟨b', off' + i * 3, none⟩) hb').trans f0) ((hbw.cell (p := ⟨b', off' + i * 3 + 1, none⟩) hb').trans f1) ((hbw.cell (p := ⟨b', off' + i * 3 + 2, none⟩) hb').trans f2) ?_
        intro m
        have hbm := drewN_below hbw m
        refine (cell_any n IH _ _ lo lo' (w'.drewN m) _ _ _ _ _ _ (e3.mono (Nat.le_refl _) hbm fun x v h => h.next hbm) (f3.mono (Nat.le_refl _) hbm fun x v h => h.next hbm)).mono ?_
        rintro e w2 ⟨he, hb2⟩
        exact ⟨he, (drewN_below (Below.refl _ _) m).trans hb2⟩
      have HC2 : Hid _ := C2
      have HB0 : Hid _ := hb0
      have HSZ : Hid _ := sz
      have HAB : Hid _ := And.intro A1 B1
      clear C2 hc hd R R' IH A0 B0 A1 B1 hb0 sz h1 hsl K1
      have HM : Hid (∀ B1 B2 : Nat, (if (B2 : Int) < (B1 : Int) then (B2 : Int) else (B1 : Int)) = ((min B1 B2 : Nat) : Int)) := fun B1 B2 => by split <;> omega
      generalize x.shape.length = SA at *
      generalize y.shape.length = SB at *
      generalize x.cells.length = CA at *
      generalize y.cells.length = CB at *
      generalize firstUp (axF x y) SA = F1 at *
      generalize firstUp (ceF (cmpA n) x y) (min CA CB) = F2 at *
      by_cases h2 : F1 ≠ 0
      · have hr : Hid (r = F1) := K2.out H1.out h2
        clear K2 K3 K4 HC2 HAB HSZ H1
        go_enter Try.func44, Try.ntmps44
        go_wp2_with fail
        refine (compare_any _ _ _).mono ?_
        rintro e w1 ⟨rfl, hw⟩
        rw [hw, z1]
        clear hw
        go_wp2_with fail
        refine C1.mono ?_
        rintro e w1 ⟨rfl, hb1⟩
        go_wp2
        go_ret
        exact ⟨retI hr.out.symm, HB0.out.trans (hb1.mono HB0.out.size)⟩
      · have H2 : Hid (¬ F1 ≠ 0) := h2
        have z2 : F1 = 0 := by simpa using h2
        subst z2
        clear h2
        by_cases h3 : F2 ≠ 0
        · have hr : Hid (r = F2) := K3.out H1.out H2.out h3
          clear K2 K3 K4 H1 H2
          go_enter Try.func44, Try.ntmps44
          go_wp2_with fail
          refine (compare_any _ _ _).mono ?_
          rintro e w1 ⟨rfl, hw⟩
          rw [hw, z1]
          clear hw
          go_wp2_with fail
          refine C1.mono ?_
          rintro e w1 ⟨rfl, hb1⟩
          have q1 : w1.cell? ⟨w.heap.size, 1, none⟩ = some (.slice a2 CA c2) := (hb1.cell (p := ⟨w.heap.size, 1, none⟩) (by rw [HSZ.out]; show w.heap.size < _; omega)).trans HAB.out.1
          have q2 : w1.cell? ⟨w.heap.size + 1, 1, none⟩ = some (.slice b2 CB d2) := (hb1.cell (p := ⟨w.heap.size + 1, 1, none⟩) (by rw [HSZ.out]; show w.heap.size + 1 < _; omega)).trans HAB.out.2
          have HC3 : Hid _ := HC2.out w1 hb1
          have HB1 : Hid (Below w.heap.size w w1) := HB0.out.trans (hb1.mono HB0.out.size)
          clear HC2 HAB HSZ hb1 C1 HB0
          go_wp2_with fail
          all_goals
            refine (HC3.out _ (by omega)).mono ?_
            rintro e w2 ⟨rfl, hb2⟩
            go_wp2
            go_ret
            exact ⟨retI hr.out.symm, HB1.out.trans (hb2.mono HB1.out.size)⟩
        · have hr : Hid (r = cmp3 CA CB) := K4.out H1.out H2.out h3
          have z3 : F2 = 0 := by simpa using h3
          subst z3
          clear K2 K3 K4 H1 H2 h3
          go_enter Try.func44, Try.ntmps44
          go_wp2_with fail
          refine (compare_any _ _ _).mono ?_
          rintro e w1 ⟨rfl, hw⟩
          rw [hw, z1]
          clear hw
          go_wp2_with fail
          refine C1.mono ?_
          rintro e w1 ⟨rfl, hb1⟩
          have q1 : w1.cell? ⟨w.heap.size, 1, none⟩ = some (.slice a2 CA c2) := (hb1.cell (p := ⟨w.heap.size, 1, none⟩) (by rw [HSZ.out]; show w.heap.size < _; omega)).trans HAB.out.1
          have q2 : w1.cell? ⟨w.heap.size + 1, 1, none⟩ = some (.slice b2 CB d2) := (hb1.cell (p := ⟨w.heap.size + 1, 1, none⟩) (by rw [HSZ.out]; show w.heap.size + 1 < _; omega)).trans HAB.out.2
          have HC3 : Hid _ := HC2.out w1 hb1
          have HB1 : Hid (Below w.heap.size w w1) := HB0.out.trans (hb1.mono HB0.out.size)
          have hs1 : w.heap.size + 2 ≤ w1.heap.size := by have := hb1.size; rw [HSZ.out] at this; exact this
          have HS1 : Hid (w.heap.size + 2 ≤ w1.heap.size) := hs1
          clear HC2 HAB HSZ hb1 C1 HB0 hs1
          go_wp2_with fail
          all_goals
            refine (HC3.out _ (by omega)).mono ?_
            rintro e w2 ⟨rfl, hb2⟩
            have q3 : w2.cell? ⟨w.heap.size, 1, none⟩ = some (.slice a2 CA c2) := (hb2.cell (p := ⟨w.heap.size, 1, none⟩) (by have := HS1.out; show w.heap.size < _; omega)).trans q1
            have q4 : w2.cell? ⟨w.heap.size + 1, 1, none⟩ = some (.slice b2 CB d2) := (hb2.cell (p := ⟨w.heap.size + 1, 1, none⟩) (by have := HS1.out; show w.heap.size + 1 < _; omega)).trans q2
            have HB2 : Hid (Below w.heap.size w w2) := HB1.out.trans (hb2.mono HB1.out.size)
            clear hb2 HC3 HB1 q1 q2
            go_wp2_with fail
            refine (compare_any _ _ _).mono ?_
            rintro e w3 ⟨rfl, hw⟩
            rw [hw]
            clear hw
            go_wp2
            go_ret
            exact ⟨retI hr.out.symm, HB2.out⟩
end Go.Proofs.Ytkgpoibnilgaeaa
