/-
  The contracts of layer 3's Deep and of the document's: how many boxes lie within one another; for all arrays that are thin.
-/
import Derived.Test.YtmjncdhahdpplaaOwnT
namespace Go.Proofs.Ytmjncdhahdpplaa
open Go.ChangeShapes Go.WideShapes Go.ChangeAt Go.RowKit
set_option linter.unusedVariables false
set_option maxRecDepth 100000
/-- The greatest of 0 and the first m. -/
def maxUp (f : Nat → Int) : Nat → Int
  | 0 => 0
  | m + 1 => max (maxUp f m) (f m)
def deepF (g : Ar → Int) (x : Ar) (i : Nat) : Int := if 0 < (cAt x.cells i).2.2.length then 1 + g (bAt (cAt x.cells i).2.2 0) else 0
/-- How many boxes lie within one another. -/
def deepA : Nat → Ar → Int
  | 0, _ => 0
  | n + 1, x => maxUp (deepF (deepA n) x) x.cells.length
theorem maxUp_le {f : Nat → Int} {m : Nat} {B : Int} (hB : 0 ≤ B) (h : ∀ i, i < m → f i ≤ B) : maxUp f m ≤ B := by
  induction m with
  | zero => exact hB
  | succ m ih =>
    have := ih fun i hi => h i (by omega)
    have := h m (by omega)
    simp only [maxUp]
    omega
theorem maxUp_nonneg (f : Nat → Int) (m : Nat) : 0 ≤ maxUp f m := by
  induction m with
  | zero => simp [maxUp]
  | succ m ih => simp only [maxUp]; omega
theorem deep_nonneg (n : Nat) (x : Ar) : 0 ≤ deepA n x := by
  cases n with
  | zero => simp [deepA]
  | succ n => exact maxUp_nonneg _ _
theorem deep_thin (n d : Nat) (x : Ar) (h : Thin d x) : deepA n x ≤ (d : Int) := by
  induction n generalizing d x with
  | zero => simp [deepA]
  | succ n ih =>
    refine maxUp_le (by omega) fun i hi => ?_
    unfold deepF
    by_cases hb : 0 < (cAt x.cells i).2.2.length
    · rw [if_pos hb]
      cases d with
      | zero => exact (h i hi 0 hb).elim
      | succ d =>
        have := ih d _ (h i hi 0 hb)
        omega
    · rw [if_neg hb]; omega
/-- What the reckoning of the depth promises. -/
def DeepC (k n : Nat) : Prop := ∀ (d : Nat) x lo va w, d ≤ 16 → Thin d x → ArIn n lo w x va → Calls Try.prog k #[va] w fun e w' => e = .returned (.int .i64 (deepA n x)) ∧ Below w.heap.size w w'
theorem deep_cells {k n lo d : Nat} {w : World} {x : Ar} {a2 : Option Addr} (IH : DeepC k n) (hd : d ≤ 16) (ht : Thin d x) (hc : CellsIn n lo w x.cells a2) (i : Nat) (hi : i < x.cells.length) :
    ∃ b off z0 z1 ab nb cb, a2 = some ⟨b, off, none⟩ ∧ (∀ wr, Below w.heap.size w wr → wr.cell? ⟨b, off + i * 3, none⟩ = some (.int .i64 z0) ∧ wr.cell? ⟨b, off + i * 3 + 1, none⟩ = some (.int .i64 z1) ∧ wr.cell? ⟨b, off + i * 3 + 2, none⟩ = some (.slice ab nb cb)) ∧ nb ≤ 5864062014805 ∧
      (nb = 0 → deepF (deepA n) x i = 0) ∧ (0 < nb → ∃ bb ob u0 u1 r, ab = some ⟨bb, ob, none⟩ ∧ deepF (deepA n) x i = 1 + r ∧ 0 ≤ r ∧ r ≤ 16 ∧ ∀ wr, Below w.heap.size w wr → wr.cell? ⟨bb, ob, none⟩ = some u0 ∧ wr.cell? ⟨bb, ob + 1, none⟩ = some u1 ∧ Calls Try.prog k #[.agg #[u0, u1]] wr fun e w' => e = .returned (.int .i64 r) ∧ Below wr.heap.size wr w') := by
  rcases hc with hc | ⟨b, off, ha, hlo, hb, hc⟩
  · rw [hc] at hi; simp at hi
  obtain ⟨v0, v1, v2, e0, e1, e2, rfl, rfl, ab, cb, rfl, hl, hx⟩ := hc i hi
  refine ⟨b, off, _, _, ab, _, cb, ha, fun wr hw => ⟨(hw.cell (p := ⟨b, off + i * 3, none⟩) hb).trans e0, (hw.cell (p := ⟨b, off + i * 3 + 1, none⟩) hb).trans e1, (hw.cell (p := ⟨b, off + i * 3 + 2, none⟩) hb).trans e2⟩, hl, fun h => by unfold deepF; rw [if_neg (by omega)], ?_⟩
  intro hnb
  rcases hx with hx | ⟨bb, ob, rfl, hlo', hbb, hx⟩
  · rw [hx] at hnb; simp at hnb
  obtain ⟨u0, u1, g0, g1, g2⟩ := hx 0 hnb
  simp only [Nat.zero_mul, Nat.add_zero] at g0 g1
  cases d with
  | zero => exact (ht i hi 0 hnb).elim
  | succ d =>
    have ht' : Thin d (bAt (cAt x.cells i).2.2 0) := ht i hi 0 hnb
    refine ⟨bb, ob, u0, u1, deepA n (bAt (cAt x.cells i).2.2 0), rfl, by unfold deepF; rw [if_pos hnb], deep_nonneg _ _, ?_, ?_⟩
    · have := deep_thin n d _ ht'
      omega
    · intro wr hw
      exact ⟨(hw.cell (p := ⟨bb, ob, none⟩) hbb).trans g0, (hw.cell (p := ⟨bb, ob + 1, none⟩) hbb).trans g1, IH d _ lo _ wr (by omega) ht' (g2.next hw)⟩
set_option maxHeartbeats 2000000 in
theorem deep_any (n : Nat) : DeepC 65 n := by
  induction n with
  | zero => intro d x lo va w _ _ hx; exact hx.elim
  | succ n IH =>
    intro d x lo va w hd ht hx
    obtain ⟨a1, c1, a2, c2, rfl, R, hl, hc⟩ := hx
    have HC := hide (deep_cells IH hd ht hc)
    have HB0 := hide (one_alloc w (.cells #[.slice a1 x.shape.length c1, .slice a2 x.cells.length c2] 25))
    have HM : Hid (∀ j, j ≤ x.cells.length → 0 ≤ maxUp (deepF (deepA n) x) j ∧ maxUp (deepF (deepA n) x) j ≤ 100) := fun j hj => ⟨maxUp_nonneg _ _, maxUp_le (by omega) fun i hi => by
      obtain ⟨b, off, z0, z1, ab, nb, cb, -, -, -, g1, g2⟩ := HC.out i (by omega)
      rcases Nat.eq_zero_or_pos nb with h | h
      · rw [g1 h]; omega
      · obtain ⟨_, _, _, _, r, _, e, _, _, _⟩ := g2 h
        rw [e]; omega⟩
    have HS : Hid (∀ j, maxUp (deepF (deepA n) x) (j + 1) = max (maxUp (deepF (deepA n) x) j) (deepF (deepA n) x j)) := fun _ => rfl
    have H0 : Hid (maxUp (deepF (deepA n) x) 0 = 0) := rfl
    show Calls _ _ _ _ fun e w' => e = .returned (.int .i64 (maxUp (deepF (deepA n) x) x.cells.length)) ∧ _
    clear R hc IH ht
    generalize deepF (deepA n) x = F at *
    generalize x.shape.length = SA at *
    generalize x.cells.length = CA at *
    go_enter Try.func65, Try.ntmps65
    go_wp2
    go_loopw [3, 9] (fun m i wr => ∃ j : Nat, j ≤ CA ∧ i = .int .i64 (j : Int) ∧ m = .int .i64 (maxUp F j) ∧ Below w.heap.size w wr) (fun _ i _ => CA - (intOf i).toNat)
    case atStart => exact ⟨0, Nat.zero_le _, rfl, by rw [H0.out], HB0.out⟩
    case round =>
      clear HB0
      obtain ⟨j, hj, rfl, rfl, hnx⟩ := hrel
      by_cases hlt : j < CA
      · obtain ⟨b, off, z0, z1, ab, nb, cb, rfl, hcs, hnb, g1, g2⟩ := HC.out j hlt
        obtain ⟨k0, k1, k2⟩ := hcs wr hnx
        have hms := HS.out j
        have hm := HM.out j hj
        have hnx' := fun o => hnx.alloc hnx.size o
        rcases Nat.eq_zero_or_pos nb with h | h
        · have e0 := g1 h
          subst h
          have E : Hid (maxUp F (j + 1) = maxUp F j) := by show _ = _; rw [hms, e0]; omega
          have HX := hide hnx'
          clear hcs g1 g2 HC HM HS hms hm e0 hnx'
          generalize maxUp F j = m at *
          go_wp2
          go_roundw
          case rel => exact ⟨j + 1, by omega, by go_num, by rw [E.out], HX.out _⟩
          case measure => simp [intOf]; omega
        · obtain ⟨bb, ob, u0, u1, r, rfl, e0, hr0, hr1, hcs2⟩ := g2 h
          have E : Hid (maxUp F (j + 1) = max (maxUp F j) (1 + r)) := by show _ = _; rw [hms, e0]
          have G0 := fun o => (hcs2 _ (hnx' o)).1
          have G1 := fun o => (hcs2 _ (hnx' o)).2.1
          have C : Hid (∀ o, Calls Try.prog 65 #[.agg #[u0, u1]] (wr.alloc o) fun e w' => e = .returned (.int .i64 r) ∧ Below w.heap.size w w') := fun o => ((hcs2 _ (hnx' o)).2.2).mono fun e w' ⟨he, hb⟩ => ⟨he, (hnx' o).trans (hb.mono (hnx' o).size)⟩
          obtain ⟨m0, m1⟩ := hm
          clear hcs g1 g2 HC HM HS hms e0 hnx' hcs2
          generalize maxUp F j = m at *
          go_wp2_with fail
          refine (C.out _).mono ?_
          rintro e w1 ⟨rfl, hb1⟩
          go_wp2
          all_goals
            go_roundw
            case rel => exact ⟨j + 1, by omega, by go_num, by rw [E.out]; first | rfl | (congr 1; omega), hb1⟩
            case measure => simp [intOf]; omega
      · have hje : j = CA := by omega
        subst hje
        clear HC HM HS
        go_wp2
        go_ret
        exact ⟨rfl, hnx⟩
set_option maxHeartbeats 2000000 in
theorem rdeep_any (n : Nat) : DeepC 70 n := by
  induction n with
  | zero => intro d x lo va w _ _ hx; exact hx.elim
  | succ n IH =>
    intro d x lo va w hd ht hx
    obtain ⟨a1, c1, a2, c2, rfl, R, hl, hc⟩ := hx
    have HC := hide (deep_cells IH hd ht hc)
    have HB0 := hide (one_alloc w (.cells #[.slice a1 x.shape.length c1, .slice a2 x.cells.length c2] 25))
    have HM : Hid (∀ j, j ≤ x.cells.length → 0 ≤ maxUp (deepF (deepA n) x) j ∧ maxUp (deepF (deepA n) x) j ≤ 100) := fun j hj => ⟨maxUp_nonneg _ _, maxUp_le (by omega) fun i hi => by
      obtain ⟨b, off, z0, z1, ab, nb, cb, -, -, -, g1, g2⟩ := HC.out i (by omega)
      rcases Nat.eq_zero_or_pos nb with h | h
      · rw [g1 h]; omega
      · obtain ⟨_, _, _, _, r, _, e, _, _, _⟩ := g2 h
        rw [e]; omega⟩
    have HS : Hid (∀ j, maxUp (deepF (deepA n) x) (j + 1) = max (maxUp (deepF (deepA n) x) j) (deepF (deepA n) x j)) := fun _ => rfl
    have H0 : Hid (maxUp (deepF (deepA n) x) 0 = 0) := rfl
    show Calls _ _ _ _ fun e w' => e = .returned (.int .i64 (maxUp (deepF (deepA n) x) x.cells.length)) ∧ _
    clear R hc IH ht
    generalize deepF (deepA n) x = F at *
    generalize x.shape.length = SA at *
    generalize x.cells.length = CA at *
    go_enter Try.func70, Try.ntmps70
    go_wp2
    go_loopw [3, 4] (fun m i wr => ∃ j : Nat, j ≤ CA ∧ i = .int .i64 (j : Int) ∧ m = .int .i64 (maxUp F j) ∧ Below w.heap.size w wr ∧ wr.cell? ⟨w.heap.size, 1, none⟩ = some (.slice a2 CA c2) ∧ w.heap.size < wr.heap.size) (fun _ i _ => CA - (intOf i).toNat)
    case atStart => exact ⟨0, Nat.zero_le _, rfl, by rw [H0.out], HB0.out, cell_new0 w _ 25 1 _ rfl, by simp⟩
    case round =>
      clear HB0
      obtain ⟨j, hj, rfl, rfl, hnx, hcl, hsz⟩ := hrel
      have HSZ := hide hsz
      clear hsz
      by_cases hlt : j < CA
      · obtain ⟨b, off, z0, z1, ab, nb, cb, rfl, hcs, hnb, g1, g2⟩ := HC.out j hlt
        obtain ⟨k0, k1, k2⟩ := hcs wr hnx
        have hms := HS.out j
        have hm := HM.out j hj
        rcases Nat.eq_zero_or_pos nb with h | h
        · have e0 := g1 h
          subst h
          have E : Hid (maxUp F (j + 1) = maxUp F j) := by show _ = _; rw [hms, e0]; omega
          clear hcs g1 g2 HC HM HS hms hm e0
          generalize maxUp F j = m at *
          go_wp2
          go_roundw
          case rel => exact ⟨j + 1, by omega, by go_num, by rw [E.out], hnx, hcl, HSZ.out⟩
          case measure => simp [intOf]; omega
        · obtain ⟨bb, ob, u0, u1, r, rfl, e0, hr0, hr1, hcs2⟩ := g2 h
          have E : Hid (maxUp F (j + 1) = max (maxUp F j) (1 + r)) := by show _ = _; rw [hms, e0]
          obtain ⟨G0, G1, C⟩ := hcs2 wr hnx
          obtain ⟨m0, m1⟩ := hm
          have hnz : ¬ (nb : Int) = 0 := by omega
          clear hcs g1 g2 HC HM HS hms e0 hcs2
          generalize maxUp F j = m at *
          by_cases hgt : m < 1 + r
          · have E' : Hid (maxUp F (j + 1) = 1 + r) := by show _ = _; rw [E.out]; omega
            go_wp2_with fail
            refine C.mono ?_
            rintro e w1 ⟨rfl, hb1⟩
            have B1 := hnx.trans (hb1.mono hnx.size)
            have q1 := (hb1.cell (p := ⟨w.heap.size, 1, none⟩) HSZ.out).trans hcl
            have HS1 := hide (Nat.lt_of_lt_of_le HSZ.out hb1.size)
            clear C hb1 hnx hcl
            go_wp2
            go_roundw
            case rel => exact ⟨j + 1, by omega, by go_num, by rw [E'.out], B1, q1, HS1.out⟩
            case measure => simp [intOf]; omega
          · have E' : Hid (maxUp F (j + 1) = m) := by show _ = _; rw [E.out]; omega
            go_wp2_with fail
            refine C.mono ?_
            rintro e w1 ⟨rfl, hb1⟩
            have B1 := hnx.trans (hb1.mono hnx.size)
            have q1 := (hb1.cell (p := ⟨w.heap.size, 1, none⟩) HSZ.out).trans hcl
            have HS1 := hide (Nat.lt_of_lt_of_le HSZ.out hb1.size)
            clear C hb1 hnx hcl
            go_wp2
            go_roundw
            case rel => exact ⟨j + 1, by omega, by go_num, by rw [E'.out], B1, q1, HS1.out⟩
            case measure => simp [intOf]; omega
      · have hje : j = CA := by omega
        subst hje
        clear HC HM HS
        go_wp2
        go_ret
        exact ⟨rfl, hnx⟩
end Go.Proofs.Ytmjncdhahdpplaa
