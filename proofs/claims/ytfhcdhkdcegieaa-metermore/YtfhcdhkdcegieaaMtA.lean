/-
  How many cells an array has, boxes gone into, and the contracts of layer 9's Cells and of the document's.
-/
import Derived.Test.YtfhcdhkdcegieaaOwnU
import Derived.Test.YtfhcdhkdcegieaaOwnY
namespace Go.Proofs.Ytfhcdhkdcegieaa
open Go.ChangeShapes Go.WideShapes Go.ChangeAt Go.RowKit
set_option linter.unusedVariables false
set_option maxRecDepth 100000
def sumN (f : Nat → Nat) : Nat → Nat
  | 0 => 0
  | m + 1 => sumN f m + f m
theorem sumN_le (f : Nat → Nat) {i m : Nat} (h : i ≤ m) : sumN f i ≤ sumN f m := by
  induction m with
  | zero => rw [Nat.le_zero.1 h]; exact Nat.le_refl _
  | succ m ih =>
    rcases Nat.lt_succ_iff_lt_or_eq.1 (Nat.lt_succ_of_le h) with h1 | h1
    · have := ih (by omega)
      simp only [sumN]; omega
    · rw [h1]; exact Nat.le_refl _
theorem sumN_at (f : Nat → Nat) {i m : Nat} (h : i < m) : sumN f i + f i ≤ sumN f m := sumN_le f (show i + 1 ≤ m from h)
/-- How many cells there are, boxes gone into. -/
def cntA : Nat → Ar → Nat
  | 0, _ => 0
  | n + 1, x => x.cells.length + sumN (fun i => sumN (fun k => cntA n (bAt (cAt x.cells i).2.2 k)) (cAt x.cells i).2.2.length) x.cells.length
/-- A cell, and the arrays of its box, in whatever world is later. -/
theorem cell_box {n lo : Nat} {w : World} {x : Ar} {a2 : Option Addr} (hc : CellsIn n lo w x.cells a2) (i : Nat) (hi : i < x.cells.length) :
    ∃ b off ab cb z0 z1, a2 = some ⟨b, off, none⟩ ∧ (cAt x.cells i).2.2.length ≤ 5864062014805 ∧ (∀ wr, Below w.heap.size w wr → wr.cell? ⟨b, off + i * 3, none⟩ = some (.int .i64 z0) ∧ wr.cell? ⟨b, off + i * 3 + 1, none⟩ = some (.int .i64 z1) ∧ wr.cell? ⟨b, off + i * 3 + 2, none⟩ = some (.slice ab (cAt x.cells i).2.2.length cb)) ∧
      ∀ k, k < (cAt x.cells i).2.2.length → ∃ bb ob s1 l1 k1 s2 l2 k2, ab = some ⟨bb, ob, none⟩ ∧ ∀ wr, Below w.heap.size w wr → wr.cell? ⟨bb, ob + k * 2, none⟩ = some (.slice s1 l1 k1) ∧ wr.cell? ⟨bb, ob + k * 2 + 1, none⟩ = some (.slice s2 l2 k2) ∧ ArIn n lo wr (bAt (cAt x.cells i).2.2 k) (.agg #[.slice s1 l1 k1, .slice s2 l2 k2]) := by
  rcases hc with hc | ⟨b, off, ha, hlo, hb, hc⟩
  · rw [hc] at hi; simp at hi
  obtain ⟨v0, v1, v2, e0, e1, e2, rfl, rfl, ab, cb, rfl, hl, hx⟩ := hc i hi
  refine ⟨b, off, ab, cb, _, _, ha, hl, fun wr hw => ⟨(hw.cell (p := ⟨b, off + i * 3, none⟩) hb).trans e0, (hw.cell (p := ⟨b, off + i * 3 + 1, none⟩) hb).trans e1, (hw.cell (p := ⟨b, off + i * 3 + 2, none⟩) hb).trans e2⟩, ?_⟩
  intro k hk
  rcases hx with hx | ⟨bb, ob, rfl, hlo', hbb, hx⟩
  · rw [hx] at hk; simp at hk
  obtain ⟨u0, u1, g0, g1, g2⟩ := hx k hk
  cases n with
  | zero => exact g2.elim
  | succ n =>
  have g3 := g2
  obtain ⟨s1, k1, s2, k2, hv, -⟩ := g3
  simp only [Value.agg.injEq, Array.mk.injEq, List.cons.injEq, and_true] at hv
  obtain ⟨rfl, rfl⟩ := hv
  exact ⟨bb, ob, _, _, _, _, _, _, rfl, fun wr hw => ⟨(hw.cell (p := ⟨bb, ob + k * 2, none⟩) hbb).trans g0, (hw.cell (p := ⟨bb, ob + k * 2 + 1, none⟩) hbb).trans g1, g2.next hw⟩⟩
/-- What the counting of cells promises. -/
def CntC (f n : Nat) : Prop := ∀ x lo va w, ArIn n lo w x va → cntA n x ≤ 1000000 → Calls Try.prog f #[va] w fun e w' => e = .returned (.int .i64 (cntA n x : Int)) ∧ Below w.heap.size w w'
set_option maxHeartbeats 4000000 in
theorem mcells_any (n : Nat) : CntC 16 n := by
  induction n with
  | zero => intro x lo va w hx; exact hx.elim
  | succ n IH =>
    intro x lo va w hx hcnt
    obtain ⟨a1, c1, a2, c2, rfl, R, hl, hc⟩ := hx
    have HB := hide (cell_box hc)
    have HB0 := hide (one_alloc w (.cells #[.slice a1 x.shape.length c1, .slice a2 x.cells.length c2] 38))
    have q := cell_new0 w #[.slice a1 x.shape.length c1, .slice a2 x.cells.length c2] 38 1 _ rfl
    rw [show cntA (n + 1) x = x.cells.length + sumN (fun i => sumN (fun k => cntA n (bAt (cAt x.cells i).2.2 k)) (cAt x.cells i).2.2.length) x.cells.length from rfl] at hcnt ⊢
    clear R hc
    generalize hNL : (fun i => (cAt x.cells i).2.2.length) = NL at *
    generalize hY : (fun i k => bAt (cAt x.cells i).2.2 k) = Y at *
    have HB' : Hid (∀ i, i < x.cells.length → ∃ b off ab cb z0 z1, a2 = some ⟨b, off, none⟩ ∧ NL i ≤ 5864062014805 ∧ (∀ wr, Below w.heap.size w wr → wr.cell? ⟨b, off + i * 3, none⟩ = some (.int .i64 z0) ∧ wr.cell? ⟨b, off + i * 3 + 1, none⟩ = some (.int .i64 z1) ∧ wr.cell? ⟨b, off + i * 3 + 2, none⟩ = some (.slice ab (NL i) cb)) ∧
        ∀ k, k < NL i → ∃ bb ob s1 l1 k1 s2 l2 k2, ab = some ⟨bb, ob, none⟩ ∧ ∀ wr, Below w.heap.size w wr → wr.cell? ⟨bb, ob + k * 2, none⟩ = some (.slice s1 l1 k1) ∧ wr.cell? ⟨bb, ob + k * 2 + 1, none⟩ = some (.slice s2 l2 k2) ∧ ArIn n lo wr (Y i k) (.agg #[.slice s1 l1 k1, .slice s2 l2 k2])) := by
      subst hNL hY
      exact HB.out
    have hF : (fun i => sumN (fun k => cntA n (bAt (cAt x.cells i).2.2 k)) (cAt x.cells i).2.2.length) = fun i => sumN (fun k => cntA n (Y i k)) (NL i) := by
      subst hNL hY
      rfl
    rw [hF] at hcnt ⊢
    clear HB hNL hY hF
    generalize x.shape.length = SA at *
    generalize x.cells.length = CA at *
    obtain ⟨W1, e1⟩ : ∃ W1, w.alloc (.cells #[.slice a1 SA c1, .slice a2 CA c2] 38) = W1 := ⟨_, rfl⟩
    rw [e1] at HB0 q
    have HCN := hide hcnt
    have hCA : CA ≤ 1000000 := by omega
    clear hcnt
    go_enter Try.func16, Try.ntmps16
    go_wp2
    clear q
    go_loopg [3, 14] CA (fun g nv i wr => ∃ j : Nat, g + j = CA ∧ i = .int .i64 (j : Int) ∧ nv = .int .i64 ((CA + sumN (fun i => sumN (fun k => cntA n (Y i k)) (NL i)) j : Nat) : Int) ∧ Below w.heap.size w wr)
    case atStart => exact ⟨0, rfl, rfl, by simp [sumN], HB0.out⟩
    case round =>
      clear HB0 e1
      obtain ⟨j, hg, rfl, rfl, hnx⟩ := hrel
      by_cases hlt : j < CA
      · obtain ⟨b, off, ab, cb, z0, z1, rfl, hnl, hcs, hbx⟩ := HB'.out j hlt
        obtain ⟨k0, k1, k2⟩ := hcs wr hnx
        have HBX := hide hbx
        have hS := sumN_at (fun i => sumN (fun k => cntA n (Y i k)) (NL i)) hlt
        have hS' : sumN (fun i => sumN (fun k => cntA n (Y i k)) (NL i)) (j + 1) = sumN (fun i => sumN (fun k => cntA n (Y i k)) (NL i)) j + sumN (fun k => cntA n (Y j k)) (NL j) := rfl
        have hcn := HCN.out
        have HSL : Hid (∀ t, t < NL j → sumN (fun k => cntA n (Y j k)) (t + 1) = sumN (fun k => cntA n (Y j k)) t + cntA n (Y j t) ∧ CA + sumN (fun i => sumN (fun k => cntA n (Y i k)) (NL i)) j + sumN (fun k => cntA n (Y j k)) t + cntA n (Y j t) ≤ 1000000) := fun t ht => ⟨rfl, by
          have := sumN_at (fun k => cntA n (Y j k)) ht
          omega⟩
        have HS' := hide hS'
        obtain ⟨P, hP⟩ : ∃ P, sumN (fun i => sumN (fun k => cntA n (Y i k)) (NL i)) j = P := ⟨_, rfl⟩
        rw [hP] at HSL HS'
        have hPb : CA + P ≤ 1000000 := by omega
        simp only [hP]
        clear hcs hbx hS hS' hcn hP HB' HCN
        have HA := hide (hnx.alloc hnx.size (.cells #[.int .i64 z0, .int .i64 z1, .slice ab (NL j) cb] 66))
        generalize NL j = L at *
        go_wp2
        clear k0 k1 k2
        go_loopg [3, 21] L (fun g nv kv wr => ∃ k : Nat, g + k = L ∧ kv = .int .i64 (k : Int) ∧ nv = .int .i64 ((CA + P + sumN (fun k => cntA n (Y j k)) k : Nat) : Int) ∧ Below w.heap.size w wr)
        case atStart => exact ⟨0, rfl, rfl, by simp [sumN], HA.out⟩
        case round =>
          clear HA hnx
          obtain ⟨k, hg2, rfl, rfl, hnx⟩ := hrel
          by_cases hkl : k < L
          · obtain ⟨bb, ob, s1, l1, k1, s2, l2, k2, rfl, hbs⟩ := HBX.out k hkl
            obtain ⟨g0, g1, g2⟩ := hbs _ hnx
            have ha := hnx.alloc hnx.size (.cells #[.slice s1 l1 k1, .slice s2 l2 k2] 38)
            obtain ⟨hs1, hs2⟩ := HSL.out k hkl
            have C := IH _ lo _ _ (hbs _ ha).2.2 (by omega)
            have HS1 := hide hs1
            obtain ⟨T, hT⟩ : ∃ T, sumN (fun k => cntA n (Y j k)) k = T := ⟨_, rfl⟩
            obtain ⟨D, hD⟩ : ∃ D, cntA n (Y j k) = D := ⟨_, rfl⟩
            rw [hT, hD] at HS1 hs2
            rw [hD] at C
            simp only [hT]
            have HA := hide ha
            clear hbs g2 ha hs1 HBX HSL hT hD
            go_wp2_with fail
            refine C.mono ?_
            clear C g0 g1
            rintro e w1 ⟨rfl, hb1⟩
            have HB1 := hide (HA.out.trans (hb1.mono HA.out.size))
            clear hb1 HA hnx
            go_wp2
            go_roundg (L - (k + 1))
            case rel => exact ⟨k + 1, by omega, by go_num, by rw [HS1.out]; go_num, HB1.out⟩
            case measure => omega
          · have hke : k = L := by omega
            subst hke
            clear HBX HSL
            have HX := hide hnx
            go_wp2
            go_roundg (CA - (j + 1))
            case rel => exact ⟨j + 1, by omega, by go_num, by rw [HS'.out]; go_num, HX.out⟩
            case measure => omega
      · have hje : j = CA := by omega
        subst hje
        clear HB' HCN
        go_wp2
        go_ret
        exact ⟨rfl, hnx⟩
set_option maxHeartbeats 4000000 in
theorem rcells_any (n : Nat) : CntC 17 n := by
  induction n with
  | zero => intro x lo va w hx; exact hx.elim
  | succ n IH =>
    intro x lo va w hx hcnt
    obtain ⟨a1, c1, a2, c2, rfl, R, hl, hc⟩ := hx
    have HB := hide (cell_box hc)
    have HB0 := hide (one_alloc w (.cells #[.slice a1 x.shape.length c1, .slice a2 x.cells.length c2] 38))
    have q := cell_new0 w #[.slice a1 x.shape.length c1, .slice a2 x.cells.length c2] 38 1 _ rfl
    rw [show cntA (n + 1) x = x.cells.length + sumN (fun i => sumN (fun k => cntA n (bAt (cAt x.cells i).2.2 k)) (cAt x.cells i).2.2.length) x.cells.length from rfl] at hcnt ⊢
    clear R hc
    generalize hNL : (fun i => (cAt x.cells i).2.2.length) = NL at *
    generalize hY : (fun i k => bAt (cAt x.cells i).2.2 k) = Y at *
    have HB' : Hid (∀ i, i < x.cells.length → ∃ b off ab cb z0 z1, a2 = some ⟨b, off, none⟩ ∧ NL i ≤ 5864062014805 ∧ (∀ wr, Below w.heap.size w wr → wr.cell? ⟨b, off + i * 3, none⟩ = some (.int .i64 z0) ∧ wr.cell? ⟨b, off + i * 3 + 1, none⟩ = some (.int .i64 z1) ∧ wr.cell? ⟨b, off + i * 3 + 2, none⟩ = some (.slice ab (NL i) cb)) ∧
        ∀ k, k < NL i → ∃ bb ob s1 l1 k1 s2 l2 k2, ab = some ⟨bb, ob, none⟩ ∧ ∀ wr, Below w.heap.size w wr → wr.cell? ⟨bb, ob + k * 2, none⟩ = some (.slice s1 l1 k1) ∧ wr.cell? ⟨bb, ob + k * 2 + 1, none⟩ = some (.slice s2 l2 k2) ∧ ArIn n lo wr (Y i k) (.agg #[.slice s1 l1 k1, .slice s2 l2 k2])) := by
      subst hNL hY
      exact HB.out
    have hF : (fun i => sumN (fun k => cntA n (bAt (cAt x.cells i).2.2 k)) (cAt x.cells i).2.2.length) = fun i => sumN (fun k => cntA n (Y i k)) (NL i) := by
      subst hNL hY
      rfl
    rw [hF] at hcnt ⊢
    clear HB hNL hY hF
    generalize x.shape.length = SA at *
    generalize x.cells.length = CA at *
    obtain ⟨W1, e1⟩ : ∃ W1, w.alloc (.cells #[.slice a1 SA c1, .slice a2 CA c2] 38) = W1 := ⟨_, rfl⟩
    have HZ : Hid (w.heap.size < W1.heap.size) := by show _ < _; rw [← e1]; simp
    rw [e1] at HB0 q
    have HQ := hide q
    have HCN := hide hcnt
    have hCA : CA ≤ 1000000 := by omega
    clear hcnt q
    go_enter Try.func17, Try.ntmps17
    go_wp2
    go_loopg [3, 4] CA (fun g nv i wr => ∃ j : Nat, g + j = CA ∧ i = .int .i64 (j : Int) ∧ nv = .int .i64 ((j + sumN (fun i => sumN (fun k => cntA n (Y i k)) (NL i)) j : Nat) : Int) ∧ Below w.heap.size w wr ∧ wr.cell? ⟨w.heap.size, 1, none⟩ = some (.slice a2 CA c2) ∧ w.heap.size < wr.heap.size)
    case atStart => exact ⟨0, rfl, rfl, by simp [sumN], HB0.out, HQ.out, HZ.out⟩
    case round =>
      clear HB0 e1 HQ HZ
      obtain ⟨j, hg, rfl, rfl, hnx, hq, hz⟩ := hrel
      by_cases hlt : j < CA
      · obtain ⟨b, off, ab, cb, z0, z1, rfl, hnl, hcs, hbx⟩ := HB'.out j hlt
        have HCS : Hid (∀ wr, Below w.heap.size w wr → wr.cell? ⟨b, off + j * 3 + 2, none⟩ = some (.slice ab (NL j) cb)) := fun wr h => (hcs wr h).2.2
        have HBX := hide hbx
        have hS := sumN_at (fun i => sumN (fun k => cntA n (Y i k)) (NL i)) hlt
        have hS' : sumN (fun i => sumN (fun k => cntA n (Y i k)) (NL i)) (j + 1) = sumN (fun i => sumN (fun k => cntA n (Y i k)) (NL i)) j + sumN (fun k => cntA n (Y j k)) (NL j) := rfl
        have hcn := HCN.out
        have HSL : Hid (∀ t, t < NL j → sumN (fun k => cntA n (Y j k)) (t + 1) = sumN (fun k => cntA n (Y j k)) t + cntA n (Y j t) ∧ CA + sumN (fun i => sumN (fun k => cntA n (Y i k)) (NL i)) j + sumN (fun k => cntA n (Y j k)) t + cntA n (Y j t) ≤ 1000000) := fun t ht => ⟨rfl, by
          have := sumN_at (fun k => cntA n (Y j k)) ht
          omega⟩
        have HS' := hide hS'
        obtain ⟨P, hP⟩ : ∃ P, sumN (fun i => sumN (fun k => cntA n (Y i k)) (NL i)) j = P := ⟨_, rfl⟩
        rw [hP] at HSL HS'
        have hPb : CA + P ≤ 1000000 := by omega
        simp only [hP]
        have HX := hide (And.intro hnx (And.intro hq hz))
        clear hcs hbx hS hS' hcn hP HB' HCN
        generalize NL j = L at *
        go_wp2
        clear hq hnx hz
        go_loopg [3, 5] L (fun g nv kv wr => ∃ k : Nat, g + k = L ∧ kv = .int .i64 (k : Int) ∧ nv = .int .i64 ((j + 1 + P + sumN (fun k => cntA n (Y j k)) k : Nat) : Int) ∧ Below w.heap.size w wr ∧ wr.cell? ⟨w.heap.size, 1, none⟩ = some (.slice (some ⟨b, off, none⟩) CA c2) ∧ w.heap.size < wr.heap.size)
        case atStart => exact ⟨0, rfl, rfl, by simp [sumN]; omega, HX.out.1, HX.out.2.1, HX.out.2.2⟩
        case round =>
          clear HX
          obtain ⟨k, hg2, rfl, rfl, hnx, hq, hz⟩ := hrel
          have k2 := HCS.out _ hnx
          by_cases hkl : k < L
          · obtain ⟨bb, ob, s1, l1, k1, s2, l2, k3, rfl, hbs⟩ := HBX.out k hkl
            obtain ⟨g0, g1, g2⟩ := hbs _ hnx
            obtain ⟨hs1, hs2⟩ := HSL.out k hkl
            have C := IH _ lo _ _ g2 (by omega)
            have HS1 := hide hs1
            obtain ⟨T, hT⟩ : ∃ T, sumN (fun k => cntA n (Y j k)) k = T := ⟨_, rfl⟩
            obtain ⟨D, hD⟩ : ∃ D, cntA n (Y j k) = D := ⟨_, rfl⟩
            rw [hT, hD] at HS1 hs2
            rw [hD] at C
            simp only [hT]
            have HA := hide (And.intro hnx (And.intro hq hz))
            clear hbs g2 hs1 HBX HSL hT hD hnx hz HCS
            go_wp2_with fail
            refine C.mono ?_
            clear C g0 g1 hq k2
            rintro e w1 ⟨rfl, hb1⟩
            have HB1 := hide (HA.out.1.trans (hb1.mono HA.out.1.size))
            have HB2 := hide ((hb1.cell (p := ⟨w.heap.size, 1, none⟩) HA.out.2.2).trans HA.out.2.1)
            have HB3 := hide (Nat.lt_of_lt_of_le HA.out.2.2 hb1.size)
            clear hb1 HA
            go_wp2
            go_roundg (L - (k + 1))
            case rel => exact ⟨k + 1, by omega, by go_num, by rw [HS1.out]; go_num, HB1.out, HB2.out, HB3.out⟩
            case measure => omega
          · have hke : k = L := by omega
            subst hke
            clear HBX HSL
            have HX := hide (And.intro hnx (And.intro hq hz))
            clear hnx hz
            go_wp2
            go_roundg (CA - (j + 1))
            case rel => exact ⟨j + 1, by omega, by go_num, by rw [HS'.out]; go_num, HX.out.1, HX.out.2.1, HX.out.2.2⟩
            case measure => omega
      · have hje : j = CA := by omega
        subst hje
        clear HB' HCN
        go_wp2
        go_ret
        exact ⟨rfl, hnx⟩
end Go.Proofs.Ytfhcdhkdcegieaa
