/-
  The contracts of layer 5's shapeOf and copyCell.
-/
import Derived.Test.YtmjncdhahdpplaaLyM
namespace Go.Proofs.Ytmjncdhahdpplaa
open Go.ChangeShapes Go.WideShapes Go.ChangeAt Go.RowKit
set_option linter.unusedVariables false
set_option maxRecDepth 100000
/-- The numbers of an array's cells. -/
def shN (x : Ar) : List Int := x.cells.map fun c => c.2.1
def allC (x : Ar) : Prop := ∀ i, i < x.cells.length → isC (cAt x.cells i) = true
def noLong (x : Ar) : Prop := ∀ i, i < x.cells.length → (cAt x.cells i).2.1 ≤ 16384
instance (x : Ar) : Decidable (allC x) := by unfold allC; infer_instance
instance (x : Ar) : Decidable (noLong x) := by unfold noLong; infer_instance
def shpE (x : Ar) : Int := if 1 < x.shape.length then 6 else if ¬ allC x then 5 else if 8 < x.cells.length then 6 else if ¬ noLong x then 12 else 0
theorem shN_len (x : Ar) : (shN x).length = x.cells.length := by simp [shN]
theorem shN_at (x : Ar) (i : Nat) (hi : i < x.cells.length) : gI (shN x) i = (cAt x.cells i).2.1 := by simp [gI, shN, cAt, hi]
def GivesL (E : Int) (l : List Int) (w : World) (e : Ending) (w' : World) : Prop := (∃ a cap, e = .returned (.tuple #[.slice a (if E = 0 then l.length else 0) cap, .int .i64 E]) ∧ (E = 0 → Row w.heap.size w' a l)) ∧ Below w.heap.size w w'
set_option maxHeartbeats 4000000 in
theorem shapeOf_any {n lo : Nat} {x : Ar} {va : Value} {w : World} (hx : ArIn (n + 1) lo w x va) (hchk : chkA 8 x = 0) : Calls Try.prog 55 #[va] w fun e w' => GivesL (shpE x) (shN x) w e w' := by
  obtain ⟨a1, c1, a2, c2, rfl, R, hc⟩ := hx.form
  have b0 := one_alloc w (.cells #[.slice a1 x.shape.length c1, .slice a2 x.cells.length c2] 25)
  have q0 : (w.alloc (.cells #[.slice a1 x.shape.length c1, .slice a2 x.cells.length c2] 25)).cell? ⟨w.heap.size, 0, none⟩ = some (.slice a1 x.shape.length c1) := cell_new0 w _ 25 0 _ rfl
  have q1 : (w.alloc (.cells #[.slice a1 x.shape.length c1, .slice a2 x.cells.length c2] 25)).cell? ⟨w.heap.size, 1, none⟩ = some (.slice a2 x.cells.length c2) := cell_new0 w _ 25 1 _ rfl
  obtain ⟨l8, c16⟩ := chk_len hchk
  have hl := R.1
  obtain ⟨ab, cb, hcf⟩ := cells_fn hc
  have HCF := hide hcf
  have HE : Hid (shpE x = if 1 < x.shape.length then 6 else if ¬ allC x then 5 else if 8 < x.cells.length then 6 else if ¬ noLong x then 12 else 0) := rfl
  obtain ⟨W1, e1⟩ : ∃ W1, w.alloc (.cells #[.slice a1 x.shape.length c1, .slice a2 x.cells.length c2] 25) = W1 := ⟨_, rfl⟩
  rw [e1] at b0 q0 q1
  have hz1 : W1.heap.size = w.heap.size + 1 := by rw [← e1]; simp
  obtain ⟨SA, hSA⟩ : ∃ SA, x.shape.length = SA := ⟨_, rfl⟩
  obtain ⟨CA, hCA⟩ : ∃ CA, x.cells.length = CA := ⟨_, rfl⟩
  have HALL : Hid (allC x ↔ ∀ i, i < CA → isC (cAt x.cells i) = true) := by rw [← hCA]; exact Iff.rfl
  have HNOL : Hid (noLong x ↔ ∀ i, i < CA → (cAt x.cells i).2.1 ≤ 16384) := by rw [← hCA]; exact Iff.rfl
  have HSH : Hid ((shN x).length = CA ∧ ∀ i, i < CA → gI (shN x) i = (cAt x.cells i).2.1) := ⟨by rw [shN_len, hCA], fun i hi => shN_at x i (by omega)⟩
  simp only [hSA, hCA] at q0 q1 e1 l8 c16 hl HE HCF ⊢
  have HB0 := hide (And.intro b0 (And.intro q0 (And.intro q1 hz1)))
  clear R hc hcf hx hchk hSA hCA b0
  by_cases h1 : 1 < SA
  · have HE5 : Hid (shpE x = 6) := by unfold Hid; rw [HE.out, if_pos h1]
    have h1' : (1 : Int) < (SA : Int) := by omega
    go_enter Try.func55, Try.ntmps55
    go_wp2
    go_ret2
    exact ⟨⟨none, 0, by rw [HE5.out]; rfl, fun h => absurd h (by rw [HE5.out]; decide)⟩, HB0.out.1⟩
  · have h1' : ¬ (1 : Int) < (SA : Int) := by omega
    go_enter Try.func55, Try.ntmps55
    go_wp2
    clear e1 q0 q1 hz1
    go_loopg [16] CA (fun g i wr => ∃ j : Nat, g + j = CA ∧ i = .int .i64 (j : Int) ∧ Below w.heap.size w wr ∧ w.heap.size < wr.heap.size ∧ wr.cell? ⟨w.heap.size, 1, none⟩ = some (.slice a2 CA c2) ∧ ∀ i, i < j → isC (cAt x.cells i) = true)
    case atStart => exact ⟨0, rfl, rfl, HB0.out.1, by have := HB0.out.2.2.2; omega, HB0.out.2.2.1, fun i hi => by omega⟩
    case round =>
      clear HB0
      obtain ⟨j, hg, rfl, hnx, hsz, hq1, hall⟩ := hrel
      have HAL := hide hall
      clear hall
      by_cases hlt : j < CA
      · obtain ⟨b, off, rfl, -, hb, hcells⟩ := HCF.out (by omega)
        obtain ⟨g0, g1, g2, -⟩ := hcells j hlt
        have u0 := (hnx.cell (p := ⟨b, off + j * 3, none⟩) hb).trans g0
        have u1 := (hnx.cell (p := ⟨b, off + j * 3 + 1, none⟩) hb).trans g1
        have u2 := (hnx.cell (p := ⟨b, off + j * 3 + 2, none⟩) hb).trans g2
        clear g0 g1 g2 hcells
        obtain ⟨c, hcc⟩ : ∃ c, cAt x.cells j = c := ⟨_, rfl⟩
        have HCC := hide hcc
        rw [hcc] at u0 u1 u2
        clear hcc
        generalize c.2.2.length = nb at *
        generalize ab j = ab0 at *
        generalize cb j = cb0 at *
        have CI := hide (isCount_any c ab0 nb cb0 (wr.alloc (.cells #[.int .i64 c.1, .int .i64 c.2.1, .slice ab0 nb cb0] 36)))
        have B1 := one_alloc wr (.cells #[.int .i64 c.1, .int .i64 c.2.1, .slice ab0 nb cb0] 36)
        have HB1 := hide B1
        clear B1
        go_wp2_with fail
        refine CI.out.mono ?_
        rintro e w1 ⟨rfl, hb1⟩
        have B2 : Below wr.heap.size wr w1 := HB1.out.trans (hb1.mono HB1.out.size)
        have hnx2 := hnx.trans (B2.mono hnx.size)
        clear CI HB1 hb1 u0 u1 u2
        by_cases hC : isC c = true
        · rw [hC]
          have HN : Hid (∀ i, i < j + 1 → isC (cAt x.cells i) = true) := fun i hi => by
            rcases Nat.lt_succ_iff_lt_or_eq.1 hi with h | rfl
            · exact HAL.out i h
            · rw [HCC.out]; exact hC
          have hq2 := (B2.cell (p := ⟨w.heap.size, 1, none⟩) hsz).trans hq1
          have hsz2 := Nat.lt_of_lt_of_le hsz B2.size
          clear hC HAL B2
          go_wp2
          go_roundg (CA - (j + 1))
          case rel => exact ⟨j + 1, by omega, by go_num, hnx2, hsz2, hq2, HN.out⟩
          case measure => omega
        · have hC' : isC c = false := by simpa using hC
          rw [hC']
          have HE5 : Hid (shpE x = 5) := by
            unfold Hid
            rw [HE.out, if_neg h1, if_pos]
            intro h
            exact hC (by rw [← HCC.out]; exact HALL.out.1 h j hlt)
          clear hC hC' HAL B2
          go_wp2
          go_ret2
          exact ⟨⟨none, 0, by rw [HE5.out]; rfl, fun h => absurd h (by rw [HE5.out]; decide)⟩, hnx2⟩
      · have hje : j = CA := by omega
        subst hje
        have hA : allC x := HALL.out.2 HAL.out
        by_cases h8 : 8 < j
        · have HE5 : Hid (shpE x = 6) := by unfold Hid; rw [HE.out, if_neg h1, if_neg (fun k => k hA), if_pos h8]
          have h8' : (8 : Int) < (j : Int) := by omega
          clear HCF HAL HNOL HALL HSH HE
          go_wp2
          go_ret2
          exact ⟨⟨none, 0, by rw [HE5.out]; rfl, fun h => absurd h (by rw [HE5.out]; decide)⟩, hnx⟩
        · have h8' : ¬ (8 : Int) < (j : Int) := by omega
          have mk := run_make_row' (P := Try.prog) 22 3 (.int .i64 0) 8 Try.underlying22 int3 rfl .i64 .i64 j (by omega) (by omega)
          have RM : Hid ((wr.alloc (.cells (madeCells #[.int .i64 0] j) 3)).rowIs wr.heap.size 3 j (toF (shN x) 0)) := (World.rowIs_made wr (.int .i64 0) j 3).congr fun i hi => by unfold toF; rw [if_neg (by omega)]
          have BM := one_alloc wr (.cells (madeCells #[.int .i64 0] j) 3)
          have q1' := (BM.cell (p := ⟨w.heap.size, 1, none⟩) hsz).trans hq1
          have HST : Hid (Below w.heap.size w (wr.alloc (.cells (madeCells #[.int .i64 0] j) 3)) ∧ wr.heap.size < (wr.alloc (.cells (madeCells #[.int .i64 0] j) 3)).heap.size) := ⟨hnx.trans (BM.mono hnx.size), by simp⟩
          have HBW : Hid (w.heap.size ≤ wr.heap.size) := hnx.size
          obtain ⟨B, hB⟩ : ∃ B, wr.heap.size = B := ⟨_, rfl⟩
          have HBB := hide hB
          rw [hB] at RM HBW HST
          clear HAL BM hnx HALL
          go_wp2
          clear mk q1' hq1 hsz hB
          go_loopg [35] j (fun g i wr => ∃ k : Nat, g + k = j ∧ i = .int .i64 (k : Int) ∧ Below w.heap.size w wr ∧ B < wr.heap.size ∧ wr.rowIs B 3 j (toF (shN x) k) ∧ ∀ i, i < k → (cAt x.cells i).2.1 ≤ 16384)
          case atStart => exact ⟨0, rfl, rfl, HST.out.1, HST.out.2, RM.out, fun i hi => by omega⟩
          case round =>
            clear HST RM HBB
            obtain ⟨k, hg2, rfl, hnx, hBl, hr, hall⟩ := hrel
            have HAL := hide hall
            clear hall
            by_cases hlt2 : k < j
            · obtain ⟨b, off, rfl, -, hb, hcells⟩ := HCF.out (by omega)
              obtain ⟨g0, g1, g2, -⟩ := hcells k hlt2
              have u0 := (hnx.cell (p := ⟨b, off + k * 3, none⟩) hb).trans g0
              have u1 := (hnx.cell (p := ⟨b, off + k * 3 + 1, none⟩) hb).trans g1
              have u2 := (hnx.cell (p := ⟨b, off + k * 3 + 2, none⟩) hb).trans g2
              have HNk := hide (HSH.out.2 k hlt2)
              clear g0 g1 g2 hcells
              obtain ⟨c, hcc⟩ : ∃ c, cAt x.cells k = c := ⟨_, rfl⟩
              have HCC := hide hcc
              rw [hcc] at u0 u1 u2 HNk
              clear hcc
              generalize c.2.2.length = nb at *
              generalize ab k = ab0 at *
              generalize cb k = cb0 at *
              have B1 := one_alloc wr (.cells #[.int .i64 c.1, .int .i64 c.2.1, .slice ab0 nb cb0] 36)
              have hr1 : (wr.alloc (.cells #[.int .i64 c.1, .int .i64 c.2.1, .slice ab0 nb cb0] 36)).rowIs B 3 j (toF (shN x) k) := hr.of_block (B1.block B hBl)
              have z0 := hr1.cell (i := k) hlt2
              have y0 := hr1.frozen k
              have hnx2 := hnx.trans (B1.mono hnx.size)
              have hBl2 := Nat.lt_of_lt_of_le hBl B1.size
              have BX := one_alloc (wr.setCell ⟨B, k, none⟩ (.int .i64 c.2.1)) (.cells #[.int .i64 c.1, .int .i64 c.2.1, .slice ab0 nb cb0] 36)
              have hsx : (wr.setCell ⟨B, k, none⟩ (.int .i64 c.2.1)).heap.size = wr.heap.size := by simp
              have HS : Hid (((wr.setCell ⟨B, k, none⟩ (.int .i64 c.2.1)).alloc (.cells #[.int .i64 c.1, .int .i64 c.2.1, .slice ab0 nb cb0] 36)).rowIs B 3 j (toF (shN x) (k + 1))) := ((hr.set k (.int .i64 c.2.1)).congr (g := toF (shN x) (k + 1)) (fun i _ => by rw [toF_step, HNk.out])).of_block (BX.block B (by rw [hsx]; exact hBl))
              have HNX : Hid (Below w.heap.size w ((wr.setCell ⟨B, k, none⟩ (.int .i64 c.2.1)).alloc (.cells #[.int .i64 c.1, .int .i64 c.2.1, .slice ab0 nb cb0] 36))) := (hnx.setCell (p := ⟨B, k, none⟩) HBW.out (.int .i64 c.2.1)).trans (BX.mono (by rw [hsx]; exact hnx.size))
              have HBL : Hid (B < ((wr.setCell ⟨B, k, none⟩ (.int .i64 c.2.1)).alloc (.cells #[.int .i64 c.1, .int .i64 c.2.1, .slice ab0 nb cb0] 36)).heap.size) := Nat.lt_of_lt_of_le (by rw [hsx]; exact hBl) BX.size
              have HN1 := hide hnx2
              generalize toF (shN x) k k = y at *
              clear hr hr1 B1 hBl2 hnx2 BX hsx
              by_cases hbig : 16384 < c.2.1
              · have HE5 : Hid (shpE x = 12) := by
                  unfold Hid
                  rw [HE.out, if_neg h1, if_neg (fun h => h hA), if_neg h8, if_pos]
                  intro h
                  have := HNOL.out.1 h k hlt2
                  rw [HCC.out] at this
                  omega
                clear HS HNX HBL HE
                go_wp2
                go_ret2
                exact ⟨⟨none, 0, by rw [HE5.out]; rfl, fun h => absurd h (by rw [HE5.out]; decide)⟩, HN1.out⟩
              · have HN : Hid (∀ i, i < k + 1 → (cAt x.cells i).2.1 ≤ 16384) := fun i hi => by
                  rcases Nat.lt_succ_iff_lt_or_eq.1 hi with h | rfl
                  · exact HAL.out i h
                  · rw [HCC.out]; omega
                go_wp2
                go_roundg (j - (k + 1))
                case rel => exact ⟨k + 1, by omega, by go_num, HNX.out, HBL.out, HS.out, HN.out⟩
                case measure => omega
            · have hke : k = j := by omega
              subst hke
              have HE5 : Hid (shpE x = 0) := by unfold Hid; rw [HE.out, if_neg h1, if_neg (fun h => h hA), if_neg h8, if_neg (fun h => h (HNOL.out.2 HAL.out))]
              have RR : Hid (Row w.heap.size wr (some ⟨B, 0, none⟩) (shN x)) := by
                have hr' : wr.rowIs B 3 (shN x).length (toF (shN x) (shN x).length) := by rw [HSH.out.1]; exact hr
                refine ⟨by rw [HSH.out.1]; omega, Or.inr ⟨B, 0, rfl, HBW.out, hBl, fun i hi => ?_⟩⟩
                rw [Nat.zero_add, hr'.cell hi]
                unfold toF
                rw [if_pos hi]
                rfl
              clear hr HCF HAL HNOL HE
              go_wp2
              go_ret2
              exact ⟨⟨some ⟨B, 0, none⟩, k, by rw [HE5.out, if_pos rfl, HSH.out.1]; rfl, fun _ => RR.out⟩, hnx⟩
end Go.Proofs.Ytmjncdhahdpplaa
