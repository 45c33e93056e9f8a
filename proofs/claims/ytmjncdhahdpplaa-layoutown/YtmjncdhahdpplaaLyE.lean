/-
  The contract of layer 5's gather: the cells that the steps lead to, in the order of the places.
-/
import Derived.Test.YtmjncdhahdpplaaLyD
namespace Go.Proofs.Ytmjncdhahdpplaa
open Go.ChangeShapes Go.WideShapes Go.ChangeAt Go.RowKit
set_option linter.unusedVariables false
set_option maxRecDepth 100000
set_option maxHeartbeats 8000000 in
theorem gather_any (n lo : Nat) (l : List Int) (cs : List Ce) (a1 a2 aS : Option Addr) (c1 c2 cS : Nat) (st : Int) (S : List Int) (w : World) (hx : ArIn (n + 1) lo w (.mk l cs) (.agg #[.slice a1 l.length c1, .slice a2 cs.length c2])) (hlo : lo ≤ w.heap.size) (hl8 : l.length ≤ 8) (hc16 : cs.length ≤ 16384)
    (RS : ∃ lo', Row lo' w aS S) (hS : S.length = l.length) (H : Leads l cs.length st S) :
    Calls Try.prog 63 #[.agg #[.slice a1 l.length c1, .slice a2 cs.length c2], .int .i64 st, .slice aS l.length cS] w fun e w' => (∃ v, e = .returned v ∧ ArIn (n + 1) lo w' (.mk l (gathL l cs st S)) v) ∧ Below w.heap.size w w' := by
  obtain ⟨lo', RS⟩ := RS
  obtain ⟨b1, k1, b2, k2, hv, R, hl, hc⟩ := hx
  simp only [Ar.shape, Ar.cells, Value.agg.injEq, Array.mk.injEq, List.cons.injEq, Value.slice.injEq, and_true, true_and] at hv R hl hc
  obtain ⟨⟨rfl, rfl⟩, ⟨rfl, rfl⟩⟩ := hv
  obtain ⟨ab, cb, hcf⟩ := cells_fn (n := n) (lo := lo) (w := w) (cs := cs) (a2 := a2) hc
  have hrow := @row_at _ _ _ _ R
  have hrowS := @row_at _ _ _ _ RS
  have mk1 := make_cells cs.length (by omega)
  have mk2 := run_make_row' (P := Try.prog) 22 3 (.int .i64 0) 8 Try.underlying22 int3 rfl .i64 .i64 l.length (by omega) (by omega)
  obtain ⟨W4, e4⟩ : ∃ W4, W4 = (((w.alloc (.cells #[.slice a1 l.length c1, .slice a2 cs.length c2] 25)).alloc (.cells #[.slice none 0 0, .slice none 0 0] 25)).alloc (.cells (madeCells #[.int .i64 0, .int .i64 0, .slice none 0 0] (cs.length * 3)) 36)).alloc (.cells (madeCells #[.int .i64 0] l.length) 3) := ⟨_, rfl⟩
  have B4 : Below w.heap.size w W4 := by rw [e4]; exact four_allocs _ _ _ _ _
  have s4 : W4.heap.size = w.heap.size + 4 := by rw [e4]; exact size_four _ _ _ _ _
  obtain ⟨h0, h1, h2, h3⟩ := heap_four w (.cells #[.slice a1 l.length c1, .slice a2 cs.length c2] 25) (.cells #[.slice none 0 0, .slice none 0 0] 25) (.cells (madeCells #[.int .i64 0, .int .i64 0, .slice none 0 0] (cs.length * 3)) 36) (.cells (madeCells #[.int .i64 0] l.length) 3)
  rw [← e4] at h0 h1 h2 h3
  have RC : Hid (W4.rowIs (w.heap.size + 2) 36 (cs.length * 3) (gF (fun i => (.int .i64 (cAt cs (st + dot S (digits l i)).toNat).1, .int .i64 (cAt cs (st + dot S (digits l i)).toNat).2.1, .slice (ab (st + dot S (digits l i)).toNat) (cAt cs (st + dot S (digits l i)).toNat).2.2.length (cb (st + dot S (digits l i)).toNat))) 0)) := by
    obtain ⟨c, g1, g2, g3⟩ := rowIs_made3 W4 (cs.length * 3)
    have e : c = madeCells #[.int .i64 0, .int .i64 0, .slice none 0 0] (cs.length * 3) := by
      have g4 : (W4.alloc (.cells (madeCells #[.int .i64 0, .int .i64 0, .slice none 0 0] (cs.length * 3)) 36)).heap[W4.heap.size]? = some (.cells (madeCells #[.int .i64 0, .int .i64 0, .slice none 0 0] (cs.length * 3)) 36) := by
        show (W4.heap.push _)[W4.heap.size]? = _
        simp
      rw [g4] at g1
      simp only [Option.some.injEq, Obj.cells.injEq, true_and] at g1
      exact g1.1.symm
    exact ⟨c, by rw [e]; exact h2, g2, fun i hi => by rw [g3 i hi, gF_zero]⟩
  have RA : Hid (Soft W4 (w.heap.size + 3) (List.replicate l.length 0)) := by
    unfold Soft Hid
    rw [List.length_replicate]
    exact ⟨_, h3, size_madeCells _ _, fun i hi => by simp [madeCells, hi, Nat.mod_one, gI]⟩
  have Q : Hid (W4.cell? ⟨w.heap.size, 0, none⟩ = some (.slice a1 l.length c1) ∧ W4.cell? ⟨w.heap.size, 1, none⟩ = some (.slice a2 cs.length c2) ∧ W4.cell? ⟨w.heap.size + 1, 0, none⟩ = some (.slice none 0 0) ∧ W4.cell? ⟨w.heap.size + 1, 1, none⟩ = some (.slice none 0 0) ∧ W4.frozen? ⟨w.heap.size + 1, 0, none⟩ = false ∧ W4.frozen? ⟨w.heap.size + 1, 1, none⟩ = false) :=
    ⟨cell_of_heap h0 rfl, cell_of_heap h0 rfl, cell_of_heap h1 rfl, cell_of_heap h1 rfl, frozen_of_heap h1, frozen_of_heap h1⟩
  have HB4 := hide B4
  have HS4 := hide s4
  have HR := hide R
  have HH := hide H
  have HCF := hide hcf
  have HROW : Hid (∀ j, j < l.length → ∃ b off, a1 = some ⟨b, off, none⟩ ∧ b < w.heap.size ∧ w.cell? ⟨b, off + j, none⟩ = some (.int .i64 (gI l j))) := fun j h => hrow h
  have HROWS : Hid (∀ j, j < S.length → ∃ b off, aS = some ⟨b, off, none⟩ ∧ b < w.heap.size ∧ w.cell? ⟨b, off + j, none⟩ = some (.int .i64 (gI S j))) := fun j h => hrowS h
  clear h0 h1 h2 h3 s4 B4 hc hcf H R hrow hrowS hl
  generalize hT : (fun i : Nat => ((.int .i64 (cAt cs (st + dot S (digits l i)).toNat).1, .int .i64 (cAt cs (st + dot S (digits l i)).toNat).2.1, .slice (ab (st + dot S (digits l i)).toNat) (cAt cs (st + dot S (digits l i)).toNat).2.2.length (cb (st + dot S (digits l i)).toNat)) : Value × Value × Value)) = T at RC
  have HTT := hide hT
  clear hT
  go_enter Try.func63, Try.ntmps63
  go_wp2
  go_step3
  go_wp2
  go_step3
  go_wp2
  rw [← e4]
  clear mk1 mk2 e4
  go_loopg [9, 23] cs.length (fun g fv i wr => ∃ (j : Nat) (F : Int) (A : List Int), g + j = cs.length ∧ i = .int .i64 (j : Int) ∧ fv = .int .i64 F ∧ A.length = l.length ∧ Soft wr (w.heap.size + 3) A ∧ wr.rowIs (w.heap.size + 2) 36 (cs.length * 3) (gF T j) ∧ Two W4 (w.heap.size + 2) (w.heap.size + 3) wr ∧ (j < cs.length → A = digits l j ∧ F = st + dot S A))
  case atStart => exact ⟨0, st, _, rfl, rfl, rfl, List.length_replicate, RA.out, RC.out, Two.refl _ _ _, fun h => ⟨(digits_zero l).symm, by rw [dot_zero]; omega⟩⟩
  case round =>
    clear RA RC
    obtain ⟨j, F, A, hg, rfl, rfl, hA, hrA, hrC, htw, hjj⟩ := hrel
    obtain ⟨q0, q1, q2, q3, q4, q5⟩ := Q.out
    have t0 := htw.cell (b := w.heap.size) (by omega) (by omega) q0
    have t1 := htw.cell (b := w.heap.size) (by omega) (by omega) q1
    clear q0 q1
    by_cases hlt : j < cs.length
    · clear q2 q3 q4 q5
      obtain ⟨rfl, hFe⟩ := hjj hlt
      obtain ⟨hpos, hprod, hSb, hlead⟩ := HH.out (by omega)
      obtain ⟨b, off, rfl, hlob, hb, hcells⟩ := HCF.out (by omega)
      obtain ⟨hin, hpl⟩ := digits_in (l := l) hpos (n := (j : Int)) (by omega) (by omega)
      obtain ⟨hF0, hF1⟩ := hlead _ hin
      rw [← hFe] at hF0 hF1
      obtain ⟨p, rfl⟩ : ∃ p : Nat, F = (p : Int) := ⟨F.toNat, by omega⟩
      have hBW : Below w.heap.size w wr := htw.below HB4.out (by omega) (by omega)
      obtain ⟨c0, c1', c2', -⟩ := hcells p (by omega)
      have u0 := (hBW.cell (p := ⟨b, off + p * 3, none⟩) hb).trans c0
      have u1 := (hBW.cell (p := ⟨b, off + p * 3 + 1, none⟩) hb).trans c1'
      have u2 := (hBW.cell (p := ⟨b, off + p * 3 + 2, none⟩) hb).trans c2'
      have HTj : Hid (T j = (.int .i64 (cAt cs p).1, .int .i64 (cAt cs p).2.1, .slice (ab p) (cAt cs p).2.2.length (cb p))) := by
        unfold Hid
        rw [← HTT.out]
        simp only [← hFe, Int.toNat_natCast]
      clear c0 c1' c2' hcells
      generalize (cAt cs p).1 = kk at *
      generalize (cAt cs p).2.1 = NN at *
      generalize (cAt cs p).2.2.length = nb at *
      generalize ab p = abp at *
      generalize cb p = cbp at *
      have z0 := hrC.cell (i := j * 3) (by omega)
      have z1 := hrC.cell (i := j * 3 + 1) (by omega)
      have z2 := hrC.cell (i := j * 3 + 2) (by omega)
      have y0 := hrC.frozen (j * 3)
      have y1 := hrC.frozen (j * 3 + 1)
      have y2 := hrC.frozen (j * 3 + 2)
      have HS := hide ((((hrC.set (j * 3) (.int .i64 kk)).set (j * 3 + 1) (.int .i64 NN)).set (j * 3 + 2) (.slice abp nb cbp)).congr (g := gF T (j + 1)) (fun i _ => by rw [gF_step T j i, HTj.out]))
      have HA3 : Hid (Soft (((wr.setCell ⟨w.heap.size + 2, j * 3, none⟩ (.int .i64 kk)).setCell ⟨w.heap.size + 2, j * 3 + 1, none⟩ (.int .i64 NN)).setCell ⟨w.heap.size + 2, j * 3 + 2, none⟩ (.slice abp nb cbp)) (w.heap.size + 3) (digits l j)) := by
        refine World.rowIs.of_block hrA ?_
        rw [Below.heap_setCell _ _ _ _ (by show w.heap.size + 3 ≠ w.heap.size + 2; omega), Below.heap_setCell _ _ _ _ (by show w.heap.size + 3 ≠ w.heap.size + 2; omega), Below.heap_setCell _ _ _ _ (by show w.heap.size + 3 ≠ w.heap.size + 2; omega)]
      have HTW := hide (((htw.set1 (j * 3) (.int .i64 kk)).set1 (j * 3 + 1) (.int .i64 NN)).set1 (j * 3 + 2) (.slice abp nb cbp))
      have HIN := hide (And.intro hin (And.intro hpl hFe))
      have HPP := hide (And.intro hpos (And.intro hprod (And.intro hSb hlead)))
      generalize gF T j (j * 3) = g0 at *
      generalize gF T j (j * 3 + 1) = g1 at *
      generalize gF T j (j * 3 + 2) = g2 at *
      clear hrC hrA htw hjj hin hpl hFe hpos hprod hSb hlead HTj HCF t0
      go_wp2
      clear z0 z1 z2 y0 y1 y2 u0 u1 u2 t1 hBW
      go_loopg [9, 11] l.length (fun g fv ax wr => ∃ (F : Int) (A : List Int), g ≤ l.length ∧ ax = .int .i64 ((g : Int) - 1) ∧ fv = .int .i64 F ∧ A.length = l.length ∧ Soft wr (w.heap.size + 3) A ∧ wr.rowIs (w.heap.size + 2) 36 (cs.length * 3) (gF T (j + 1)) ∧ Two W4 (w.heap.size + 2) (w.heap.size + 3) wr ∧ inAxes l A ∧ place l A + prodL (l.drop g) = (j : Int) + 1 ∧ F = st + dot S A)
      case atStart => exact ⟨(p : Int), digits l j, Nat.le_refl _, by go_num, rfl, digits_length _ _, HA3.out, HS.out, HTW.out, HIN.out.1, by rw [HIN.out.2.1]; simp [prodL], HIN.out.2.2⟩
      case round =>
        clear HA3 HS HTW HIN
        obtain ⟨F, A, hgl, rfl, rfl, hA, hrA, hrC, htw, hin, hpl, hFe⟩ := hrel
        have HPL := hide hpl
        have HFE := hide hFe
        have HIN := hide hin
        obtain ⟨hF0, hF1⟩ := HPP.out.2.2.2 A hin
        rw [← hFe] at hF0 hF1
        clear hpl hFe
        cases gk with
        | zero =>
          have HE : Hid (¬ j + 1 < cs.length) := by
            have h1 := HPL.out
            have h2 := (place_bound hin).2.1
            have h3 := HPP.out.2.1
            rw [List.drop_zero, h3] at h1
            show ¬ _
            omega
          have HRA := hide hrA
          have HRC := hide hrC
          clear hrA hrC hin
          go_wp2
          go_roundg (cs.length - (j + 1))
          case rel => exact ⟨j + 1, F, A, by omega, by go_num, rfl, hA, HRA.out, HRC.out, htw, fun h => absurd h HE.out⟩
          case measure => omega
        | succ m =>
          obtain ⟨b1, o1, rfl, hb1, hl1⟩ := HROW.out m (by omega)
          obtain ⟨bS, oS, rfl, hbS, hlS⟩ := HROWS.out m (by omega)
          have e1 : ((m + 1 : Nat) : Int) - 1 = (m : Int) := by omega
          rw [e1]
          have hBW : Below w.heap.size w wr := htw.below HB4.out (by omega) (by omega)
          have hin2 := (inAxes_gI l A).1 hin
          obtain ⟨hal0, hal1⟩ := hin2.2 m (by omega)
          obtain ⟨hsi0, hsi1⟩ := HPP.out.2.2.1 m (by omega)
          have hla1 : gI l m ≤ 16384 := by
            have := prod_of_mem HPP.out.1 (getD_mem (l := l) (k := m) (by omega))
            have h3 := HPP.out.2.1
            unfold gI
            omega
          have hc := World.rowIs.cell (i := m) hrA (by omega)
          have hfz := World.rowIs.frozen hrA m
          have tw1 := htw.set2 m (.int .i64 (gI A m + 1))
          have q0 := Q.out.1
          have x0 := tw1.cell (b := w.heap.size) (by omega) (by omega) q0
          have BW1 : Below w.heap.size w (wr.setCell ⟨w.heap.size + 3, m, none⟩ (.int .i64 (gI A m + 1))) := tw1.below HB4.out (by omega) (by omega)
          have x1 := (BW1.cell (p := ⟨b1, o1 + m, none⟩) hb1).trans hl1
          have x2 := (BW1.cell (p := ⟨bS, oS + m, none⟩) hbS).trans hlS
          have dS : dot S (A.set m (gI A m + 1)) = dot S A + gI S m * 1 := by rw [dot_set _ _ _ _ (by omega) (by omega)]; congr 2; omega
          have dZ : dot S (A.set m 0) = dot S A - gI S m * gI A m := by rw [dot_set _ _ _ _ (by omega) (by omega), Int.mul_sub]; omega
          have HD := hide (And.intro dS dZ)
          have HROWC : Hid (∀ v, (wr.setCell ⟨w.heap.size + 3, m, none⟩ v).rowIs (w.heap.size + 2) 36 (cs.length * 3) (gF T (j + 1))) := fun v => hrC.of_block (Below.heap_setCell _ _ _ _ (by show w.heap.size + 2 ≠ w.heap.size + 3; omega))
          by_cases hlt2 : gI A m + 1 < gI l m
          · have HTK := hide (tick_done (k := m) (by omega) hin HPL.out hlt2)
            have HSO := hide (hrA.set m (gI A m + 1))
            have HTW := hide tw1
            generalize gI A m = al at *
            generalize gI l m = la at *
            generalize gI S m = si at *
            clear hrA hrC hin hin2 htw tw1 BW1 hl1 hlS q0 dS dZ
            go_wp2
            go_region
            all_goals
              go_wp2
              go_roundg (cs.length - (j + 1))
              case rel => exact ⟨j + 1, F + si, A.set m (al + 1), by omega, by go_num, by go_num, by simpa using hA, HSO.out, HROWC.out _, HTW.out.drew, fun _ => ⟨HTK.out.2, by rw [HD.out.1, HFE.out]; omega⟩⟩
              case measure => omega
          · have HTK := hide (tick_on (k := m) (by omega) hin HPL.out hlt2)
            have HSO := hide (hrA.set m 0)
            have HTW := hide (htw.set2 m (.int .i64 0))
            have HSO2 : Hid (Soft ((wr.setCell ⟨w.heap.size + 3, m, none⟩ (.int .i64 (gI A m + 1))).setCell ⟨w.heap.size + 3, m, none⟩ (.int .i64 0)) (w.heap.size + 3) (A.set m 0)) := by
              have := (hrA.set m (gI A m + 1)).set m 0
              rw [List.set_set] at this
              exact this
            have HROWC2 : Hid (∀ u v, ((wr.setCell ⟨w.heap.size + 3, m, none⟩ u).setCell ⟨w.heap.size + 3, m, none⟩ v).rowIs (w.heap.size + 2) 36 (cs.length * 3) (gF T (j + 1))) := fun u v => (HROWC.out u).of_block (Below.heap_setCell _ _ _ _ (by show w.heap.size + 2 ≠ w.heap.size + 3; omega))
            have HTW2 := hide (tw1.set2 m (.int .i64 0))
            have hP : -268435456 ≤ gI S m * (gI A m + 1) ∧ gI S m * (gI A m + 1) ≤ 268435456 := by
              have a1 := Int.mul_le_mul_of_nonneg_right hsi1 (show 0 ≤ gI A m + 1 by omega)
              have a2 := Int.mul_le_mul_of_nonneg_right hsi0 (show 0 ≤ gI A m + 1 by omega)
              omega
            have HM : Hid (gI S m * (gI A m + 1) = gI S m * gI A m + gI S m) := by unfold Hid; rw [Int.mul_add, Int.mul_one]
            obtain ⟨hP0, hP1⟩ := hP
            generalize gI A m = al at *
            generalize gI l m = la at *
            generalize gI S m = si at *
            clear hrA hrC hin hin2 htw tw1 BW1 hl1 hlS q0 dS dZ
            go_wp2
            go_region
            all_goals
              go_wp2
              go_region
              all_goals
                go_wp2
                go_roundg m
                case rel => first
                  | exact ⟨F + si - si * (al + 1), A.set m 0, by omega, by go_num, by go_num, by simpa using hA, HSO.out, HROWC.out _, HTW.out.drew.drew, HTK.out.1, HTK.out.2, by rw [HD.out.2, HFE.out, HM.out]; omega⟩
                  | exact ⟨F + si - si * (al + 1), A.set m 0, by omega, by go_num, by go_num, by simpa using hA, HSO2.out, HROWC2.out _ _, HTW2.out.drew.drew, HTK.out.1, HTK.out.2, by rw [HD.out.2, HFE.out, HM.out]; omega⟩
                case measure => omega
    · have hje : j = cs.length := by omega
      subst hje
      have t2 := htw.cell (b := w.heap.size + 1) (by omega) (by omega) q2
      have t3 := htw.cell (b := w.heap.size + 1) (by omega) (by omega) q3
      have t4 := htw.frozen (b := w.heap.size + 1) (by omega) (by omega) q4
      have t5 := htw.frozen (b := w.heap.size + 1) (by omega) (by omega) q5
      have HT := hide (set_two t2 t3 (.slice a1 l.length c1) (.slice (some ⟨w.heap.size + 2, 0, none⟩) cs.length cs.length))
      have HFIN : Hid (∀ u v, (ArIn (n + 1) lo ((wr.setCell ⟨w.heap.size + 1, 0, none⟩ u).setCell ⟨w.heap.size + 1, 1, none⟩ v) (.mk l (gathL l cs st S)) (.agg #[.slice a1 l.length c1, .slice (some ⟨w.heap.size + 2, 0, none⟩) cs.length cs.length])) ∧ Below w.heap.size w ((wr.setCell ⟨w.heap.size + 1, 0, none⟩ u).setCell ⟨w.heap.size + 1, 1, none⟩ v)) := by
        intro u v
        have BW : Below w.heap.size w ((wr.setCell ⟨w.heap.size + 1, 0, none⟩ u).setCell ⟨w.heap.size + 1, 1, none⟩ v) := ((htw.below HB4.out (by omega) (by omega)).setCell (p := ⟨w.heap.size + 1, 0, none⟩) (by show w.heap.size ≤ w.heap.size + 1; omega) u).setCell (p := ⟨w.heap.size + 1, 1, none⟩) (by show w.heap.size ≤ w.heap.size + 1; omega) v
        have hr' : ((wr.setCell ⟨w.heap.size + 1, 0, none⟩ u).setCell ⟨w.heap.size + 1, 1, none⟩ v).rowIs (w.heap.size + 2) 36 (cs.length * 3) (gF T cs.length) := hrC.of_block (by rw [Below.heap_setCell _ _ _ _ (by show w.heap.size + 2 ≠ w.heap.size + 1; omega), Below.heap_setCell _ _ _ _ (by show w.heap.size + 2 ≠ w.heap.size + 1; omega)])
        refine ⟨arIn_mk (x := .mk l (gathL l cs st S)) (HR.out.next BW) (by simp only [Ar.cells, gathL, mkCs_len]; omega) ?_ rfl (by simp only [Ar.cells, gathL, mkCs_len]), BW⟩
        by_cases h0 : 0 < cs.length
        · obtain ⟨hpos, hprod, hSb, hlead⟩ := HH.out h0
          obtain ⟨b, off, -, hlob, hb, hcells⟩ := HCF.out h0
          have hs4 := HS4.out
          have hsz := htw.size
          refine Or.inr ⟨w.heap.size + 2, 0, rfl, by omega, by simp; omega, fun i hi => ?_⟩
          simp only [Ar.cells, gathL, mkCs_len] at hi
          obtain ⟨hin, -⟩ := digits_in (l := l) hpos (n := (i : Int)) (by omega) (by omega)
          obtain ⟨hF0, hF1⟩ := hlead _ hin
          obtain ⟨-, -, -, hce⟩ := hcells (st + dot S (digits l i)).toNat (by omega)
          obtain ⟨g0, g1, g2⟩ := gF_at T cs.length i hi
          rw [Nat.zero_add]
          refine ⟨_, _, _, hr'.cell (i := i * 3) (by omega), hr'.cell (i := i * 3 + 1) (by omega), hr'.cell (i := i * 3 + 2) (by omega), ?_⟩
          rw [g0, g1, g2, ← HTT.out]
          simp only [Ar.cells, gathL]
          rw [mkCs_at _ _ _ hi]
          exact hce.mono (Nat.le_refl _) BW fun x v h => h.next BW
        · refine Or.inl (List.eq_nil_of_length_eq_zero ?_)
          simp only [Ar.cells, gathL, mkCs_len]
          omega
      clear hrA hrC htw q2 q3 q4 q5 hjj HCF HH HR HROW HROWS HB4 HS4 HTT Q
      go_wp2
      rw [Exit.noGoto_ret]
      exact bodyPost_ret (v := .agg #[.slice a1 l.length c1, .slice (some ⟨w.heap.size + 2, 0, none⟩) cs.length cs.length]) (by simp [results, Try.results63, go_sem, HT.out.1, HT.out.2]) rfl ⟨⟨_, rfl, (HFIN.out _ _).1⟩, (HFIN.out _ _).2⟩
end Go.Proofs.Ytmjncdhahdpplaa
