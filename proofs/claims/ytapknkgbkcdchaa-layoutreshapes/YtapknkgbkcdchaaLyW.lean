/-
  The contract of the document's Reshape: the same answer, with the argument's own boxes in it.
-/
import Derived.Test.YtapknkgbkcdchaaLyV
namespace Go.Proofs.Ytapknkgbkcdchaa
open Go.ChangeShapes Go.WideShapes Go.ChangeAt Go.RowKit
set_option linter.unusedVariables false
theorem owns_form1 {w : World} {base n : Nat} {e : TypeId} {v : Value} {xs : List Value} (h : w.ownsRow base e 1 v n xs) (hn : 0 < n) : ∃ g cap, v = .slice (some ⟨g, 0, none⟩) n cap ∧ base ≤ g ∧ g < w.heap.size := by
  rcases h.2 with ⟨rfl, h0⟩ | ⟨g, cap, cur, rfl, hb, hg, -⟩
  · omega
  · exact ⟨g, cap, rfl, hb, lt_of_block hg⟩
theorem owns_slice {w : World} {base n size : Nat} {e : TypeId} {v : Value} {xs : List Value} (h : w.ownsRow base e size v n xs) : ∃ a cap, v = .slice a n cap := by
  rcases h.2 with ⟨rfl, h0⟩ | ⟨g, cap, cur, rfl, hb, hg, -⟩
  · exact ⟨none, 0, by rw [h0]⟩
  · exact ⟨_, _, rfl⟩
set_option maxHeartbeats 8000000 in
theorem rreshape_any {n m lo lo' : Nat} {x y : Ar} {va vb : Value} {w : World} (hx : ArIn (m + 1) lo w x va) (hy : ArIn (n + 1) lo' w y vb) : Calls Try.prog 15 #[va, vb] w fun e w' => Gives2 (n + 1) 0 (reshR x y).1 (reshR x y).2 w e w' := by
  obtain ⟨a1, c1, a2, c2, rfl, R, hc⟩ := hx.form
  obtain ⟨b1, d1, b2, d2, rfl, R', hc'⟩ := hy.form
  have I := in3_new w (.slice a1 x.shape.length c1) (.slice a2 x.cells.length c2) (.slice b1 y.shape.length d1) (.slice b2 y.cells.length d2)
  obtain ⟨W3, e3⟩ : ∃ W3, ((w.alloc (.cells #[.slice a1 x.shape.length c1, .slice a2 x.cells.length c2] 25)).alloc (.cells #[.slice b1 y.shape.length d1, .slice b2 y.cells.length d2] 25)).alloc (.cells #[.slice none 0 0, .slice none 0 0] 25) = W3 := ⟨_, rfl⟩
  rw [e3] at I
  have q0 := I.q0
  have q1 := I.q1
  have CK := rcheck_any (m + 1) x _ _ W3 (hx.next I.bel)
  have HI := hide I
  have HX := hide hx
  have HY := hide hy
  have HCX := hide hc
  have HCY := hide hc'
  have hlX := R.1
  have hE : reshE x y = if chkA 8 x ≠ 0 then chkA 8 x else if chkA 8 y ≠ 0 then chkA 8 y else if shpE x ≠ 0 then shpE x else if sizeE (shN x) ≠ 0 then sizeE (shN x) else if 0 < sizeV (shN x) ∧ y.cells.length = 0 then 7 else 0 := rfl
  have HE := hide hE
  have HRE : Hid (∀ E, reshE x y = E → ¬ E = 0 → reshR x y = (zeroA, E)) := fun E h1 h2 => by unfold reshR; rw [h1, if_neg h2]
  clear hE
  obtain ⟨E1, hE1⟩ : ∃ E1, chkA 8 x = E1 := ⟨_, rfl⟩
  obtain ⟨E2, hE2⟩ : ∃ E2, chkA 8 y = E2 := ⟨_, rfl⟩
  have HEE := hide (And.intro hE1 hE2)
  rw [hE1] at CK
  simp only [hE1, hE2] at HE
  obtain ⟨SX, hSX⟩ : ∃ SX, x.shape.length = SX := ⟨_, rfl⟩
  obtain ⟨CX, hCX⟩ : ∃ CX, x.cells.length = CX := ⟨_, rfl⟩
  obtain ⟨SY, hSY⟩ : ∃ SY, y.shape.length = SY := ⟨_, rfl⟩
  obtain ⟨CY, hCY⟩ : ∃ CY, y.cells.length = CY := ⟨_, rfl⟩
  have HSC := hide (And.intro hSX (And.intro hCX (And.intro hSY hCY)))
  simp only [hSX, hCX, hSY, hCY] at CK e3 q0 q1 HI HX HY HE hlX ⊢
  clear R hc I hx hy R' hc' hSX hCX hSY hCY hE1 hE2
  go_enter Try.func15, Try.ntmps15
  go_wp2_with fail
  clear e3 q0 q1
  refine CK.mono ?_
  rintro e w1 ⟨rfl, hb1⟩
  have I1 := HI.out.next hb1
  have r0 := I1.r0
  have r1 := I1.r1
  have p0 := I1.p0
  have p1 := I1.p1
  have f0 := I1.f0
  have f1 := I1.f1
  have HI1 := hide I1
  clear hb1 CK HI
  by_cases h1 : E1 = 0
  case neg =>
    have HE5 : Hid (reshR x y = (zeroA, E1)) := HRE.out E1 (by rw [HE.out, if_pos h1]) h1
    have HT := hide (I1.put (.slice none 0 0) (.slice none 0 0))
    have hne : (E1 == 0) = false := beq_eq_false_iff_ne.2 h1
    clear I1 HE HRE HX HY HCY HCX
    go_wp2
    exact bodyPost_ret (v := .tuple #[.agg #[.slice none 0 0, .slice none 0 0], .int .i64 E1]) (by simp [results, Try.results15, go_sem, HT.out.1, HT.out.2]) rfl (gives2_of HE5.out (zeroA_in _ _ _) (HI1.out.fin _ _))
  subst h1
  have CK2 := rcheck_any (n + 1) y _ _ w1 (HY.out.next I1.bel)
  rw [HEE.out.2] at CK2
  clear I1 p0 p1 f0 f1
  go_wp2_with fail
  refine CK2.mono ?_
  rintro e w2 ⟨rfl, hb2⟩
  have I2 := HI1.out.next hb2
  have q0 := I2.q0
  have q1 := I2.q1
  have p0 := I2.p0
  have p1 := I2.p1
  have f0 := I2.f0
  have f1 := I2.f1
  have HI2 := hide I2
  clear hb2 CK2 HI1 r0 r1
  by_cases h2 : E2 = 0
  case neg =>
    have HE5 : Hid (reshR x y = (zeroA, E2)) := HRE.out E2 (by rw [HE.out, if_neg (by simp), if_pos h2]) h2
    have HT := hide (I2.put (.slice none 0 0) (.slice none 0 0))
    have hne : (E2 == 0) = false := beq_eq_false_iff_ne.2 h2
    clear I2 HE HRE HX HY HCY HCX
    go_wp2
    exact bodyPost_ret (v := .tuple #[.agg #[.slice none 0 0, .slice none 0 0], .int .i64 E2]) (by simp [results, Try.results15, go_sem, HT.out.1, HT.out.2]) rfl (gives2_of HE5.out (zeroA_in _ _ _) (HI2.out.fin _ _))
  subst h2
  have hsh : shpE x = if 1 < SX then 6 else if ¬ allC x then 5 else if 8 < CX then 6 else if ¬ noLong x then 12 else 0 := by rw [← HSC.out.1, ← HSC.out.2.1]; rfl
  have HSP := hide hsh
  have HALL : Hid (allC x ↔ ∀ i, i < CX → isC (cAt x.cells i) = true) := by rw [← HSC.out.2.1]; exact Iff.rfl
  have HNOL : Hid (noLong x ↔ ∀ i, i < CX → (cAt x.cells i).2.1 ≤ 16384) := by rw [← HSC.out.2.1]; exact Iff.rfl
  have HSH : Hid ((shN x).length = CX ∧ ∀ i, i < CX → gI (shN x) i = (cAt x.cells i).2.1) := ⟨by rw [shN_len, HSC.out.2.1], fun i hi => shN_at x i (by rw [HSC.out.2.1]; exact hi)⟩
  have HREE : Hid (∀ E, shpE x = E → ¬ E = 0 → reshR x y = (zeroA, E)) := fun E h1 h2 => HRE.out E (by rw [HE.out, if_neg (by simp), if_neg (by simp), h1, if_pos h2]) h2
  have hcX16 : CX ≤ 16384 := by rw [← HSC.out.2.1]; exact (chk_len HEE.out.1).2
  have HT0 := hide (I2.put (.slice none 0 0) (.slice none 0 0))
  have HF0 := hide (I2.fin (.slice none 0 0) (.slice none 0 0))
  clear hsh
  by_cases hr1 : 1 < SX
  · have HE5 : Hid (reshR x y = (zeroA, 6)) := HREE.out 6 (by rw [HSP.out, if_pos hr1]) (by decide)
    have hr1' : (1 : Int) < (SX : Int) := by omega
    clear I2 HE HRE HX HY HCY HCX HREE HSP
    go_wp2
    exact bodyPost_ret (v := .tuple #[.agg #[.slice none 0 0, .slice none 0 0], .int .i64 6]) (by simp [results, Try.results15, go_sem, HT0.out.1, HT0.out.2]) rfl (gives2_of HE5.out (zeroA_in _ _ _) HF0.out)
  have hr1' : ¬ (1 : Int) < (SX : Int) := by omega
  obtain ⟨ab, cb, hcf⟩ := cells_fn HCX.out
  have HCF := hide hcf
  rw [HSC.out.2.1] at HCF
  clear hcf HCX
  go_wp2
  go_loopg [8] CX (fun g i wr => ∃ j : Nat, g + j = CX ∧ i = .int .i64 (j : Int) ∧ wr = w2 ∧ ∀ i, i < j → isC (cAt x.cells i) = true)
  case atStart => exact ⟨0, rfl, rfl, rfl, fun i hi => by omega⟩
  case round =>
  obtain ⟨j, hg, rfl, rfl, hall⟩ := hrel
  have HAL := hide hall
  clear hall
  by_cases hlt : j < CX
  · obtain ⟨b, off, rfl, -, hb, hcells⟩ := HCF.out (by omega)
    obtain ⟨g0, g1, g2, -⟩ := hcells j hlt
    have u0 := (I2.bel.cell (p := ⟨b, off + j * 3, none⟩) hb).trans g0
    have u1 := (I2.bel.cell (p := ⟨b, off + j * 3 + 1, none⟩) hb).trans g1
    clear g0 g1 g2 hcells
    obtain ⟨c, hcc⟩ : ∃ c, cAt x.cells j = c := ⟨_, rfl⟩
    have HCC := hide hcc
    rw [hcc] at u0 u1
    clear hcc I2 HE HRE HX HY HCY
    by_cases hC : isC c = true
    · have HN : Hid (∀ i, i < j + 1 → isC (cAt x.cells i) = true) := fun i hi => by
        rcases Nat.lt_succ_iff_lt_or_eq.1 hi with h | rfl
        · exact HAL.out i h
        · rw [HCC.out]; exact hC
      have hk0 : c.1 = 0 := by unfold isC at hC; simp at hC; exact hC.1
      have hN0 : 0 ≤ c.2.1 := by unfold isC at hC; simp at hC; exact hC.2
      rw [hk0] at u0
      clear hC hk0 HAL HCC
      go_wp2
      go_roundg (CX - (j + 1))
      case rel => exact ⟨j + 1, by omega, by go_num, rfl, HN.out⟩
      case measure => omega
    · have HE5 : Hid (reshR x y = (zeroA, 5)) := HREE.out 5 (by
        rw [HSP.out, if_neg hr1, if_pos]
        intro h
        exact hC (by rw [← HCC.out]; exact HALL.out.1 h j hlt)) (by decide)
      have hC' : ¬ (c.1 = 0 ∧ 0 ≤ c.2.1) := fun h => hC (by unfold isC; simp [h.1, h.2])
      clear hC HAL HCC HREE HSP
      by_cases hk0 : c.1 = 0
      · have hN0 : c.2.1 < 0 := by
          rcases Int.lt_or_le c.2.1 0 with h | h
          · exact h
          · exact absurd ⟨hk0, h⟩ hC'
        rw [hk0] at u0
        clear hC' hk0
        go_wp2
        exact bodyPost_ret (v := .tuple #[.agg #[.slice none 0 0, .slice none 0 0], .int .i64 5]) (by simp [results, Try.results15, go_sem, HT0.out.1, HT0.out.2]) rfl (gives2_of HE5.out (zeroA_in _ _ _) HF0.out)
      · have hkb : (c.1 == 0) = false := beq_eq_false_iff_ne.2 hk0
        clear hC'
        go_wp2
        exact bodyPost_ret (v := .tuple #[.agg #[.slice none 0 0, .slice none 0 0], .int .i64 5]) (by simp [results, Try.results15, go_sem, HT0.out.1, HT0.out.2]) rfl (gives2_of HE5.out (zeroA_in _ _ _) HF0.out)
  have hje : j = CX := by omega
  subst hje
  have hA : allC x := HALL.out.2 HAL.out
  have HA := hide hA
  clear HAL hlt hg HALL hA
  by_cases h8 : 8 < j
  · have HE5 : Hid (reshR x y = (zeroA, 6)) := HREE.out 6 (by rw [HSP.out, if_neg hr1, if_neg (fun k => k HA.out), if_pos h8]) (by decide)
    have h8' : (8 : Int) < (j : Int) := by omega
    clear I2 HE HRE HX HY HCY HREE HSP HCF
    go_wp2
    exact bodyPost_ret (v := .tuple #[.agg #[.slice none 0 0, .slice none 0 0], .int .i64 6]) (by simp [results, Try.results15, go_sem, HT0.out.1, HT0.out.2]) rfl (gives2_of HE5.out (zeroA_in _ _ _) HF0.out)
  have h8' : ¬ (8 : Int) < (j : Int) := by omega
  obtain ⟨w2, rfl⟩ : ∃ w2, w2 = wr := ⟨_, rfl⟩
  obtain ⟨i3, hi3, hz30, hz31, hz32⟩ := infoI3
  obtain ⟨i0, hi0, hz00, hz01, hz02⟩ := info33'
  obtain ⟨l, hl⟩ : ∃ l, shN x = l := ⟨_, rfl⟩
  have HLL := hide hl
  simp only [hl] at HE HSH
  clear hl
  obtain ⟨W4, e4⟩ : ∃ W4, w2.alloc (.cells #[.slice none 0 0, .slice none 0 0] 25) = W4 := ⟨_, rfl⟩
  have B4 : Below w2.heap.size w2 W4 := by rw [← e4]; exact one_alloc _ _
  have z4 : W4.heap.size = w2.heap.size + 1 := by rw [← e4]; simp
  have I4 := I2.next B4
  have hs2 := I2.size
  have HG0 : Hid (GrowI W4 w2.heap.size l 0 (.slice none 0 0) W4) := ⟨Below.refl _ _, fun _ _ _ => rfl, by rw [← e4]; exact cell_new0 w2 _ 25 0 _ rfl, by rw [← e4]; exact cell_new0 w2 _ 25 1 _ rfl, by rw [← e4]; exact frozen_new w2 _ 25 0, by rw [← e4]; exact frozen_new w2 _ 25 1, World.ownsRow_nil _ _ _ _⟩
  have HZ4 : Hid (W4.heap.size = w2.heap.size + 1 ∧ w.heap.size + 3 ≤ w2.heap.size) := ⟨z4, hs2⟩
  have HI4 := hide I4
  /- What lies below the variable. -/
  have HK4 : Hid (∀ (k : Nat) (v : Value) (wr : World), GrowI W4 w2.heap.size l k v wr → In3 w (.slice a1 SX c1) (.slice a2 j c2) (.slice b1 SY d1) (.slice b2 CY d2) wr) := fun k v wr h => HI4.out.belowS (h.below (B := w2.heap.size) (Nat.le_refl _) (by omega)) (by omega)
  have HE4 := hide e4
  clear I2 I4 B4 z4 hs2 HT0 HF0 p0 p1 f0 f1 e4
  go_wp2
  rw [HE4.out]
  clear HE4 q0 q1
  go_loopg [10] j (fun g i wr => ∃ (k : Nat) (v : Value), g + k = j ∧ i = .int .i64 (k : Int) ∧ GrowI W4 w2.heap.size l k v wr ∧ ∀ i, i < k → (cAt x.cells i).2.1 ≤ 16384)
  case atStart => exact ⟨0, _, rfl, rfl, HG0.out, fun i hi => by omega⟩
  case round =>
  clear HG0
  obtain ⟨k, v, hg, rfl, hgr, hall⟩ := hrel
  have HGR := hide hgr
  have HAL := hide hall
  have I5 := HK4.out _ _ _ hgr
  have q1 := I5.q1
  clear hall
  by_cases hlt : k < j
  · obtain ⟨b, off, rfl, -, hb, hcells⟩ := HCF.out (by omega)
    obtain ⟨g0, g1, g2, -⟩ := hcells k hlt
    have u1 := (I5.bel.cell (p := ⟨b, off + k * 3 + 1, none⟩) hb).trans g1
    have HNk := hide (HSH.out.2 k hlt)
    clear g0 g1 g2 hcells
    obtain ⟨c, hcc⟩ : ∃ c, cAt x.cells k = c := ⟨_, rfl⟩
    have HCC := hide hcc
    rw [hcc] at u1 HNk
    clear hcc HE HRE HX HY HCY HCF
    by_cases hbig : 16384 < c.2.1
    · have HE5 : Hid (reshR x y = (zeroA, 12)) := HREE.out 12 (by
        rw [HSP.out, if_neg hr1, if_neg (fun h => h HA.out), if_neg h8, if_pos]
        intro h
        have := HNOL.out.1 h k hlt
        rw [HCC.out] at this
        omega) (by decide)
      have p0 := I5.p0
      have p1 := I5.p1
      have f0 := I5.f0
      have f1 := I5.f1
      have HT := hide (I5.put (.slice none 0 0) (.slice none 0 0))
      have HFI := hide I5.fin
      clear I5 hgr HGR HAL HREE HSP HK4
      go_wp2
      exact bodyPost_ret (v := .tuple #[.agg #[.slice none 0 0, .slice none 0 0], .int .i64 12]) (by simp [results, Try.results15, go_sem, HT.out.1, HT.out.2]) rfl (gives2_of HE5.out (zeroA_in _ _ _) (HFI.out _ _))
    · have HN : Hid (∀ i, i < k + 1 → (cAt x.cells i).2.1 ≤ 16384) := fun i hi => by
        rcases Nat.lt_succ_iff_lt_or_eq.1 hi with h | rfl
        · exact HAL.out i h
        · rw [HCC.out]; omega
      have hO := HZ4.out
      have hsz : W4.heap.size ≤ wr.heap.size := hgr.io.size
      have d0 := hgr.c0
      have d2 := hgr.f0
      have HSTEP := hide (take_map_step l k (by have := HSH.out.1; omega))
      rw [HNk.out] at HSTEP
      have hal : (wr.alloc (.cells #[.int .i64 c.2.1] 3)).cell? ⟨w2.heap.size, 0, none⟩ = some v := ((one_alloc wr _).cell (p := ⟨w2.heap.size, 0, none⟩) (by show w2.heap.size < wr.heap.size; omega)).trans d0
      have hal1 : (wr.alloc (.cells #[.int .i64 c.2.1] 3)).cell? ⟨w.heap.size, 1, none⟩ = _ := ((one_alloc wr _).cell (p := ⟨w.heap.size, 1, none⟩) (by show w.heap.size < wr.heap.size; omega)).trans q1
      have hal2 : (wr.alloc (.cells #[.int .i64 c.2.1] 3)).cell? ⟨b, off + k * 3 + 1, none⟩ = _ := ((one_alloc wr _).cell (p := ⟨b, off + k * 3 + 1, none⟩) (by show b < wr.heap.size; have := I5.bel.size; omega)).trans u1
      have HOWN : Hid ((wr.alloc (.cells #[.int .i64 c.2.1] 3)).drew.ownsRow W4.heap.size 3 1 v k ((l.take k).map (Value.int .i64))) := hgr.own.alloc (.cells #[.int .i64 c.2.1] 3)
      have HNEWS : Hid (∀ i u, [Value.int .i64 c.2.1][i]? = some u → (wr.alloc (.cells #[.int .i64 c.2.1] 3)).drew.cell? ((⟨wr.heap.size, 0, none⟩ : Addr).add i) = some u) := by
        intro i u hu
        rw [add_off, Nat.zero_add]
        exact cell_new0 wr _ 3 i u (by simpa using hu)
      have HONE : Hid (∀ u ∈ [Value.int .i64 c.2.1], u.oneCell' = true) := by
        intro u hu
        simp at hu
        subst hu
        rfl
      have HMAX : Hid (k + 1 ≤ maxLen ∧ (k + 1) * 8 ≤ 140737488355328 ∧ W4.heap.size ≤ (wr.alloc (.cells #[.int .i64 c.2.1] 3)).drew.heap.size) := by
        refine ⟨by unfold maxLen; omega, by omega, ?_⟩
        have : (wr.alloc (.cells #[.int .i64 c.2.1] 3)).drew.heap.size = wr.heap.size + 1 := by simp
        omega
      have HAB : Hid (Below W4.heap.size wr ((wr.alloc (.cells #[.int .i64 c.2.1] 3)).drew)) := (((Below.refl _ _).alloc (by show _ ≤ wr.heap.size; omega) _)).drew
      have hO1 : Hid (w2.heap.size < W4.heap.size) := by unfold Hid; omega
      clear HREE HSP HAL HCC I5 hgr hO hsz
      go_wp2
      go_region_law (refine step_append_own rfl (.tmp 77) (.tmp 84) 22 rfl W4.heap.size 3 i3 (.int .i64 0) 1 8 Try.underlying22 hi3 hz30 hz31 hz32 rfl (by decide) v k ((l.take k).map (Value.int .i64)) rfl HOWN.out ⟨wr.heap.size, 0, none⟩ 1 1 [.int .i64 c.2.1] rfl rfl HNEWS.out HONE.out HMAX.out.1 HMAX.out.2.1 HMAX.out.2.2 ?_; intro v' w1 hown1 hb1; obtain ⟨g, cp, rfl, -⟩ := owns_form1 hown1 (Nat.succ_pos k); have dd1 := (HAB.out.trans hb1).cell (p := ⟨w2.heap.size, 0, none⟩) hO1.out |>.trans d0; have dd3 := (HAB.out.trans hb1).frozen (p := ⟨w2.heap.size, 0, none⟩) hO1.out |>.trans d2)
      all_goals
        have hown2 : w1.ownsRow W4.heap.size 3 1 (.slice (some ⟨g, 0, none⟩) (k + 1) cp) (k + 1) ((l.take (k + 1)).map (Value.int .i64)) := by rw [HSTEP.out]; exact hown1
        have HNX := hide (HGR.out.step hO1.out (HAB.out.trans hb1) hown2)
        clear hown1 hown2 hb1 dd1 dd3 HOWN HNEWS HONE HMAX HAB HGR HSTEP hal hal1 hal2
        go_wp2
        go_roundg (j - (k + 1))
        case rel => exact ⟨k + 1, _, by omega, by go_num, HNX.out, HN.out⟩
        case measure => omega
  have hke : k = j := by omega
  subst hke
  have hsp0 : shpE x = 0 := by rw [HSP.out, if_neg hr1, if_neg (fun h => h HA.out), if_neg h8, if_neg (fun h => h (HNOL.out.2 HAL.out))]
  have hll := HSH.out.1
  have hown : wr.ownsRow W4.heap.size 3 1 v l.length (l.map (Value.int .i64)) := by
    have := hgr.own
    rw [← hll, List.take_length] at this
    exact this
  obtain ⟨al, cl, rfl, RL⟩ := owns_row l (by omega) hown
  have CZ := rsize_any l al cl wr RL
  have d0 := hgr.c0
  have HRL := hide RL
  obtain ⟨E4, hE4⟩ : ∃ E4, sizeE l = E4 := ⟨_, rfl⟩
  obtain ⟨V, hV⟩ : ∃ V, sizeV l = V := ⟨_, rfl⟩
  have HEV := hide (And.intro hE4 hV)
  simp only [hE4, hV, hsp0] at HE
  rw [hE4, hV] at CZ
  rw [hll] at CZ d0 HGR
  clear HAL HNOL HSP HREE hE4 hV hown hgr RL I5 HCF hlt hg HA
  go_wp2_with fail
  refine CZ.mono ?_
  rintro e w5 ⟨rfl, hw5⟩
  subst hw5
  have I5 := HK4.out _ _ _ HGR.out
  have r1 := I5.r1
  have p0 := I5.p0
  have p1 := I5.p1
  have f0 := I5.f0
  have f1 := I5.f1
  have HI5 := hide I5
  clear CZ HK4 d0 q1
  by_cases h4 : E4 = 0
  case neg =>
    have HE5 : Hid (reshR x y = (zeroA, E4)) := HRE.out E4 (by rw [HE.out, if_neg (by simp), if_neg (by simp), if_neg (by simp), if_pos h4]) h4
    have HT := hide (I5.put (.slice none 0 0) (.slice none 0 0))
    have hne : (E4 == 0) = false := beq_eq_false_iff_ne.2 h4
    clear I5 HE HRE HX HY HCY h4 r1
    go_wp2
    exact bodyPost_ret (v := .tuple #[.agg #[.slice none 0 0, .slice none 0 0], .int .i64 E4]) (by simp [results, Try.results15, go_sem, HT.out.1, HT.out.2]) rfl (gives2_of HE5.out (zeroA_in _ _ _) (HI5.out.fin _ _))
  subst h4
  obtain ⟨hV0, hV1⟩ := sizeV_le HEV.out.1
  rw [HEV.out.2] at hV0 hV1
  obtain ⟨N, rfl⟩ : ∃ N : Nat, V = (N : Int) := ⟨V.toNat, by omega⟩
  have hO5 : w2.heap.size < w5.heap.size := by have := HGR.out.io.size; have := HZ4.out; omega
  have HO5 : Hid (w2.heap.size < w5.heap.size ∧ w.heap.size + 3 ≤ w2.heap.size) := ⟨hO5, HZ4.out.2⟩
  by_cases h5 : 0 < N ∧ CY = 0
  · have HE5 : Hid (reshR x y = (zeroA, 7)) := HRE.out 7 (by rw [HE.out, if_neg (by simp), if_neg (by simp), if_neg (by simp), if_neg (by simp), if_pos ⟨by omega, h5.2⟩]) (by decide)
    have HT := hide (I5.put (.slice none 0 0) (.slice none 0 0))
    obtain ⟨h5a, rfl⟩ := h5
    have h5b : (0 : Int) < (N : Int) := by omega
    clear I5 HE HRE HX HY HCY
    go_wp2
    exact bodyPost_ret (v := .tuple #[.agg #[.slice none 0 0, .slice none 0 0], .int .i64 7]) (by simp [results, Try.results15, go_sem, HT.out.1, HT.out.2]) rfl (gives2_of HE5.out (zeroA_in _ _ _) (HI5.out.fin _ _))
  obtain ⟨ab', cb', hcf⟩ := cells_fn HCY.out
  have HCF := hide hcf
  rw [HSC.out.2.2.2] at HCF
  have hCY16 : CY ≤ 16384 := by rw [← HSC.out.2.2.2]; exact (chk_len HEE.out.2).2
  have hguard : (0 : Int) < (N : Int) → ¬ (CY : Int) = 0 := fun h h' => h5 ⟨by omega, by omega⟩
  have HG := hide hguard
  obtain ⟨cs, hcs⟩ : ∃ cs, (mkCs N fun i => cAt y.cells (i % CY)) = cs := ⟨_, rfl⟩
  have HE5 : Hid (reshR x y = (.mk l cs, 0)) := by
    have e0 : reshE x y = 0 := by rw [HE.out, if_neg (by simp), if_neg (by simp), if_neg (by simp), if_neg (by simp), if_neg (fun h => h5 ⟨by omega, h.2⟩)]
    unfold reshR Hid
    rw [if_pos e0]
    unfold reshA
    rw [HLL.out, HEV.out.2, Int.toNat_natCast, HSC.out.2.2.2, hcs]
  have HCS : Hid (cs.length = N ∧ ∀ i, i < N → cAt cs i = cAt y.cells (i % CY)) := by
    rw [← hcs]; exact ⟨mkCs_len _ _, fun i hi => mkCs_at _ _ _ hi⟩
  obtain ⟨T, hT⟩ : ∃ T : Nat → Value × Value × Value, T = fun i => (.int .i64 (cAt y.cells (i % CY)).1, .int .i64 (cAt y.cells (i % CY)).2.1, .slice (ab' (i % CY)) (cAt y.cells (i % CY)).2.2.length (cb' (i % CY))) := ⟨_, rfl⟩
  have HTT := hide hT
  have HG5 : Hid (GrowC w5 w2.heap.size (.slice al k cl) T 0 (.slice none 0 0) w5) := ⟨Below.refl _ _, fun _ _ _ => rfl, HGR.out.c0, HGR.out.c1, HGR.out.f1, World.ownsRow_nil _ _ _ _⟩
  have HK5 : Hid (∀ (i : Nat) (v : Value) (wr : World), GrowC w5 w2.heap.size (.slice al k cl) T i v wr → In3 w (.slice a1 SX c1) (.slice a2 k c2) (.slice b1 SY d1) (.slice b2 CY d2) wr) := fun i v wr h => HI5.out.belowS (h.below (B := w2.heap.size) (Nat.le_refl _) hO5) HO5.out.2
  clear hcf hcs hT h5 HY HCY HX HE HRE I5 hO5 HEV HSH
  by_cases hN : 0 < N
  · have hN' : (0 : Int) < (N : Int) := by omega
    have hCYne : ((CY : Int) == 0) = false := beq_eq_false_iff_ne.2 (hguard hN')
    clear hguard
    go_wp2
    clear r1 p0 p1 f0 f1
    go_loopg [13] N (fun g i wr => ∃ (t : Nat) (v : Value), g + t = N ∧ i = .int .i64 (t : Int) ∧ GrowC w5 w2.heap.size (.slice al k cl) T t v wr)
    case atStart => exact ⟨0, _, rfl, rfl, HG5.out⟩
    case round =>
      clear HG5
      obtain ⟨t, v, hg, rfl, hgr⟩ := hrel
      have HGR2 := hide hgr
      have I6 := HK5.out _ _ _ hgr
      by_cases hlt : t < N
      · have hC0 := HG.out (by omega)
        obtain ⟨b, off, rfl, -, hb, hcells⟩ := HCF.out (by omega)
        obtain ⟨p, hp⟩ : ∃ p, t % CY = p := ⟨_, rfl⟩
        have hpl : p < CY := by rw [← hp]; exact Nat.mod_lt _ (by omega)
        obtain ⟨g0, g1, g2, -⟩ := hcells p hpl
        have HTi : Hid (T t = (.int .i64 (cAt y.cells p).1, .int .i64 (cAt y.cells p).2.1, .slice (ab' p) (cAt y.cells p).2.2.length (cb' p))) := by unfold Hid; rw [HTT.out]; simp only [hp]
        have hbw := I6.bel
        have u0 := (hbw.cell (p := ⟨b, off + p * 3, none⟩) hb).trans g0
        have u1 := (hbw.cell (p := ⟨b, off + p * 3 + 1, none⟩) hb).trans g1
        have u2 := (hbw.cell (p := ⟨b, off + p * 3 + 2, none⟩) hb).trans g2
        have r1 := I6.r1
        have hq : (t : Int).tmod (CY : Int) = (p : Int) := by rw [Int.tmod_eq_emod_of_nonneg (by omega), ← hp]; rfl
        have hCY1 : ¬ CY = 0 := by omega
        have hp0 : (0 : Int) ≤ (p : Int) := by omega
        have hp1 : (p : Int) < (CY : Int) := by omega
        clear g0 g1 g2 hcells
        generalize (cAt y.cells p).1 = kk at *
        generalize (cAt y.cells p).2.1 = NN at *
        generalize (cAt y.cells p).2.2.length = nb at *
        generalize ab' p = abp at *
        generalize cb' p = cbp at *
        have hO := HO5.out
        have hsz : w5.heap.size ≤ wr.heap.size := hgr.io.size
        have hs6 := I6.size
        have hbs := hbw.size
        have d1' := hgr.c1
        have d2' := hgr.f1
        have BA := one_alloc wr (.cells #[.int .i64 kk, .int .i64 NN, .slice abp nb cbp] 39)
        have x0 : (wr.alloc (.cells #[.int .i64 kk, .int .i64 NN, .slice abp nb cbp] 39)).cell? ⟨w2.heap.size, 1, none⟩ = some v := (BA.cell (p := ⟨w2.heap.size, 1, none⟩) (by show w2.heap.size < wr.heap.size; omega)).trans d1'
        have HSTEP : Hid (rowT T (t + 1) = rowT T t ++ [.int .i64 kk, .int .i64 NN, .slice abp nb cbp]) := by unfold Hid; rw [rowT_step, HTi.out]
        have HOWN : Hid ((wr.alloc (.cells #[.int .i64 kk, .int .i64 NN, .slice abp nb cbp] 39)).drew.ownsRow w5.heap.size 39 3 v t (rowT T t)) := hgr.own.alloc (.cells #[.int .i64 kk, .int .i64 NN, .slice abp nb cbp] 39)
        have HNEWS : Hid (∀ i u, [Value.int .i64 kk, .int .i64 NN, .slice abp nb cbp][i]? = some u → (wr.alloc (.cells #[.int .i64 kk, .int .i64 NN, .slice abp nb cbp] 39)).drew.cell? ((⟨wr.heap.size, 0, none⟩ : Addr).add i) = some u) := by
          intro i u hu
          rw [add_off, Nat.zero_add]
          exact cell_new0 wr _ 39 i u (by simpa using hu)
        have HONE : Hid (∀ u ∈ [Value.int .i64 kk, .int .i64 NN, .slice abp nb cbp], u.oneCell' = true) := by
          intro u hu
          simp at hu
          rcases hu with rfl | rfl | rfl <;> rfl
        have HMAX : Hid (t + 1 ≤ maxLen ∧ (t + 1) * 40 ≤ 140737488355328 ∧ w5.heap.size ≤ (wr.alloc (.cells #[.int .i64 kk, .int .i64 NN, .slice abp nb cbp] 39)).drew.heap.size) := by
          refine ⟨by unfold maxLen; omega, by omega, ?_⟩
          have : (wr.alloc (.cells #[.int .i64 kk, .int .i64 NN, .slice abp nb cbp] 39)).drew.heap.size = wr.heap.size + 1 := by simp
          omega
        have HAB : Hid (Below w5.heap.size wr (wr.alloc (.cells #[.int .i64 kk, .int .i64 NN, .slice abp nb cbp] 39)).drew) := (((Below.refl _ _).alloc (by show _ ≤ wr.heap.size; omega) _)).drew
        have hO1 : Hid (w2.heap.size < w5.heap.size) := hO.1
        clear I6 hgr hO hsz hs6 hbs hbw BA HTi hp hb hpl HCF HG HK5
        go_wp2
        go_region_law (refine step_append_own rfl (.tmp 112) (.tmp 122) 23 rfl w5.heap.size 39 i0 (.agg #[.int .i64 0, .int .i64 0, .slice none 0 0]) 3 40 Try.underlying23 hi0 hz00 hz01 hz02 rfl (by decide) v t (rowT T t) rfl HOWN.out ⟨wr.heap.size, 0, none⟩ 1 1 [.int .i64 kk, .int .i64 NN, .slice abp nb cbp] rfl rfl HNEWS.out HONE.out HMAX.out.1 HMAX.out.2.1 HMAX.out.2.2 ?_; intro v' w1 hown1 hb1; obtain ⟨g, cp, rfl, -⟩ := owns_form hown1 (Nat.succ_pos t); have dd1 := (HAB.out.trans hb1).cell (p := ⟨w2.heap.size, 1, none⟩) hO1.out |>.trans d1'; have dd3 := (HAB.out.trans hb1).frozen (p := ⟨w2.heap.size, 1, none⟩) hO1.out |>.trans d2')
        all_goals
          have hown2 : w1.ownsRow w5.heap.size 39 3 (.slice (some ⟨g, 0, none⟩) (t + 1) cp) (t + 1) (rowT T (t + 1)) := by rw [HSTEP.out]; exact hown1
          have HNX := hide (HGR2.out.step hO1.out (HAB.out.trans hb1) hown2)
          clear hown1 hown2 hb1 dd1 dd3 HOWN HNEWS HONE HMAX HAB HGR2 HSTEP x0 u0 u1 u2 r1
          go_wp2
          go_roundg (N - (t + 1))
          case rel => exact ⟨t + 1, _, by omega, by go_num, HNX.out⟩
          case measure => omega
      · have hte : t = N := by omega
        subst hte
        obtain ⟨g2, cp2, rfl, hcells⟩ := owns_cellsT T hgr.own
        have d0' := hgr.c0
        have d1' := hgr.c1
        have p0 := I6.p0
        have p1 := I6.p1
        have f0 := I6.f0
        have f1 := I6.f1
        have HT := hide (I6.put (.slice al k cl) (.slice g2 t cp2))
        have HFIN : Hid (∀ u v, ArIn (n + 1) 0 ((wr.setCell ⟨w.heap.size + 2, 0, none⟩ u).setCell ⟨w.heap.size + 2, 1, none⟩ v) (.mk l cs) (.agg #[.slice al k cl, .slice g2 t cp2]) ∧ Below w.heap.size w ((wr.setCell ⟨w.heap.size + 2, 0, none⟩ u).setCell ⟨w.heap.size + 2, 1, none⟩ v)) := by
          intro u v
          have hO := HO5.out
          have hz4 := HZ4.out
          have BW := I6.fin u v
          have K1 : Keeps W4.heap.size w5 wr := ⟨hgr.io.size, fun b h1 h2 => hgr.keep b h2 (by omega)⟩
          have K2 : Keeps W4.heap.size wr ((wr.setCell ⟨w.heap.size + 2, 0, none⟩ u).setCell ⟨w.heap.size + 2, 1, none⟩ v) := ((Keeps.refl _ _).setCell (p := ⟨w.heap.size + 2, 0, none⟩) (by show w.heap.size + 2 < _; omega) u).setCell (p := ⟨w.heap.size + 2, 1, none⟩) (by show w.heap.size + 2 < _; omega) v
          have RF := (((HRL.out.keeps K1).keeps K2).low (Nat.zero_le _))
          refine ⟨arIn_mk (x := .mk l cs) RF (by show cs.length ≤ _; rw [HCS.out.1]; omega) ?_ (by show l.length = k; exact hll) HCS.out.1, BW⟩
          show CellsIn n 0 _ cs g2
          rcases hcells with h0 | ⟨g, rfl, hg1, hg2, hcc⟩
          · exact Or.inl (List.eq_nil_of_length_eq_zero (by rw [HCS.out.1]; exact h0))
          · refine Or.inr ⟨g, 0, rfl, Nat.zero_le _, Nat.lt_of_lt_of_le hg2 K2.1, fun i hi => ?_⟩
            rw [HCS.out.1] at hi
            have hC0 := HG.out (by omega)
            obtain ⟨b, off, -, -, hb, hcl⟩ := HCF.out (by omega)
            obtain ⟨-, -, -, hce⟩ := hcl (i % CY) (Nat.mod_lt _ (by omega))
            obtain ⟨e0, e1, e2⟩ := hcc i hi
            rw [Nat.zero_add]
            have ap : ∀ (o : Nat) (q : Value), wr.cell? ⟨g, o, none⟩ = some q → ((wr.setCell ⟨w.heap.size + 2, 0, none⟩ u).setCell ⟨w.heap.size + 2, 1, none⟩ v).cell? ⟨g, o, none⟩ = some q := fun o q h => (K2.cell (p := ⟨g, o, none⟩) (by show W4.heap.size ≤ g; omega) hg2).trans h
            refine ⟨_, _, _, ap _ _ e0, ap _ _ e1, ap _ _ e2, ?_⟩
            rw [HTT.out, HCS.out.2 i hi]
            exact hce.mono (Nat.zero_le _) BW fun x v h => h.mono (Nat.zero_le _) BW
        clear I6 hgr HGR2 HCF HG HK5 hcells
        go_wp2
        exact bodyPost_ret (v := .tuple #[.agg #[.slice al k cl, .slice g2 t cp2], .int .i64 0]) (by simp [results, Try.results15, go_sem, HT.out.1, HT.out.2]) rfl (gives2_of HE5.out (HFIN.out _ _).1 (HFIN.out _ _).2)
  · have hN' : ¬ (0 : Int) < (N : Int) := by omega
    clear hguard
    go_wp2
    clear r1 p0 p1 f0 f1
    go_loopg [13] N (fun g i wr => ∃ (t : Nat) (v : Value), g + t = N ∧ i = .int .i64 (t : Int) ∧ GrowC w5 w2.heap.size (.slice al k cl) T t v wr)
    case atStart => exact ⟨0, _, rfl, rfl, HG5.out⟩
    case round =>
      clear HG5
      obtain ⟨t, v, hg, rfl, hgr⟩ := hrel
      have HGR2 := hide hgr
      have I6 := HK5.out _ _ _ hgr
      by_cases hlt : t < N
      · have hC0 := HG.out (by omega)
        obtain ⟨b, off, rfl, -, hb, hcells⟩ := HCF.out (by omega)
        obtain ⟨p, hp⟩ : ∃ p, t % CY = p := ⟨_, rfl⟩
        have hpl : p < CY := by rw [← hp]; exact Nat.mod_lt _ (by omega)
        obtain ⟨g0, g1, g2, -⟩ := hcells p hpl
        have HTi : Hid (T t = (.int .i64 (cAt y.cells p).1, .int .i64 (cAt y.cells p).2.1, .slice (ab' p) (cAt y.cells p).2.2.length (cb' p))) := by unfold Hid; rw [HTT.out]; simp only [hp]
        have hbw := I6.bel
        have u0 := (hbw.cell (p := ⟨b, off + p * 3, none⟩) hb).trans g0
        have u1 := (hbw.cell (p := ⟨b, off + p * 3 + 1, none⟩) hb).trans g1
        have u2 := (hbw.cell (p := ⟨b, off + p * 3 + 2, none⟩) hb).trans g2
        have r1 := I6.r1
        have hq : (t : Int).tmod (CY : Int) = (p : Int) := by rw [Int.tmod_eq_emod_of_nonneg (by omega), ← hp]; rfl
        have hCY1 : ¬ CY = 0 := by omega
        have hp0 : (0 : Int) ≤ (p : Int) := by omega
        have hp1 : (p : Int) < (CY : Int) := by omega
        clear g0 g1 g2 hcells
        generalize (cAt y.cells p).1 = kk at *
        generalize (cAt y.cells p).2.1 = NN at *
        generalize (cAt y.cells p).2.2.length = nb at *
        generalize ab' p = abp at *
        generalize cb' p = cbp at *
        have hO := HO5.out
        have hsz : w5.heap.size ≤ wr.heap.size := hgr.io.size
        have hs6 := I6.size
        have hbs := hbw.size
        have d1' := hgr.c1
        have d2' := hgr.f1
        have BA := one_alloc wr (.cells #[.int .i64 kk, .int .i64 NN, .slice abp nb cbp] 39)
        have x0 : (wr.alloc (.cells #[.int .i64 kk, .int .i64 NN, .slice abp nb cbp] 39)).cell? ⟨w2.heap.size, 1, none⟩ = some v := (BA.cell (p := ⟨w2.heap.size, 1, none⟩) (by show w2.heap.size < wr.heap.size; omega)).trans d1'
        have HSTEP : Hid (rowT T (t + 1) = rowT T t ++ [.int .i64 kk, .int .i64 NN, .slice abp nb cbp]) := by unfold Hid; rw [rowT_step, HTi.out]
        have HOWN : Hid ((wr.alloc (.cells #[.int .i64 kk, .int .i64 NN, .slice abp nb cbp] 39)).drew.ownsRow w5.heap.size 39 3 v t (rowT T t)) := hgr.own.alloc (.cells #[.int .i64 kk, .int .i64 NN, .slice abp nb cbp] 39)
        have HNEWS : Hid (∀ i u, [Value.int .i64 kk, .int .i64 NN, .slice abp nb cbp][i]? = some u → (wr.alloc (.cells #[.int .i64 kk, .int .i64 NN, .slice abp nb cbp] 39)).drew.cell? ((⟨wr.heap.size, 0, none⟩ : Addr).add i) = some u) := by
          intro i u hu
          rw [add_off, Nat.zero_add]
          exact cell_new0 wr _ 39 i u (by simpa using hu)
        have HONE : Hid (∀ u ∈ [Value.int .i64 kk, .int .i64 NN, .slice abp nb cbp], u.oneCell' = true) := by
          intro u hu
          simp at hu
          rcases hu with rfl | rfl | rfl <;> rfl
        have HMAX : Hid (t + 1 ≤ maxLen ∧ (t + 1) * 40 ≤ 140737488355328 ∧ w5.heap.size ≤ (wr.alloc (.cells #[.int .i64 kk, .int .i64 NN, .slice abp nb cbp] 39)).drew.heap.size) := by
          refine ⟨by unfold maxLen; omega, by omega, ?_⟩
          have : (wr.alloc (.cells #[.int .i64 kk, .int .i64 NN, .slice abp nb cbp] 39)).drew.heap.size = wr.heap.size + 1 := by simp
          omega
        have HAB : Hid (Below w5.heap.size wr (wr.alloc (.cells #[.int .i64 kk, .int .i64 NN, .slice abp nb cbp] 39)).drew) := (((Below.refl _ _).alloc (by show _ ≤ wr.heap.size; omega) _)).drew
        have hO1 : Hid (w2.heap.size < w5.heap.size) := hO.1
        clear I6 hgr hO hsz hs6 hbs hbw BA HTi hp hb hpl HCF HG HK5
        go_wp2
        go_region_law (refine step_append_own rfl (.tmp 112) (.tmp 122) 23 rfl w5.heap.size 39 i0 (.agg #[.int .i64 0, .int .i64 0, .slice none 0 0]) 3 40 Try.underlying23 hi0 hz00 hz01 hz02 rfl (by decide) v t (rowT T t) rfl HOWN.out ⟨wr.heap.size, 0, none⟩ 1 1 [.int .i64 kk, .int .i64 NN, .slice abp nb cbp] rfl rfl HNEWS.out HONE.out HMAX.out.1 HMAX.out.2.1 HMAX.out.2.2 ?_; intro v' w1 hown1 hb1; obtain ⟨g, cp, rfl, -⟩ := owns_form hown1 (Nat.succ_pos t); have dd1 := (HAB.out.trans hb1).cell (p := ⟨w2.heap.size, 1, none⟩) hO1.out |>.trans d1'; have dd3 := (HAB.out.trans hb1).frozen (p := ⟨w2.heap.size, 1, none⟩) hO1.out |>.trans d2')
        all_goals
          have hown2 : w1.ownsRow w5.heap.size 39 3 (.slice (some ⟨g, 0, none⟩) (t + 1) cp) (t + 1) (rowT T (t + 1)) := by rw [HSTEP.out]; exact hown1
          have HNX := hide (HGR2.out.step hO1.out (HAB.out.trans hb1) hown2)
          clear hown1 hown2 hb1 dd1 dd3 HOWN HNEWS HONE HMAX HAB HGR2 HSTEP x0 u0 u1 u2 r1
          go_wp2
          go_roundg (N - (t + 1))
          case rel => exact ⟨t + 1, _, by omega, by go_num, HNX.out⟩
          case measure => omega
      · have hte : t = N := by omega
        subst hte
        obtain ⟨g2, cp2, rfl, hcells⟩ := owns_cellsT T hgr.own
        have d0' := hgr.c0
        have d1' := hgr.c1
        have p0 := I6.p0
        have p1 := I6.p1
        have f0 := I6.f0
        have f1 := I6.f1
        have HT := hide (I6.put (.slice al k cl) (.slice g2 t cp2))
        have HFIN : Hid (∀ u v, ArIn (n + 1) 0 ((wr.setCell ⟨w.heap.size + 2, 0, none⟩ u).setCell ⟨w.heap.size + 2, 1, none⟩ v) (.mk l cs) (.agg #[.slice al k cl, .slice g2 t cp2]) ∧ Below w.heap.size w ((wr.setCell ⟨w.heap.size + 2, 0, none⟩ u).setCell ⟨w.heap.size + 2, 1, none⟩ v)) := by
          intro u v
          have hO := HO5.out
          have hz4 := HZ4.out
          have BW := I6.fin u v
          have K1 : Keeps W4.heap.size w5 wr := ⟨hgr.io.size, fun b h1 h2 => hgr.keep b h2 (by omega)⟩
          have K2 : Keeps W4.heap.size wr ((wr.setCell ⟨w.heap.size + 2, 0, none⟩ u).setCell ⟨w.heap.size + 2, 1, none⟩ v) := ((Keeps.refl _ _).setCell (p := ⟨w.heap.size + 2, 0, none⟩) (by show w.heap.size + 2 < _; omega) u).setCell (p := ⟨w.heap.size + 2, 1, none⟩) (by show w.heap.size + 2 < _; omega) v
          have RF := (((HRL.out.keeps K1).keeps K2).low (Nat.zero_le _))
          refine ⟨arIn_mk (x := .mk l cs) RF (by show cs.length ≤ _; rw [HCS.out.1]; omega) ?_ (by show l.length = k; exact hll) HCS.out.1, BW⟩
          show CellsIn n 0 _ cs g2
          rcases hcells with h0 | ⟨g, rfl, hg1, hg2, hcc⟩
          · exact Or.inl (List.eq_nil_of_length_eq_zero (by rw [HCS.out.1]; exact h0))
          · refine Or.inr ⟨g, 0, rfl, Nat.zero_le _, Nat.lt_of_lt_of_le hg2 K2.1, fun i hi => ?_⟩
            rw [HCS.out.1] at hi
            have hC0 := HG.out (by omega)
            obtain ⟨b, off, -, -, hb, hcl⟩ := HCF.out (by omega)
            obtain ⟨-, -, -, hce⟩ := hcl (i % CY) (Nat.mod_lt _ (by omega))
            obtain ⟨e0, e1, e2⟩ := hcc i hi
            rw [Nat.zero_add]
            have ap : ∀ (o : Nat) (q : Value), wr.cell? ⟨g, o, none⟩ = some q → ((wr.setCell ⟨w.heap.size + 2, 0, none⟩ u).setCell ⟨w.heap.size + 2, 1, none⟩ v).cell? ⟨g, o, none⟩ = some q := fun o q h => (K2.cell (p := ⟨g, o, none⟩) (by show W4.heap.size ≤ g; omega) hg2).trans h
            refine ⟨_, _, _, ap _ _ e0, ap _ _ e1, ap _ _ e2, ?_⟩
            rw [HTT.out, HCS.out.2 i hi]
            exact hce.mono (Nat.zero_le _) BW fun x v h => h.mono (Nat.zero_le _) BW
        clear I6 hgr HGR2 HCF HG HK5 hcells
        go_wp2
        exact bodyPost_ret (v := .tuple #[.agg #[.slice al k cl, .slice g2 t cp2], .int .i64 0]) (by simp [results, Try.results15, go_sem, HT.out.1, HT.out.2]) rfl (gives2_of HE5.out (HFIN.out _ _).1 (HFIN.out _ _).2)
end Go.Proofs.Ytapknkgbkcdchaa
