/-
  The contract of the document's count.
-/
import Derived.Test.YtmjncdhahdpplaaPkA
namespace Go.Proofs.Ytmjncdhahdpplaa
open Go.ChangeShapes Go.WideShapes Go.ChangeAt Go.RowKit
set_option linter.unusedVariables false
set_option maxRecDepth 100000
set_option maxHeartbeats 4000000 in
theorem rcount_any {n lo : Nat} {x : Ar} {va : Value} {w : World} (hx : ArIn (n + 1) lo w x va) (hchk : chkA 8 x = 0) : Calls Try.prog 38 #[va] w fun e w' => Gives2 (n + 1) w.heap.size (iotaR x).1 (iotaR x).2 w e w' := by
  obtain ⟨a1, c1, a2, c2, rfl, R, hc⟩ := hx.form
  have I := in2_new w (.slice a1 x.shape.length c1) (.slice a2 x.cells.length c2)
  obtain ⟨i2, hi2, hz20, hz21, hz22⟩ := info2'
  have q0 := I.q0
  have q1 := I.q1
  have hl := R.1
  have HI := hide I
  by_cases h0 : 0 < x.shape.length
  · have e : iotaR x = (zeroA, 6) := by unfold iotaR; rw [if_pos h0]
    rw [e]
    clear R hc I hx hchk
    generalize x.shape.length = SA at *
    generalize x.cells.length = CA at *
    have h1 : (0 : Int) < (SA : Int) := by omega
    go_enter Try.func38, Try.ntmps38
    go_wp2
    exact bodyPost_ret (v := .tuple #[.agg #[.slice none 0 0, .slice none 0 0], .int .i64 6]) (by simp [results, Try.results38, go_sem]) rfl ⟨⟨_, rfl, zeroA_in _ _ _⟩, HI.out.bel⟩
  · obtain ⟨-, hone⟩ := atom_one hchk (by omega)
    obtain ⟨ab, cb, hcf⟩ := cells_fn hc
    obtain ⟨b, off, rfl, -, hb, hcells⟩ := hcf (by omega)
    obtain ⟨g0, g1, g2, -⟩ := hcells 0 (by omega)
    simp only [Nat.zero_mul, Nat.add_zero] at g0 g1 g2
    have HE : Hid (iotaR x = if isC (cAt x.cells 0) = false then (zeroA, 5) else if 16384 < (cAt x.cells 0).2.1 then (zeroA, 12) else (numsA (upL (cAt x.cells 0).2.1.toNat), 0)) := by unfold iotaR Hid; rw [if_neg h0]
    have hs0 : x.shape.length = 0 := by omega
    rw [hs0, hone] at q0 q1 HI I ⊢
    have r0 := (I.bel.cell (p := ⟨b, off, none⟩) hb).trans g0
    have r1 := (I.bel.cell (p := ⟨b, off + 1, none⟩) hb).trans g1
    have r2 := (I.bel.cell (p := ⟨b, off + 2, none⟩) hb).trans g2
    clear hcells hcf hc R hx hchk g0 g1 g2
    have HCC : Hid (isC (cAt x.cells 0) = (decide ((cAt x.cells 0).1 = 0) && decide (0 ≤ (cAt x.cells 0).2.1))) := rfl
    generalize (cAt x.cells 0).2.2.length = nb at *
    generalize ab 0 = ab0 at *
    generalize cb 0 = cb0 at *
    generalize (cAt x.cells 0).1 = ck at *
    generalize (cAt x.cells 0).2.1 = cN at *
    obtain ⟨W2, e2⟩ : ∃ W2, (w.alloc (.cells #[.slice a1 0 c1, .slice (some ⟨b, off, none⟩) 1 c2] 25)).alloc (.cells #[.slice none 0 0, .slice none 0 0] 25) = W2 := ⟨_, rfl⟩
    rw [e2] at HI I q0 q1 r0 r1 r2
    have hz2 : W2.heap.size = w.heap.size + 2 := by rw [← e2]; simp
    have i0 := cell_new0 W2 #[.int .i64 ck, .int .i64 cN, .slice ab0 nb cb0] 36 0 _ rfl
    have i1 := cell_new0 W2 #[.int .i64 ck, .int .i64 cN, .slice ab0 nb cb0] 36 1 _ rfl
    obtain ⟨W3, e3⟩ : ∃ W3, W2.alloc (.cells #[.int .i64 ck, .int .i64 cN, .slice ab0 nb cb0] 36) = W3 := ⟨_, rfl⟩
    rw [e3, hz2] at i0 i1
    have I3 : In2 w (.slice a1 0 c1) (.slice (some ⟨b, off, none⟩) 1 c2) W3 := by rw [← e3]; exact I.alloc _
    have z3 : W3.heap.size = w.heap.size + 3 := by rw [← e3]; simp [hz2]
    have p0 := I3.p0
    have p1 := I3.p1
    have f0 := I3.f0
    have f1 := I3.f1
    have HI4 := hide I3
    have HZ := hide z3
    have k1 : W3.cell? ⟨w.heap.size + 2, 1, none⟩ = some (.int .i64 cN) := i1
    clear I I3 z3
    by_cases hC : isC (cAt x.cells 0) = false
    · have e : iotaR x = (zeroA, 5) := by rw [HE.out, if_pos hC]
      have HE5 := hide e
      have HT := hide (HI4.out.put (.slice none 0 0) (.slice none 0 0))
      have hC2 := hC
      rw [HCC.out] at hC2
      clear HE e hC HCC
      by_cases hk : ck = 0
      · have hN : cN < 0 := by simp [hk] at hC2; exact hC2
        subst hk
        clear hC2
        go_enter Try.func38, Try.ntmps38
        go_wp2
        exact bodyPost_ret (v := .tuple #[.agg #[.slice none 0 0, .slice none 0 0], .int .i64 5]) (by simp [results, Try.results38, go_sem, HT.out.1, HT.out.2]) rfl (gives2_of HE5.out (zeroA_in _ _ _) (HI4.out.fin _ _))
      · have hkb : (ck == 0) = false := by simp [hk]
        clear hC2
        go_enter Try.func38, Try.ntmps38
        go_wp2
        exact bodyPost_ret (v := .tuple #[.agg #[.slice none 0 0, .slice none 0 0], .int .i64 5]) (by simp [results, Try.results38, go_sem, HT.out.1, HT.out.2]) rfl (gives2_of HE5.out (zeroA_in _ _ _) (HI4.out.fin _ _))
    · have hC' : isC (cAt x.cells 0) = true := by simpa using hC
      rw [HCC.out] at hC'
      simp at hC'
      obtain ⟨rfl, hN0⟩ := hC'
      by_cases hbig : 16384 < cN
      · have e : iotaR x = (zeroA, 12) := by rw [HE.out, if_neg hC, if_pos hbig]
        have HE5 := hide e
        have HT := hide (HI4.out.put (.slice none 0 0) (.slice none 0 0))
        clear HE e hC HCC
        go_enter Try.func38, Try.ntmps38
        go_wp2
        exact bodyPost_ret (v := .tuple #[.agg #[.slice none 0 0, .slice none 0 0], .int .i64 12]) (by simp [results, Try.results38, go_sem, HT.out.1, HT.out.2]) rfl (gives2_of HE5.out (zeroA_in _ _ _) (HI4.out.fin _ _))
      · have e : iotaR x = (numsA (upL cN.toNat), 0) := by rw [HE.out, if_neg hC, if_neg hbig]
        have HE5 := hide e
        obtain ⟨m, hm⟩ : ∃ m : Nat, cN = (m : Int) := ⟨cN.toNat, by omega⟩
        subst hm
        rw [Int.toNat_natCast] at HE5
        clear HE e hC HCC p0 p1 f0 f1
        go_enter Try.func38, Try.ntmps38
        go_wp2
        clear e2 e3 r0 r1 r2 q0 q1 hz2 i0 i1
        go_loopg [5, 6] m (fun g mv i wr => ∃ k : Nat, g + k = m ∧ i = .int .i64 (k : Int) ∧ Below W3.heap.size W3 wr ∧ wr.ownsRow W3.heap.size 2 1 mv k (((upL m).take k).map (Value.int .i64)))
        case atStart => exact ⟨0, rfl, rfl, Below.refl _ _, World.ownsRow_nil _ _ _ _⟩
        case round =>
          obtain ⟨k, hg, rfl, hnx, hown⟩ := hrel
          have hs1 := HZ.out
          have k1' : wr.cell? ⟨w.heap.size + 2, 1, none⟩ = some (.int .i64 (m : Int)) := (hnx.cell (p := ⟨w.heap.size + 2, 1, none⟩) (by show w.heap.size + 2 < _; omega)).trans k1
          by_cases hlt : k < m
          · have HST := hide (take_map_step (upL m) k (by rw [upL_len]; exact hlt))
            rw [upL_at m k hlt] at HST
            have OWN := hown.alloc (.cells #[.int .i64 (k : Int)] 2)
            have HNW : Hid (∀ i u, [Value.int .i64 (k : Int)][i]? = some u → (wr.alloc (.cells #[.int .i64 (k : Int)] 2)).cell? ((⟨wr.heap.size, 0, none⟩ : Addr).add i) = some u) := by
              intro i u hu
              rw [add_off, Nat.zero_add]
              exact cell_new0 wr _ 2 i u (by simpa using hu)
            have HZ2 : Hid (W3.heap.size ≤ (wr.alloc (.cells #[.int .i64 (k : Int)] 2)).heap.size) := Nat.le_trans hnx.size (one_alloc _ _).size
            have HNX := hide (hnx.trans ((one_alloc wr (.cells #[.int .i64 (k : Int)] 2)).mono hnx.size))
            clear hown hs1
            go_wp2_with (at_builtin; refine wpList_append_B rfl _ _ 47 rfl W3.heap.size 2 i2 (.int .i64 0) 1 8 Try.underlying47 hi2 hz20 hz21 hz22 rfl (by decide) _ _ _ rfl OWN ⟨wr.heap.size, 0, none⟩ 1 1 [.int .i64 (k : Int)] rfl rfl HNW.out ?c2 ?c3 ?c4 HZ2.out ?_)
            case c2 =>
              intro u hu
              simp at hu
              subst hu
              rfl
            case c3 => unfold maxLen; omega
            case c4 => omega
            intro v' w1 hown1 hb1
            have hown2 : w1.ownsRow W3.heap.size 2 1 v' (k + 1) (((upL m).take (k + 1)).map (Value.int .i64)) := by rw [HST.out]; simpa using hown1
            have HF := hide (And.intro (HNX.out.trans hb1) hown2)
            clear hown1 hown2 hb1 OWN HNW HZ2 HNX HST hnx k1'
            go_wp2
            go_roundg (m - (k + 1))
            case rel => exact ⟨k + 1, by omega, by go_num, HF.out⟩
            case measure => omega
          · have hke : k = m := by omega
            subst hke
            rw [List.take_of_length_le (by rw [upL_len]; omega)] at hown
            have hul : (upL k).length = k := upL_len k
            rw [← hul] at hown
            rw [hul] at hown
            obtain ⟨a', cap', rfl, RR⟩ := owns_rowE (upL k) (by rw [upL_len]; omega) (by rw [upL_len]; exact hown)
            have C := rnums_any n (upL k) a' cap' wr RR (by rw [upL_len]; omega)
            rw [upL_len] at C ⊢
            have HN := hide hnx
            clear hown hnx hs1 RR hul
            go_wp2_with fail
            refine C.mono ?_
            rintro e w1 ⟨⟨v, rfl, hv⟩, hb1⟩
            obtain ⟨y1, d1, y2, d2, rfl, -, -⟩ := hv.form
            have hs1 := HZ.out
            have I5 := HI4.out.belowS (HN.out.trans (hb1.mono HN.out.size)) (by omega)
            have p0 := I5.p0
            have p1 := I5.p1
            have f0 := I5.f0
            have f1 := I5.f1
            have HT := hide (I5.put (.slice y1 (numsA (upL k)).shape.length d1) (.slice y2 (numsA (upL k)).cells.length d2))
            have HF := hide (I5.give hv (by have := HN.out.size; omega))
            have HFI := hide I5.fin
            clear I5 hb1 hv C HN hs1 k1'
            generalize (numsA (upL k)).shape.length = SB at *
            generalize (numsA (upL k)).cells.length = CB at *
            go_wp2
            exact bodyPost_ret (v := .tuple #[.agg #[.slice y1 SB d1, .slice y2 CB d2], .int .i64 0]) (by simp [results, Try.results38, go_sem, HT.out.1, HT.out.2]) rfl (gives2_of HE5.out (HF.out _ _) (HFI.out _ _))
end Go.Proofs.Ytmjncdhahdpplaa
