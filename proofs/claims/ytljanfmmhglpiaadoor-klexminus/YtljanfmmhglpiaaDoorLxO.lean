/-
  The contract of Lex: all words of a text, or the first fault; whatever the text.
-/
import Derived.Test.YtljanfmmhglpiaaDoorLxN
namespace Go.Proofs.YtljanfmmhglpiaaDoor
open Go.ChangeShapes Go.WideShapes Go.ChangeAt Go.RowKit
open Rn (Byte)
set_option maxRecDepth 100000
set_option linter.unusedVariables false
set_option linter.unusedSimpArgs false
/-- A fault's place, as it was made. -/
structure Rf (W : World) (s : Nat) : Prop where
  lt : s < W.heap.size
  f0 : W.cell? ⟨s, 0, none⟩ = some (.int .i64 0)
  f1 : W.cell? ⟨s, 1, none⟩ = some (.int .i64 0)
  f2 : W.cell? ⟨s, 2, none⟩ = some (.int .i64 0)
  z : ∀ i, W.frozen? ⟨s, i, none⟩ = false
theorem Rf.next {W W' : World} {s B : Nat} (h : Rf W s) (hb : Below B W W') (hB : s < B) : Rf W' s := by
  obtain ⟨h0, b0, b1, b2, z⟩ := h
  have c : ∀ i v, W.cell? ⟨s, i, none⟩ = some v → W'.cell? ⟨s, i, none⟩ = some v := fun i v hv => (hb.cell (p := ⟨s, i, none⟩) hB).trans hv
  exact ⟨Nat.lt_of_lt_of_le h0 hb.size, c _ _ b0, c _ _ b1, c _ _ b2, fun i => (hb.frozen (p := ⟨s, i, none⟩) hB).trans (z i)⟩
theorem rf_new (w : World) : Rf (w.alloc (.cells #[.int .i64 0, .int .i64 0, .int .i64 0] 26)) w.heap.size :=
  ⟨by simp, cell_new0 w _ 26 0 _ rfl, cell_new0 w _ 26 1 _ rfl, cell_new0 w _ 26 2 _ rfl, fun i => frozen_new w _ 26 i⟩
theorem Rf.put {W Z : World} {s : Nat} (h : Rf W s) (u0 u1 u2 : Value) (hZ : ((W.setCell ⟨s, 0, none⟩ u0).setCell ⟨s, 1, none⟩ u1).setCell ⟨s, 2, none⟩ u2 = Z) :
    (Z.cell? ⟨s, 0, none⟩ = some u0 ∧ Z.cell? ⟨s, 1, none⟩ = some u1 ∧ Z.cell? ⟨s, 2, none⟩ = some u2) ∧ (∀ B, B ≤ s → Below B W Z) := by
  subst hZ
  refine ⟨⟨?_, ?_, ?_⟩, fun B hB => (((Below.refl B W).setCell (p := ⟨s, 0, none⟩) hB _).setCell (p := ⟨s, 1, none⟩) hB _).setCell (p := ⟨s, 2, none⟩) hB _⟩
  · rw [World.cell?_setCell_other _ _ _ _ (by simp), World.cell?_setCell_other _ _ _ _ (by simp)]
    exact World.cell?_setCell_same' _ _ _ (by rw [h.f0]; rfl)
  · rw [World.cell?_setCell_other _ _ _ _ (by simp)]
    exact World.cell?_setCell_same' _ _ _ (by rw [World.cell?_setCell_other _ _ _ _ (by simp), h.f1]; rfl)
  · exact World.cell?_setCell_same' _ _ _ (by rw [World.cell?_setCell_other _ _ _ _ (by simp), World.cell?_setCell_other _ _ _ _ (by simp), h.f2]; rfl)
/-- Words that lie behind a block stay when that block is written. -/
def TkS (s : Nat) (w : World) (a : Option Addr) (ts : List Tk) : Prop := ∀ W, w.heap.size ≤ W.heap.size → (∀ k, k < w.heap.size → k ≠ s → W.heap[k]? = w.heap[k]?) → TkIn W a ts
/-- What Lex tells. -/
def GivesLx (F : List Tk × Int × Nat) (w : World) (e : Ending) (w' : World) : Prop :=
  (∃ a c, e = .returned (.tuple #[.slice a F.1.length c, .agg #[.int .i64 F.2.1, .int .i64 (F.2.2 : Int), .int .i64 0]]) ∧ TkIn w' a F.1) ∧ Below w.heap.size w w'
theorem owns_slice {w : World} {base n size : Nat} {e : TypeId} {v : Value} {xs : List Value} (h : w.ownsRow base e size v n xs) : ∃ a c, v = .slice a n c := by
  rcases h.2 with ⟨rfl, rfl⟩ | ⟨g, cap, cur, rfl, -⟩
  · exact ⟨none, 0, rfl⟩
  · exact ⟨_, _, rfl⟩
theorem info35 : (Tryd.prog.info? 35).map (fun i => (i.zero, i.size, i.bytes)) = some (some (.agg #[.int .i64 0, .string ⟨#[]⟩, .slice none 0 0, .slice none 0 0, .int .i64 0]), 5, 80) := by kernel_rfl
set_option maxHeartbeats 16000000 in
theorem lex8 {w : World} (G : Glb w) (st : ByteArray) (hsz : st.size ≤ maxLen) :
    Calls Tryd.prog 8 #[.string st] w fun e w' => GivesLx (lexM (numsS st)) w e w' := by
  obtain ⟨i0, hi, hz0, hz1, hz2⟩ := info_parts info35
  obtain ⟨F, hF⟩ : ∃ F, lexM (numsS st) = F := ⟨_, rfl⟩
  rw [hF]
  have hlenB := numsS_len st
  have hB0 := one_alloc w (.cells #[.int .i64 0, .int .i64 0, .int .i64 0] 26)
  have R0 := rf_new w
  obtain ⟨W0, hW0⟩ : ∃ W0, w.alloc (.cells #[.int .i64 0, .int .i64 0, .int .i64 0] 26) = W0 := ⟨_, rfl⟩
  rw [hW0] at hB0 R0
  have hs0 : W0.heap.size = w.heap.size + 1 := by rw [← hW0]; simp
  by_cases hlong : 8192 < st.size
  · have HRE := hide (show F = ([], 14, 0) by rw [← hF]; unfold lexM; rw [if_pos (by rw [hlenB]; exact hlong)])
    have HFA := hide (fault15 14 0 W0)
    have HW0 := hide hW0
    have HB0 := hide hB0
    have HR0 := hide R0
    have hlong' : 8192 < (st.size : Int) := by omega
    clear hF hlenB hB0 R0 hW0
    go_enter Tryd.func8, Tryd.ntmps8
    go_wp2_with fail
    rw [HW0.out]
    refine HFA.out.mono ?_
    rintro e w1 ⟨rfl, hb1⟩
    have HB1 := hide (HB0.out.trans (hb1.mono HB0.out.size))
    obtain ⟨rl, f0, f1, f2, fz⟩ := HR0.out.next hb1 HR0.out.lt
    have HP := hide (Rf.put ⟨rl, f0, f1, f2, fz⟩ (.int .i64 14) (.int .i64 0) (.int .i64 0) rfl)
    clear HFA HW0 HB0 HR0 hb1
    go_wp2
    obtain ⟨⟨q0, q1, q2⟩, hbz⟩ := HP.out
    exact bodyPost_ret (v := .tuple #[.slice none 0 0, .agg #[.int .i64 14, .int .i64 0, .int .i64 0]]) (by simp [results, Tryd.results8, go_sem, q0, q1, q2]) rfl (by rw [HRE.out]; exact ⟨⟨none, 0, rfl, ⟨by simp, Or.inl rfl⟩⟩, HB1.out.trans ((hbz w.heap.size (Nat.le_refl _)).mono (Nat.le_refl _))⟩)
  · clear hsz
    have hsz : st.size ≤ 140737488355328 := by omega
    have cv := Lib.run_convert_string_bytes (P := Tryd.prog) W0 9 45 5 st Tryd.underlying9 Tryd.underlying45 Tryd.underlying5
    have hcap := Go.grownCap_ge W0 st.size 0 5
    obtain ⟨C, hCC⟩ : ∃ C, grownCap W0 st.size 0 5 = C := ⟨_, rfl⟩
    obtain ⟨Wb, hWb⟩ : ∃ Wb, Lib.bytesWorld W0 5 st = Wb := ⟨_, rfl⟩
    rw [hCC] at cv hcap
    have hbb := below_bytes W0 5 st
    have hTb : Txt Wb (w.heap.size + 1) (numsS st) := by
      rw [← hWb, ← hs0]
      exact ⟨by rw [Lib.bytesWorld_size]; omega, fun i hi => by rw [Lib.bytesWorld_cell W0 5 st i (by rw [hlenB] at hi; exact hi), numsS_at st i (by rw [hlenB] at hi; exact hi)], numsS_byte st, by rw [hlenB]; exact hsz⟩
    rw [hWb, hs0] at cv
    have hsb : Wb.heap.size = w.heap.size + 2 := by rw [← hWb, Lib.bytesWorld_size, hs0]
    rw [hWb] at hbb
    have hBb := hB0.trans (hbb.mono hB0.size)
    have HSTATE : Hid (∀ wr, Below (w.heap.size + 2) Wb wr → Rf wr w.heap.size ∧ Below w.heap.size w wr ∧ Txt wr (w.heap.size + 1) (numsS st) ∧ Glb wr ∧ w.heap.size + 2 ≤ wr.heap.size) := fun wr h => by
      have hbw := hBb.trans (h.mono (by omega))
      exact ⟨(R0.next hbb R0.lt).next h (by omega), hbw, hTb.next (h.mono (by omega)), G.nx hbw, by have := h.size; omega⟩
    obtain ⟨B, hBB⟩ : ∃ B, numsS st = B := ⟨_, rfl⟩
    rw [hBB] at HSTATE hlenB hF
    obtain ⟨L, hLL⟩ : ∃ L, st.size = L := ⟨_, rfl⟩
    rw [hLL] at hlenB hlong hsz cv hcap
    have HST := hide hLL
    have HF0 := hide (show jn [] (LX B 0 (lead blB B)) = F by rw [← lexM_start (by omega)]; exact hF)
    have HL := hide hlenB
    have HW0 := hide hW0
    have hlong' : ¬ 8192 < (st.size : Int) := by rw [HST.out]; omega
    have HLD := hide (lead_drop blB B)
    have hll0 : lead blB B ≤ L := by have := lead_le blB B; omega
    have HPB0 := hide (reachB (C := C) (HSTATE.out Wb (Below.refl _ _)).2.2.1 hlenB 0 (Nat.zero_le _))
    rw [List.drop_zero, Nat.zero_add] at HPB0
    have HNXb : Hid (Below (w.heap.size + 2) Wb Wb) := Below.refl _ _
    have HSB := hide hsb
    clear hF hB0 R0 hW0 hs0 hTb hWb hbb hBb G hBB hCC hLL hsb
    go_enter Tryd.func8, Tryd.ntmps8
    go_upto_region 3 with fail
    rw [HW0.out]
    go_wp2_with fail
    refine HPB0.out.mono ?_
    rintro e w0 ⟨rfl, hb0⟩
    have HNX0 := hide (HNXb.out.trans (hb0.mono (by have := HSB.out; omega)))
    have HOWN : Hid (w0.ownsRow (w.heap.size + 2) 35 5 (.slice none 0 0) 0 []) := World.ownsRow_nil _ _ _ _
    clear HPB0 HNXb hb0 HW0 cv hlong'
    go_wp2_with fail
    go_loopg [5, 6] (L - lead blB B) (fun g lv nv wr => ∃ (q : Nat) (ts : List Tk) (vs : List Value), g + q = L ∧ nv = .int .i64 (q : Int) ∧ wr.ownsRow (w.heap.size + 2) 35 5 lv ts.length vs ∧ TkL w.heap.size lv.ownBlock wr ts vs ∧ Below (w.heap.size + 2) Wb wr ∧ ts.length ≤ 2048 ∧ lead blB (B.drop q) = 0 ∧ jn ts (LX B ts.length q) = F)
    case atStart => exact ⟨lead blB B, [], [], by omega, by go_num, HOWN.out, TkL.nil _ _ _, HNX0.out, by simp, HLD.out, HF0.out⟩
    case round =>
      clear HNX0 HOWN HF0 HLD
      obtain ⟨q, ts, vs, hj, rfl, hown, htkl, hnx, htl, hlb, htot⟩ := hrel
      have HOW := hide hown
      have HTK := hide htkl
      have HNX := hide hnx
      have HLB := hide hlb
      have HTO := hide htot
      clear hown htkl hnx hlb htot
      by_cases hqL : q < L
      · obtain ⟨-, -, htx, hgl, hl2⟩ := HSTATE.out wr HNX.out
        have HBE := hide (remark18 (C := C) htx HL.out q hqL)
        cases hrm : remB (ahd 32 B q) (B.drop q) with
        | true =>
          rw [hrm] at HBE
          have HEND := hide (show EndP B q from Or.inr hrm)
          clear htx hgl hrm
          go_wp2_with fail
          refine HBE.out.mono ?_
          rintro e w1 ⟨rfl, hb1⟩
          have HNX1 := hide (HNX.out.trans (hb1.mono hl2))
          have HOW1 := hide (owns_next HOW.out hb1)
          have HTK1 := hide (HTK.out.next hb1)
          clear HBE HNX HOW HTK hb1
          have HRE := hide (show F = (ts, 0, 0) by rw [← HTO.out, LX_end HLB.out HEND.out]; simp [jn])
          obtain ⟨pa, pc, rfl, htk⟩ := tkIn_of (s := w.heap.size) (by omega) HOW1.out HTK1.out htl
          obtain ⟨hrf, hbw, -, -, -⟩ := HSTATE.out w1 HNX1.out
          obtain ⟨rl, f0, f1, f2, fz⟩ := hrf
          have fz0 := fz 0
          have fz1 := fz 1
          have fz2 := fz 2
          have HBW := hide hbw
          have HP := hide (Rf.put ⟨rl, f0, f1, f2, fz⟩ (.int .i64 0) (.int .i64 0) (.int .i64 0) rfl)
          have HTKI := hide htk
          clear hbw htk HSTATE HTO HLB HEND HNX1 HOW1 HTK1
          generalize hTL : ts.length = TL at *
          have HTL := hide hTL
          clear hTL
          go_wp2
          obtain ⟨⟨q0, q1, q2⟩, hbz⟩ := HP.out
          exact bodyPost_ret (v := .tuple #[.slice pa TL pc, .agg #[.int .i64 0, .int .i64 0, .int .i64 0]]) (by simp [results, Tryd.results8, go_sem, q0, q1, q2]) rfl (by
            rw [HRE.out]
            refine ⟨⟨pa, pc, ?_, ?_⟩, HBW.out.trans ((hbz w.heap.size (Nat.le_refl _)).mono (Nat.le_refl _))⟩
            · show _ = Ending.returned (.tuple #[.slice pa ts.length pc, _])
              rw [HTL.out]; rfl
            · exact HTKI.out _ (hbz 0 (Nat.zero_le _)).size (fun k _ hk => by
                rw [Below.heap_setCell _ _ _ _ (by show k ≠ w.heap.size; exact hk), Below.heap_setCell _ _ _ _ (by show k ≠ w.heap.size; exact hk), Below.heap_setCell _ _ _ _ (by show k ≠ w.heap.size; exact hk)]))
        | false =>
          rw [hrm] at HBE
          have HNE := hide (show ¬ (EndP B q) from fun h => h.elim (fun h0 => by have := congrArg List.length h0; rw [List.length_drop, HL.out] at this; simp at this; omega) (fun h1 => by rw [hrm] at h1; cases h1))
          clear htx hgl hrm
          go_wp2_with fail
          refine HBE.out.mono ?_
          rintro e w1 ⟨rfl, hb1⟩
          have HNX1 := hide (HNX.out.trans (hb1.mono hl2))
          have HOW1 := hide (owns_next HOW.out hb1)
          have HTK1 := hide (HTK.out.next hb1)
          clear HBE HNX HOW HTK hb1 hl2
          obtain ⟨-, -, htx, hgl, hl2⟩ := HSTATE.out w1 HNX1.out
          have HRD := hide (read19 htx hgl HL.out hcap hqL (by omega))
          rw [show readW (ahd 32 B q) (B.drop q) = RW B q from rfl] at HRD
          clear htx hgl
          go_wp2_with fail
          refine HRD.out.mono ?_
          rintro e w2 ⟨⟨z1, m1, z2, m2, ta, en, fa, rfl, hin, h0, h1⟩, hb2⟩
          have HB2 := hide hb2
          have HIN := hide hin
          have H0 := hide h0
          have H1 := hide h1
          have hne : B.drop q ≠ [] := fun h => HNE.out (Or.inl h)
          have hrend := (readW_end (v := ahd 32 B q) hne).1
          rw [List.length_drop, HL.out, show readW (ahd 32 B q) (B.drop q) = RW B q from rfl] at hrend
          have HLONG := hide (fun hk => show F = ([], 14, q) by
            have h := HTO.out
            rw [LX_long HLB.out HNE.out hk] at h
            rw [← h]
            simp [jn])
          have HBAD := hide (fun hk he => show F = ([], (RW B q).err, q + (RW B q).ea) by
            have h := HTO.out
            rw [LX_bad HLB.out HNE.out hk he] at h
            rw [← h]
            unfold jn
            rw [if_neg he])
          have HGO := hide (fun hk he => (LX_go (ts := ts) (n := ts.length) HLB.out HNE.out hk he).symm.trans HTO.out)
          clear HRD HTO HLB HNE hin h0 h1 hb2 hne
          generalize RW B q = r at *
          have HREND := hide hrend
          clear hrend
          generalize hSS : strOfNums r.text = SS at *
          generalize hn1 : r.lit.shape.length = n1 at *
          generalize hn2 : r.lit.cells.length = n2 at *
          generalize hkd : r.kind = kd at *
          generalize her : r.err = er at *
          have HEQ := hide (And.intro hSS (And.intro hn1 (And.intro hn2 (And.intro hkd her))))
          clear hSS hn1 hn2 hkd her
          have HNX2 := hide (HNX1.out.trans (HB2.out.mono hl2))
          have HOW2 := hide (owns_next HOW1.out HB2.out)
          have HTK2 := hide (HTK1.out.next HB2.out)
          have HLTG := hide (fun k hk => (HOW1.out.lt k hk).2)
          have HL1 := hide hl2
          obtain ⟨W3, hW3⟩ : ∃ W3, (w2.alloc (.cells #[.int .i64 kd, .string SS, .slice z1 n1 m1, .slice z2 n2 m2, .int .i64 ta] 35)).alloc (.cells #[.int .i64 er, .int .i64 fa, .int .i64 0] 26) = W3 := ⟨_, rfl⟩
          have hb3 : Below w2.heap.size w2 W3 := by rw [← hW3]; exact two_allocs _ _ _
          have D3 : Wd W3 w2.heap.size kd SS (.slice z1 n1 m1) (.slice z2 n2 m2) ta := by rw [← hW3]; exact (wd_new w2 kd SS _ _ ta).next (one_alloc _ _) (by simp)
          have E3 : W3.cell? ⟨w2.heap.size + 1, 0, none⟩ = some (.int .i64 er) ∧ W3.cell? ⟨w2.heap.size + 1, 1, none⟩ = some (.int .i64 fa) ∧ W3.cell? ⟨w2.heap.size + 1, 2, none⟩ = some (.int .i64 0) := by
            have hs : (w2.alloc (.cells #[.int .i64 kd, .string SS, .slice z1 n1 m1, .slice z2 n2 m2, .int .i64 ta] 35)).heap.size = w2.heap.size + 1 := by simp
            rw [← hW3, ← hs]
            exact ⟨cell_new0 _ _ 26 0 _ rfl, cell_new0 _ _ 26 1 _ rfl, cell_new0 _ _ 26 2 _ rfl⟩
          obtain ⟨-, -, -, -, hl3⟩ := HSTATE.out w2 HNX2.out
          have HNX3 := hide (HNX2.out.trans (hb3.mono hl3))
          have HOW3 := hide (owns_next HOW2.out hb3)
          have HTK3 := hide (HTK2.out.next hb3)
          have HB23 := hide hb3
          obtain ⟨la, lc, rfl⟩ := owns_slice HOW3.out
          have HW3 := hide hW3
          clear HNX1 HOW1 HTK1 HNX2 HOW2 HTK2 hb3 hW3 hl2
          obtain ⟨dl, t0, t1, t2, t3, t4, dz⟩ := D3
          obtain ⟨e0, e1, e2⟩ := E3
          generalize hTL : ts.length = TL at *
          have HTL := hide hTL
          clear hTL
          by_cases hk0 : kd = 0
          · have her : ¬ er = 0 := fun h => (HREND.out h).2.2 hk0
            have HRE := hide (HBAD.out (fun h => h.1 hk0) her)
            have HFA := hide (H1.out her)
            have her' : (er != 0) = true := bne_iff_ne.2 her
            subst hk0
            clear HLONG HBAD HGO HREND H0 H1 her HTK3 HOW3 HLTG HEQ
            go_upto_region 8 with fail
            rw [HW3.out]
            obtain ⟨hrf, hbw, -, -, -⟩ := HSTATE.out W3 HNX3.out
            have HBW := hide hbw
            obtain ⟨rl, f0, f1, f2, fz⟩ := hrf
            have HP := hide (Rf.put ⟨rl, f0, f1, f2, fz⟩ (.int .i64 er) (.int .i64 fa) (.int .i64 0) rfl)
            have HPD := hide (Rf.put (Rf.next ⟨rl, f0, f1, f2, fz⟩ ((Below.refl W3.heap.size W3).drew) rl) (.int .i64 er) (.int .i64 fa) (.int .i64 0) rfl)
            clear hbw HSTATE HNX3
            have p0 := World.cell?_setCell_same' W3 ⟨w.heap.size, 0, none⟩ (.int .i64 er) (by rw [f0]; rfl)
            have p1 := World.cell?_setCell_same' (W3.setCell ⟨w.heap.size, 0, none⟩ (.int .i64 er)) ⟨w.heap.size, 1, none⟩ (.int .i64 fa) (by rw [World.cell?_setCell_other _ _ _ _ (by simp), f1]; rfl)
            have p2 := World.cell?_setCell_same' ((W3.setCell ⟨w.heap.size, 0, none⟩ (.int .i64 er)).setCell ⟨w.heap.size, 1, none⟩ (.int .i64 fa)) ⟨w.heap.size, 2, none⟩ (.int .i64 0) (by rw [World.cell?_setCell_other _ _ _ _ (by simp), World.cell?_setCell_other _ _ _ _ (by simp), f2]; rfl)
            have HPP := hide (And.intro p0 (And.intro p1 p2))
            clear p0 p1 p2 HPD
            go_upto_region 11 with fail
            go_region
            all_goals
              go_wp2
              obtain ⟨p0, p1, p2⟩ := HPP.out
              obtain ⟨⟨q0, q1, q2⟩, hbz⟩ := HP.out
              exact bodyPost_ret (v := .tuple #[.slice none 0 0, .agg #[.int .i64 er, .int .i64 fa, .int .i64 0]]) (by simp [results, Tryd.results8, go_sem, q0, q1, q2, p0, p1, p2]) rfl (by rw [HRE.out]; rw [HFA.out] at hbz; rw [HFA.out]; exact ⟨⟨none, 0, rfl, ⟨by simp, Or.inl rfl⟩⟩, (HBW.out.trans ((hbz w.heap.size (Nat.le_refl _)).mono (Nat.le_refl _))).drew⟩)
          · have hk0' : (kd != 0) = true := bne_iff_ne.2 hk0
            by_cases hTL : TL = 2048
            · have HRE := hide (HLONG.out ⟨hk0, hTL⟩)
              subst hTL
              have HFT := hide (fault15 14 (q : Int) W3)
              clear HLONG HBAD HGO HREND H0 H1 HTK3 HOW3 HLTG HEQ
              go_upto_region 8 with fail
              rw [HW3.out]
              obtain ⟨hrf, hbw, -, -, -⟩ := HSTATE.out W3 HNX3.out
              have HRF := hide hrf
              have HBW := hide hbw
              clear hrf hbw HSTATE HNX3
              go_wp2_with fail
              refine HFT.out.mono ?_
              rintro e w5 ⟨rfl, hb5⟩
              have HB5 := hide (HBW.out.trans (hb5.mono HBW.out.size))
              obtain ⟨rl, f0, f1, f2, fz⟩ := HRF.out.next hb5 HRF.out.lt
              have HP := hide (Rf.put ⟨rl, f0, f1, f2, fz⟩ (.int .i64 14) (.int .i64 (q : Int)) (.int .i64 0) rfl)
              clear HFT HRF hb5 HBW
              go_wp2
              obtain ⟨⟨q0, q1, q2⟩, hbz⟩ := HP.out
              exact bodyPost_ret (v := .tuple #[.slice none 0 0, .agg #[.int .i64 14, .int .i64 (q : Int), .int .i64 0]]) (by simp [results, Tryd.results8, go_sem, q0, q1, q2]) rfl (by rw [HRE.out]; exact ⟨⟨none, 0, rfl, ⟨by simp, Or.inl rfl⟩⟩, HB5.out.trans ((hbz w.heap.size (Nat.le_refl _)).mono (Nat.le_refl _))⟩)
            · have hTL' : ((TL : Int) == 2048) = false := beq_eq_false_iff_ne.2 (by omega)
              have hcond : ¬ (¬ kd = 0 ∧ TL = 2048) := fun h => hTL h.2
              by_cases her : er = 0
              · obtain ⟨rfl, rfl, rfl⟩ := H0.out her
                obtain ⟨hs1, hs2, -⟩ := HREND.out her
                have HGO' := hide (HGO.out hcond her)
                subst her
                clear HLONG HBAD HGO HREND H0 H1 hcond
                go_upto_region 8 with fail
                rw [HW3.out]
                have hown3 := HOW3.out
                go_wp2_with (at_builtin; refine wpList_append_at rfl _ _ 23 rfl (w.heap.size + 2) 35 i0 (.agg #[.int .i64 0, .string ⟨#[]⟩, .slice none 0 0, .slice none 0 0, .int .i64 0]) 5 80 Tryd.underlying23 hi hz0 hz1 hz2 rfl (by decide) _ _ _ rfl (hown3.alloc _) ⟨W3.heap.size, 0, none⟩ 1 1 [.int .i64 kd, .string SS, .slice z1 n1 m1, .slice z2 n2 m2, .int .i64 (q : Int)] rfl rfl ?c1 ?c2 ?c3 ?c4 ?c5 ?_)
                case c1 =>
                  intro j u hj
                  match j, hj with
                  | 0, hj => simp at hj; subst hj; simp [Addr.add]
                  | 1, hj => simp at hj; subst hj; simp [Addr.add]
                  | 2, hj => simp at hj; subst hj; simp [Addr.add]
                  | 3, hj => simp at hj; subst hj; simp [Addr.add]
                  | 4, hj => simp at hj; subst hj; simp [Addr.add]
                case c2 => intro u hu; simp at hu; rcases hu with rfl | rfl | rfl | rfl | rfl <;> rfl
                case c3 => unfold maxLen; omega
                case c4 => omega
                case c5 => simp; have := HNX3.out.size; have := HSB.out; omega
                intro v' w4 hown4 hgrow hwhere
                obtain ⟨WA, hWA⟩ : ∃ WA, W3.alloc (.cells #[.int .i64 kd, .string SS, .slice z1 n1 m1, .slice z2 n2 m2, .int .i64 (q : Int)] 35) = WA := ⟨_, rfl⟩
                rw [hWA] at hgrow
                have hsa : WA.heap.size = W3.heap.size + 1 := by rw [← hWA]; simp
                rw [← hsa] at hwhere
                have hba : Below W3.heap.size W3 WA := by rw [← hWA]; exact one_alloc _ _
                have HOW4 := hide hown4
                have HTK4 : Hid (TkL w.heap.size v'.ownBlock w4 (ts ++ [⟨r.kind, r.text, r.lit, q⟩]) (vs ++ [.int .i64 kd, .string SS, .slice z1 n1 m1, .slice z2 n2 m2, .int .i64 (q : Int)])) := by
                  obtain ⟨hSS, hn1, hn2, hkd, her⟩ := HEQ.out
                  have hlit : LitIn w.heap.size (Value.slice la TL lc).ownBlock WA r.lit (.agg #[.slice z1 r.lit.shape.length m1, .slice z2 r.lit.cells.length m2]) := by
                    rw [hn1, hn2]
                    refine ((LitIn.of HIN.out (by have := HL1.out; omega) (fun k hk => HLTG.out k hk)).next HB23.out).next hba
                  have := (HTK3.out.next hba).snoc (t := ⟨r.kind, r.text, r.lit, q⟩) (by rw [HTL.out]; exact hown3.1) hlit hgrow hwhere
                  rw [← hSS, ← hn1, ← hn2, ← hkd]
                  exact this
                have HNX4 := hide ((HNX3.out.trans (hba.mono (by have := HNX3.out.size; have := HSB.out; omega))).grown hgrow (by have := HNX3.out.size; have := HSB.out; have := hba.size; omega) (fun k hk => (hown3.lt k hk).1))
                have HKD := hide HEQ.out.2.2.2.1
                clear hown4 hgrow hwhere hWA hba hown3 HTK3 HOW3 HIN HB2 HB23 HLTG HEQ
                obtain ⟨-, -, htx4, -, hl4⟩ := HSTATE.out w4 HNX4.out
                have HPB := hide (reachB (C := C) htx4 HL.out (q + r.stop) (by omega))
                obtain ⟨nx, hnx⟩ : ∃ nx, q + r.stop + lead blB (B.drop (q + r.stop)) = nx := ⟨_, rfl⟩
                have hle : nx ≤ L := by
                  have := lead_le blB (B.drop (q + r.stop))
                  rw [List.length_drop, HL.out] at this
                  omega
                have HLB2 := hide (show lead blB (B.drop nx) = 0 by
                  have := lead_drop blB (B.drop (q + r.stop))
                  rw [List.drop_drop, hnx] at this
                  exact this)
                rw [hnx] at HPB HGO'
                have hqn : q < nx := by omega
                clear htx4 hnx
                go_wp2_with fail
                refine HPB.out.mono ?_
                rintro e w5 ⟨rfl, hb5⟩
                have HNX5 := hide (HNX4.out.trans (hb5.mono hl4))
                have HOW5 := hide (owns_next HOW4.out hb5)
                have HTK5 := hide (HTK4.out.next hb5)
                clear HPB HNX4 HOW4 HTK4 hb5
                go_wp2
                go_roundg (L - nx)
                case rel => exact ⟨nx, ts ++ [⟨r.kind, r.text, r.lit, q⟩], _, by omega, rfl, by rw [List.length_append, HTL.out]; exact HOW5.out, HTK5.out, HNX5.out, by rw [List.length_append, HTL.out]; simp; omega, HLB2.out, by rw [List.length_append, HTL.out, HKD.out]; exact HGO'.out⟩
                case measure => omega
              · have HRE := hide (HBAD.out hcond her)
                have HFA := hide (H1.out her)
                have her' : (er != 0) = true := bne_iff_ne.2 her
                clear HLONG HBAD HGO HREND H0 H1 her HTK3 HOW3 HLTG HEQ hcond
                go_upto_region 8 with fail
                rw [HW3.out]
                obtain ⟨hrf, hbw, -, -, -⟩ := HSTATE.out W3 HNX3.out
                have HBW := hide hbw
                obtain ⟨rl, f0, f1, f2, fz⟩ := hrf
                have HP := hide (Rf.put ⟨rl, f0, f1, f2, fz⟩ (.int .i64 er) (.int .i64 fa) (.int .i64 0) rfl)
                have HPD := hide (Rf.put (Rf.next ⟨rl, f0, f1, f2, fz⟩ ((Below.refl W3.heap.size W3).drew) rl) (.int .i64 er) (.int .i64 fa) (.int .i64 0) rfl)
                clear hbw HSTATE HNX3
                have p0 := World.cell?_setCell_same' W3 ⟨w.heap.size, 0, none⟩ (.int .i64 er) (by rw [f0]; rfl)
                have p1 := World.cell?_setCell_same' (W3.setCell ⟨w.heap.size, 0, none⟩ (.int .i64 er)) ⟨w.heap.size, 1, none⟩ (.int .i64 fa) (by rw [World.cell?_setCell_other _ _ _ _ (by simp), f1]; rfl)
                have p2 := World.cell?_setCell_same' ((W3.setCell ⟨w.heap.size, 0, none⟩ (.int .i64 er)).setCell ⟨w.heap.size, 1, none⟩ (.int .i64 fa)) ⟨w.heap.size, 2, none⟩ (.int .i64 0) (by rw [World.cell?_setCell_other _ _ _ _ (by simp), World.cell?_setCell_other _ _ _ _ (by simp), f2]; rfl)
                have HPP := hide (And.intro p0 (And.intro p1 p2))
                clear p0 p1 p2 HPD
                go_upto_region 11 with fail
                go_region
                all_goals
                  go_wp2
                  obtain ⟨p0, p1, p2⟩ := HPP.out
                  obtain ⟨⟨q0, q1, q2⟩, hbz⟩ := HP.out
                  exact bodyPost_ret (v := .tuple #[.slice none 0 0, .agg #[.int .i64 er, .int .i64 fa, .int .i64 0]]) (by simp [results, Tryd.results8, go_sem, q0, q1, q2, p0, p1, p2]) rfl (by rw [HRE.out]; rw [HFA.out] at hbz; rw [HFA.out]; exact ⟨⟨none, 0, rfl, ⟨by simp, Or.inl rfl⟩⟩, (HBW.out.trans ((hbz w.heap.size (Nat.le_refl _)).mono (Nat.le_refl _))).drew⟩)
      · have hqe : q = L := by omega
        have HEND := hide (show EndP B q from Or.inl (List.drop_eq_nil_of_le (by rw [HL.out]; omega)))
        subst hqe
        have HRE := hide (show F = (ts, 0, 0) by rw [← HTO.out, LX_end HLB.out HEND.out]; simp [jn])
        obtain ⟨pa, pc, rfl, htk⟩ := tkIn_of (s := w.heap.size) (by omega) HOW.out HTK.out htl
        obtain ⟨hrf, hbw, -, -, -⟩ := HSTATE.out wr HNX.out
        obtain ⟨rl, f0, f1, f2, fz⟩ := hrf
        have fz0 := fz 0
        have fz1 := fz 1
        have fz2 := fz 2
        have HBW := hide hbw
        have HP := hide (Rf.put ⟨rl, f0, f1, f2, fz⟩ (.int .i64 0) (.int .i64 0) (.int .i64 0) rfl)
        have HTKI := hide htk
        clear hbw htk HSTATE HTO HLB HEND HNX HOW HTK
        generalize hTL : ts.length = TL at *
        have HTL := hide hTL
        clear hTL
        go_wp2
        obtain ⟨⟨q0, q1, q2⟩, hbz⟩ := HP.out
        exact bodyPost_ret (v := .tuple #[.slice pa TL pc, .agg #[.int .i64 0, .int .i64 0, .int .i64 0]]) (by simp [results, Tryd.results8, go_sem, q0, q1, q2]) rfl (by
          rw [HRE.out]
          refine ⟨⟨pa, pc, ?_, ?_⟩, HBW.out.trans ((hbz w.heap.size (Nat.le_refl _)).mono (Nat.le_refl _))⟩
          · show _ = Ending.returned (.tuple #[.slice pa ts.length pc, _])
            rw [HTL.out]; rfl
          · exact HTKI.out _ (hbz 0 (Nat.zero_le _)).size (fun k _ hk => by
              rw [Below.heap_setCell _ _ _ _ (by show k ≠ w.heap.size; exact hk), Below.heap_setCell _ _ _ _ (by show k ≠ w.heap.size; exact hk), Below.heap_setCell _ _ _ _ (by show k ≠ w.heap.size; exact hk)]))
end Go.Proofs.YtljanfmmhglpiaaDoor
