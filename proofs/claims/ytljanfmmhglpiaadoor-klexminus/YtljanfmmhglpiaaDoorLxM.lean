/-
  The contract of read: the word at a place, of whatever kind.
-/
import Derived.Test.YtljanfmmhglpiaaDoorLxW
namespace Go.Proofs.YtljanfmmhglpiaaDoor
open Go.ChangeShapes Go.WideShapes Go.ChangeAt Go.RowKit
open Rn (Byte)
set_option maxRecDepth 100000
set_option linter.unusedVariables false
set_option linter.unusedSimpArgs false
set_option maxHeartbeats 8000000 in
theorem read19 {w : World} {b C L a : Nat} {B : List Int} (hT : Txt w b B) (G : Glb w) (hL : B.length = L) (hC : L ≤ C) (ha : a < L) (hL8 : L ≤ 8192) :
    Calls Tryd.prog 19 #[.slice (some ⟨b, 0, none⟩) L C, .int .i64 (a : Int)] w fun e w' => GivesT (readW (ahd 32 B a) (B.drop a)) a w e w' := by
  obtain ⟨W1, hW1⟩ : ∃ W1, (w.alloc (.cells #[.int .i64 0, .string ⟨#[]⟩, .slice none 0 0, .slice none 0 0, .int .i64 0] 35)).alloc (.cells #[.int .i64 0, .int .i64 0, .int .i64 0] 26) = W1 := ⟨_, rfl⟩
  have hb1 : Below w.heap.size w W1 := by rw [← hW1]; exact two_allocs _ _ _
  have R1 : Rs2 W1 w.heap.size := by rw [← hW1]; exact rs2_new w
  have HN22 := hide (number22 (C := C) (hT.next hb1) hL a (by omega))
  have HT : Hid (∀ W, Below w.heap.size w W → Txt W b B ∧ Glb W) := fun W h => ⟨hT.next h, G.nx h⟩
  have hhd : (B.drop a).headD 0 = B[a]?.getD 0 := by rw [drop_cons (by omega)]; rfl
  have hrw : readW (ahd 32 B a) (B.drop a) = if numB (ahd 32 B a) (B.drop a) then readN (B.drop a) else if B[a]?.getD 0 = 34 then readT (B.drop a) else if ltB (B[a]?.getD 0) then readM (B.drop a) else readS (B.drop a) := by unfold readW; rw [hhd]
  generalize readW (ahd 32 B a) (B.drop a) = RW at *
  have HRW := hide hrw
  have HL := hide hL
  have HW1 := hide hW1
  have HB1 := hide hb1
  have HR1 := hide R1
  clear hT G hL hW1 hb1 R1 hrw hhd
  go_enter Tryd.func19, Tryd.ntmps19
  go_wp2_with fail
  rw [HW1.out]
  refine HN22.out.mono ?_
  rintro e w1 ⟨rfl, hb1⟩
  have HB2 := hide (HB1.out.trans (hb1.mono HB1.out.size))
  have HR2 := hide (HR1.out.next hb1 HR1.out.lt)
  clear HN22 HW1 HB1 HR1 hb1
  obtain ⟨htx, hgl⟩ := HT.out w1 HB2.out
  cases hnb : numB (ahd 32 B a) (B.drop a) with
  | true =>
    rw [hnb] at HRW
    have HRE := hide (show RW = readN (B.drop a) from HRW.out)
    have HC := hide (readnums23 htx hgl HL.out hC ha hL8 hnb)
    clear HRW HT htx hgl hnb
    go_wp2_with fail
    refine HC.out.mono ?_
    clear HC
    rintro e w3 ⟨⟨z1, m1, z2, m2, ta, en, fa, rfl, hin, h0, h1⟩, hb3⟩
    have HIN := hide hin
    have H0 := hide h0
    have H1 := hide h1
    have HB3 := hide (HB2.out.trans (hb3.mono HB2.out.size))
    have HR3 := hide (HR2.out.next hb3 HR2.out.lt)
    have HSZ := hide (show w.heap.size + 2 ≤ w1.heap.size from HR2.out.lt)
    clear hin h0 h1 hb3 HR2
    generalize readN (B.drop a) = r at *
    obtain ⟨l5, d0, d1, d2, d3, d4, e0, e1, e2, z5, y5⟩ := HR3.out
    have HP := hide (Rs2.put ⟨l5, d0, d1, d2, d3, d4, e0, e1, e2, z5, y5⟩ (.int .i64 r.kind) (.string (strOfNums r.text)) (.slice z1 r.lit.shape.length m1) (.slice z2 r.lit.cells.length m2) (.int .i64 ta) (.int .i64 r.err) (.int .i64 fa) (.int .i64 0) rfl)
    generalize hSS : strOfNums r.text = SS at *
    generalize hn1 : r.lit.shape.length = n1 at *
    generalize hn2 : r.lit.cells.length = n2 at *
    generalize hkd : r.kind = kd at *
    generalize her : r.err = er at *
    have HEQ := hide (And.intro hSS (And.intro hn1 (And.intro hn2 (And.intro hkd her))))
    clear hSS hn1 hn2 hkd her HR3 HB2
    go_wp2
    obtain ⟨⟨r0, r1, r2, r3, r4, q0, q1, q2⟩, hbz, hkz⟩ := HP.out
    obtain ⟨hSS, hn1, hn2, hkd, her⟩ := HEQ.out
    exact bodyPost_ret (v := .tuple #[.agg #[.int .i64 kd, .string SS, .slice z1 n1 m1, .slice z2 n2 m2, .int .i64 ta], .int .i64 en, .agg #[.int .i64 er, .int .i64 fa, .int .i64 0]]) (by simp [results, Tryd.results19, go_sem, r0, r1, r2, r3, r4, q0, q1, q2]) rfl (by
      rw [HRE.out]
      refine givesT_of hkd hSS hn1 hn2 her ?_ H0.out H1.out (HB3.out.trans ((hbz w.heap.size (Nat.le_refl _)).mono (Nat.le_refl _)))
      have hh := HSZ.out
      exact ((HIN.out.keeps (Keeps.low hkz hh)).low (by omega)))
  | false =>
    rw [hnb] at HRW
    have hcell := htx.cell a (by rw [HL.out]; exact ha)
    by_cases h39 : B[a]?.getD 0 = 34
    · have HRE := hide (show RW = readT (B.drop a) by rw [HRW.out, if_neg (by simp), if_pos h39])
      rw [h39] at hcell
      have HC := hide (readtext24 htx hgl HL.out hC ha hL8)
      clear HRW HT htx hgl hnb h39
      go_wp2_with fail
      refine HC.out.mono ?_
      clear HC
      rintro e w3 ⟨⟨z1, m1, z2, m2, ta, en, fa, rfl, hin, h0, h1⟩, hb3⟩
      have HIN := hide hin
      have H0 := hide h0
      have H1 := hide h1
      have HB3 := hide (HB2.out.trans (hb3.mono HB2.out.size))
      have HR3 := hide (HR2.out.next hb3 HR2.out.lt)
      have HSZ := hide (show w.heap.size + 2 ≤ w1.heap.size from HR2.out.lt)
      clear hin h0 h1 hb3 HR2
      generalize readT (B.drop a) = r at *
      obtain ⟨l5, d0, d1, d2, d3, d4, e0, e1, e2, z5, y5⟩ := HR3.out
      have HP := hide (Rs2.put ⟨l5, d0, d1, d2, d3, d4, e0, e1, e2, z5, y5⟩ (.int .i64 r.kind) (.string (strOfNums r.text)) (.slice z1 r.lit.shape.length m1) (.slice z2 r.lit.cells.length m2) (.int .i64 ta) (.int .i64 r.err) (.int .i64 fa) (.int .i64 0) rfl)
      generalize hSS : strOfNums r.text = SS at *
      generalize hn1 : r.lit.shape.length = n1 at *
      generalize hn2 : r.lit.cells.length = n2 at *
      generalize hkd : r.kind = kd at *
      generalize her : r.err = er at *
      have HEQ := hide (And.intro hSS (And.intro hn1 (And.intro hn2 (And.intro hkd her))))
      clear hSS hn1 hn2 hkd her HR3 HB2
      go_wp2
      obtain ⟨⟨r0, r1, r2, r3, r4, q0, q1, q2⟩, hbz, hkz⟩ := HP.out
      obtain ⟨hSS, hn1, hn2, hkd, her⟩ := HEQ.out
      exact bodyPost_ret (v := .tuple #[.agg #[.int .i64 kd, .string SS, .slice z1 n1 m1, .slice z2 n2 m2, .int .i64 ta], .int .i64 en, .agg #[.int .i64 er, .int .i64 fa, .int .i64 0]]) (by simp [results, Tryd.results19, go_sem, r0, r1, r2, r3, r4, q0, q1, q2]) rfl (by
        rw [HRE.out]
        refine givesT_of hkd hSS hn1 hn2 her ?_ H0.out H1.out (HB3.out.trans ((hbz w.heap.size (Nat.le_refl _)).mono (Nat.le_refl _)))
        have hh := HSZ.out
        exact ((HIN.out.keeps (Keeps.low hkz hh)).low (by omega)))
    · have h39' : (B[a]?.getD 0 == 34) = false := beq_eq_false_iff_ne.2 h39
      have HLE := hide (fun W => letter25 (B[a]?.getD 0) W)
      cases hlt : ltB (B[a]?.getD 0) with
      | true =>
        have HRE := hide (show RW = readM (B.drop a) by rw [HRW.out, if_neg (by simp), if_neg h39, hlt]; rfl)
        rw [hlt] at HLE
        have HC := hide (readname26 htx HL.out hC ha)
        clear HRW HT htx hgl hnb hlt h39
        generalize B[a]?.getD 0 = c at *
        go_wp2_with fail
        refine (HLE.out _).mono ?_
        rintro e w2 ⟨rfl, hw1⟩
        have hw2 := hw1.symm
        subst hw2
        clear HLE
        go_wp2_with fail
        refine HC.out.mono ?_
        clear HC
        rintro e w3 ⟨⟨z1, m1, z2, m2, ta, en, fa, rfl, hin, h0, h1⟩, hb3⟩
        have HIN := hide hin
        have H0 := hide h0
        have H1 := hide h1
        have HB3 := hide (HB2.out.trans (hb3.mono HB2.out.size))
        have HR3 := hide (HR2.out.next hb3 HR2.out.lt)
        have HSZ := hide (show w.heap.size + 2 ≤ w1.heap.size from HR2.out.lt)
        clear hin h0 h1 hb3 HR2
        generalize readM (B.drop a) = r at *
        obtain ⟨l5, d0, d1, d2, d3, d4, e0, e1, e2, z5, y5⟩ := HR3.out
        have HP := hide (Rs2.put ⟨l5, d0, d1, d2, d3, d4, e0, e1, e2, z5, y5⟩ (.int .i64 r.kind) (.string (strOfNums r.text)) (.slice z1 r.lit.shape.length m1) (.slice z2 r.lit.cells.length m2) (.int .i64 ta) (.int .i64 r.err) (.int .i64 fa) (.int .i64 0) rfl)
        generalize hSS : strOfNums r.text = SS at *
        generalize hn1 : r.lit.shape.length = n1 at *
        generalize hn2 : r.lit.cells.length = n2 at *
        generalize hkd : r.kind = kd at *
        generalize her : r.err = er at *
        have HEQ := hide (And.intro hSS (And.intro hn1 (And.intro hn2 (And.intro hkd her))))
        clear hSS hn1 hn2 hkd her HR3 HB2
        go_wp2
        obtain ⟨⟨r0, r1, r2, r3, r4, q0, q1, q2⟩, hbz, hkz⟩ := HP.out
        obtain ⟨hSS, hn1, hn2, hkd, her⟩ := HEQ.out
        exact bodyPost_ret (v := .tuple #[.agg #[.int .i64 kd, .string SS, .slice z1 n1 m1, .slice z2 n2 m2, .int .i64 ta], .int .i64 en, .agg #[.int .i64 er, .int .i64 fa, .int .i64 0]]) (by simp [results, Tryd.results19, go_sem, r0, r1, r2, r3, r4, q0, q1, q2]) rfl (by
          rw [HRE.out]
          refine givesT_of hkd hSS hn1 hn2 her ?_ H0.out H1.out (HB3.out.trans ((hbz w.heap.size (Nat.le_refl _)).mono (Nat.le_refl _)))
          have hh := HSZ.out
          exact ((HIN.out.keeps (Keeps.low hkz hh)).low (by omega)))
      | false =>
        have HRE := hide (show RW = readS (B.drop a) by rw [HRW.out, if_neg (by simp), if_neg h39, hlt]; rfl)
        rw [hlt] at HLE
        have HC := hide (readsame27 htx hgl HL.out hC ha)
        clear HRW HT htx hgl hnb hlt h39
        generalize B[a]?.getD 0 = c at *
        go_wp2_with fail
        refine (HLE.out _).mono ?_
        rintro e w2 ⟨rfl, hw1⟩
        have hw2 := hw1.symm
        subst hw2
        clear HLE
        go_wp2_with fail
        refine HC.out.mono ?_
        clear HC
        rintro e w3 ⟨⟨z1, m1, z2, m2, ta, en, fa, rfl, hin, h0, h1⟩, hb3⟩
        have HIN := hide hin
        have H0 := hide h0
        have H1 := hide h1
        have HB3 := hide (HB2.out.trans (hb3.mono HB2.out.size))
        have HR3 := hide (HR2.out.next hb3 HR2.out.lt)
        have HSZ := hide (show w.heap.size + 2 ≤ w1.heap.size from HR2.out.lt)
        clear hin h0 h1 hb3 HR2
        generalize readS (B.drop a) = r at *
        obtain ⟨l5, d0, d1, d2, d3, d4, e0, e1, e2, z5, y5⟩ := HR3.out
        have HP := hide (Rs2.put ⟨l5, d0, d1, d2, d3, d4, e0, e1, e2, z5, y5⟩ (.int .i64 r.kind) (.string (strOfNums r.text)) (.slice z1 r.lit.shape.length m1) (.slice z2 r.lit.cells.length m2) (.int .i64 ta) (.int .i64 r.err) (.int .i64 fa) (.int .i64 0) rfl)
        generalize hSS : strOfNums r.text = SS at *
        generalize hn1 : r.lit.shape.length = n1 at *
        generalize hn2 : r.lit.cells.length = n2 at *
        generalize hkd : r.kind = kd at *
        generalize her : r.err = er at *
        have HEQ := hide (And.intro hSS (And.intro hn1 (And.intro hn2 (And.intro hkd her))))
        clear hSS hn1 hn2 hkd her HR3 HB2
        go_wp2
        obtain ⟨⟨r0, r1, r2, r3, r4, q0, q1, q2⟩, hbz, hkz⟩ := HP.out
        obtain ⟨hSS, hn1, hn2, hkd, her⟩ := HEQ.out
        exact bodyPost_ret (v := .tuple #[.agg #[.int .i64 kd, .string SS, .slice z1 n1 m1, .slice z2 n2 m2, .int .i64 ta], .int .i64 en, .agg #[.int .i64 er, .int .i64 fa, .int .i64 0]]) (by simp [results, Tryd.results19, go_sem, r0, r1, r2, r3, r4, q0, q1, q2]) rfl (by
          rw [HRE.out]
          refine givesT_of hkd hSS hn1 hn2 her ?_ H0.out H1.out (HB3.out.trans ((hbz w.heap.size (Nat.le_refl _)).mono (Nat.le_refl _)))
          have hh := HSZ.out
          exact ((HIN.out.keeps (Keeps.low hkz hh)).low (by omega)))
end Go.Proofs.YtljanfmmhglpiaaDoor
