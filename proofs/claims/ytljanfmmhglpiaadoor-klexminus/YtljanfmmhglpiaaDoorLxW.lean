/-
  The contract of readText: the text that begins at a place, or what is wrong with it.
-/
import Derived.Test.YtljanfmmhglpiaaDoorLxL
namespace Go.Proofs.YtljanfmmhglpiaaDoor
open Go.ChangeShapes Go.WideShapes Go.ChangeAt Go.RowKit
open Rn (Byte)
set_option maxRecDepth 100000
set_option linter.unusedVariables false
set_option linter.unusedSimpArgs false
set_option maxHeartbeats 16000000 in
theorem readtext24 {w : World} {b C L a : Nat} {B : List Int} (hT : Txt w b B) (G : Glb w) (hL : B.length = L) (hC : L ≤ C) (ha : a < L) (hL8 : L ≤ 8192) :
    Calls Tryd.prog 24 #[.slice (some ⟨b, 0, none⟩) L C, .int .i64 (a : Int)] w fun e w' => GivesT (readT (B.drop a)) a w e w' := by
  obtain ⟨i0, hi, hz0, hz1, hz2⟩ := info_parts info2
  rw [readT_eq (by omega), hL]
  have hql := qA_le (B := B) (a := a) (by omega)
  obtain ⟨q, hq⟩ : ∃ q, qA B a = q := ⟨_, rfl⟩
  rw [hq] at hql ⊢
  rw [hL] at hql
  obtain ⟨T, hTT⟩ : ∃ T, SG (prt B (a + 1) q) = T := ⟨_, rfl⟩
  rw [hTT]
  generalize hRR : (if q = L then (⟨2, [], nilA, 0, 2, 0⟩ : Rd) else rdT a q T) = RR at *
  have HRR := hide hRR
  clear hRR
  obtain ⟨W3, hW3⟩ : ∃ W3, ((w.alloc (.cells #[.int .i64 0, .string ⟨#[]⟩, .slice none 0 0, .slice none 0 0, .int .i64 0] 35)).alloc (.cells #[.int .i64 0, .int .i64 0, .int .i64 0] 26)).alloc (.cells #[.int .i64 2, .string ⟨#[]⟩, .slice none 0 0, .slice none 0 0, .int .i64 (a : Int)] 35) = W3 := ⟨_, rfl⟩
  have h2 := two_allocs w (.cells #[.int .i64 0, .string ⟨#[]⟩, .slice none 0 0, .slice none 0 0, .int .i64 0] 35) (.cells #[.int .i64 0, .int .i64 0, .int .i64 0] 26)
  have hs2 : ((w.alloc (.cells #[.int .i64 0, .string ⟨#[]⟩, .slice none 0 0, .slice none 0 0, .int .i64 0] 35)).alloc (.cells #[.int .i64 0, .int .i64 0, .int .i64 0] 26)).heap.size = w.heap.size + 1 + 1 := by simp
  have hba := one_alloc ((w.alloc (.cells #[.int .i64 0, .string ⟨#[]⟩, .slice none 0 0, .slice none 0 0, .int .i64 0] 35)).alloc (.cells #[.int .i64 0, .int .i64 0, .int .i64 0] 26)) (.cells #[.int .i64 2, .string ⟨#[]⟩, .slice none 0 0, .slice none 0 0, .int .i64 (a : Int)] 35)
  have R3 := (rs2_new w).next hba (by rw [hs2]; omega)
  have D3 := wd_new ((w.alloc (.cells #[.int .i64 0, .string ⟨#[]⟩, .slice none 0 0, .slice none 0 0, .int .i64 0] 35)).alloc (.cells #[.int .i64 0, .int .i64 0, .int .i64 0] 26)) 2 ⟨#[]⟩ (.slice none 0 0) (.slice none 0 0) (a : Int)
  have B3 := h2.trans (hba.mono h2.size)
  rw [hW3] at R3 D3 B3
  rw [hs2] at D3
  have hs3 : W3.heap.size = w.heap.size + 3 := by rw [← hW3]; simp
  have HSTATE : Hid (∀ wr, Below (w.heap.size + 3) W3 wr → Rs2 wr w.heap.size ∧ Wd wr (w.heap.size + 1 + 1) 2 ⟨#[]⟩ (.slice none 0 0) (.slice none 0 0) (a : Int) ∧ Below w.heap.size w wr ∧ Txt wr b B ∧ Glb wr ∧ w.heap.size + 1 + 1 < wr.heap.size) := fun wr h => by
    have hbw := B3.trans (h.mono (by omega))
    exact ⟨R3.next h (by omega), D3.next h (by omega), hbw, hT.next hbw, G.nx hbw, by have := h.size; omega⟩
  have hbl : b < w.heap.size := hT.lt
  have HLQ := hide (fun (W : World) (h : Below (w.heap.size + 3) W3 W) (x : Nat) (hx : w.heap.size + 3 ≤ x) (hQ : Qs W x false) => by
    have htw : Txt W b B := hT.next (B3.trans (h.mono (by omega)))
    have := reachQ (C := C) (n0 := w.heap.size + 3) htw hL (a + 1) (by omega) hQ hx (by omega)
    rw [show a + 1 + qEnd false (B.drop (a + 1)) = q from hq, show ((a + 1 : Nat) : Int) = (a : Int) + 1 by omega] at this
    exact this)
  have HWI := hide (within35 W3)
  have HSL := hide (fun i (hi : i < q) W => by
    have := part_lh (P := Tryd.prog) Tryd.underlying45 sz5 (some ⟨b, 0, none⟩) L C i q (i : Int) (q : Int) rfl rfl (by omega) (by omega) W
    rw [subA_at (by omega)] at this
    exact this)
  have HTT0 := hide hTT
  have HW3 := hide hW3
  have HS3 := hide hs3
  have HL := hide hL
  clear hT G h2 hs2 hba R3 D3 B3 hs3 hW3 hTT hL hq hbl
  go_enter Tryd.func24, Tryd.ntmps24
  go_wp2_with fail
  rw [HW3.out]
  refine HWI.out.mono ?_
  rintro e wq ⟨⟨x, rfl, hx, hqs⟩, hbq⟩
  have HNXQ : Hid (Below (w.heap.size + 3) W3 wq) := hbq.mono (by have := HS3.out; omega)
  have HLQ' := hide (HLQ.out wq HNXQ.out x (by have := HS3.out; omega) hqs)
  clear HWI HLQ hbq hqs hx HW3
  go_wp2_with fail
  refine HLQ'.out.mono ?_
  rintro e w0 ⟨rfl, hb0⟩
  have HNX0 : Hid (Below (w.heap.size + 3) W3 w0) := HNXQ.out.trans (hb0.mono (Nat.le_refl _))
  clear HLQ' hb0 HNXQ
  by_cases hqa : q = L
  · have HRE := hide (HRR.out.symm.trans (if_pos hqa))
    have HNXE := HNX0
    subst hqa
    clear HRR HNX0 HSL HTT0
    have HFA' : Hid (∀ W, Below w0.heap.size w0 W → Calls Tryd.prog 15 #[.int .i64 2, .int .i64 (a : Int)] W fun r w' => r = .returned (.agg #[.int .i64 2, .int .i64 (a : Int), .int .i64 0]) ∧ Below w0.heap.size w0 w') := fun W h => (fault15 2 (a : Int) W).mono fun e w' ⟨he, hw⟩ => ⟨he, h.trans (hw.mono h.size)⟩
    go_upto_region 4 with fail
    obtain ⟨hrs, hwd, hbw, -, -, -⟩ := HSTATE.out w0 HNXE.out
    have HRS := hide hrs
    have HWD := hide hwd
    have HBW := hide hbw
    obtain ⟨wl, c0, c1, c2, c3, c4, cz⟩ := hwd
    obtain ⟨l0, a0, a1, a2, a3, a4, b0, b1, b2, z, y⟩ := hrs
    have HD0 : Hid (Below w0.heap.size w0 w0.drew) := (Below.refl _ _).drew
    have HRZ : Hid (∀ W, Below w0.heap.size w0 W → Rs2 W w.heap.size ∧ Wd W (w.heap.size + 1 + 1) 2 ⟨#[]⟩ (.slice none 0 0) (.slice none 0 0) (a : Int)) := fun W h => ⟨HRS.out.next h HRS.out.lt, HWD.out.next h HWD.out.lt⟩
    clear hbw HSTATE
    go_region_with (go_at_call 15; refine (HFA'.out _ (by first | exact HD0.out | exact Below.refl _ _ | with_reducible assumption)).mono ?_; rintro e w3 ⟨rfl, hb3⟩; obtain ⟨⟨l5, d0, d1, d2, d3, d4, e0, e1, e2, z5, y5⟩, ⟨wl5, g0, g1, g2, g3, g4, gz⟩⟩ := HRZ.out w3 hb3)
    all_goals
      have HP := hide (Rs2.put ⟨l5, d0, d1, d2, d3, d4, e0, e1, e2, z5, y5⟩ (.int .i64 2) (.string ⟨#[]⟩) (.slice none 0 0) (.slice none 0 0) (.int .i64 (a : Int)) (.int .i64 2) (.int .i64 (a : Int)) (.int .i64 0) rfl)
      have HB3 := hide (HBW.out.trans (hb3.mono HBW.out.size))
      clear hb3 HRZ HFA' HD0 HWD HRS
      go_wp2
      obtain ⟨⟨r0, r1, r2, r3, r4, q0, q1, q2⟩, hbz, hkz⟩ := HP.out
      exact bodyPost_ret (v := .tuple #[.agg #[.int .i64 2, .string ⟨#[]⟩, .slice none 0 0, .slice none 0 0, .int .i64 (a : Int)], .int .i64 (q : Int), .agg #[.int .i64 2, .int .i64 (a : Int), .int .i64 0]]) (by simp [results, Tryd.results24, go_sem, r0, r1, r2, r3, r4, q0, q1, q2]) rfl (by rw [HRE.out]; exact givesT_of rfl rfl rfl rfl rfl (nilA_in _ _ _) (fun h => absurd h (by decide)) (fun _ => by simp) (HB3.out.trans ((hbz w.heap.size (Nat.le_refl _)).mono (Nat.le_refl _))))
  · have HRE0 := hide (HRR.out.symm.trans (if_neg hqa))
    have hqa' : ((q : Int) == (L : Int)) = false := beq_eq_false_iff_ne.2 (by omega)
    have hwq : IntKind.i64.wrap ((q : Int) + 1) = (q : Int) + 1 := IntWalk.i64_in _ ⟨by omega, by omega⟩
    have HOWN : Hid (w0.ownsRow (w.heap.size + 3) 2 1 (.slice none 0 0) 0 (iv [])) := World.ownsRow_nil _ _ _ _
    clear HRR
    go_wp2_with fail
    go_loopg [9, 10] (L + 1 - a) (fun g lv nv wr => ∃ (i : Nat) (xs : List Int), g + i = L + 2 ∧ nv = .int .i64 (i : Int) ∧ wr.ownsRow (w.heap.size + 3) 2 1 lv xs.length (iv xs) ∧ Below (w.heap.size + 3) W3 wr ∧ a + 1 ≤ i ∧ i ≤ L + 1 ∧ xs.length ≤ i ∧ TotT (i - (a + 1)) xs (SG (prt B i q)) = T)
    case atStart => exact ⟨a + 1, [], by omega, by go_num, HOWN.out, HNX0.out, Nat.le_refl _, by omega, by simp, by rw [HTT0.out]; unfold TotT; simp⟩
    case round =>
      clear HNX0 HOWN HTT0
      obtain ⟨i, xs, hj, rfl, hown, hnx, hai, hil, hxi, htot⟩ := hrel
      obtain ⟨hrs, hwd, hbw, htx, hgl, hlt3⟩ := HSTATE.out wr hnx
      have HRS := hide hrs
      have HWD := hide hwd
      have HBW := hide hbw
      have HLT3 := hide hlt3
      have HNX := hide hnx
      have HTO := hide htot
      clear hrs hwd hbw hnx htot
      by_cases hlt : i < q
      · have sl := HSL.out i hlt
        have HON := hide (readsign36 htx hgl HL.out i (q - i) (C - i) (by omega) (by omega))
        rw [show (B.drop i).take (q - i) = prt B i q from rfl] at HON
        have hne := prt_ne (B := B) hlt (by rw [HL.out]; omega)
        have hpl : i + (prt B i q).length ≤ q := by unfold prt; rw [List.length_take]; omega
        clear htx hgl HSL
        generalize q - i = M1 at *
        generalize C - i = K1 at *
        obtain ⟨n, hn⟩ : ∃ n, (sgF (prt B i q)).1 = n := ⟨_, rfl⟩
        obtain ⟨k, hk⟩ : ∃ k, (sgF (prt B i q)).2.1 = k := ⟨_, rfl⟩
        obtain ⟨er, her⟩ : ∃ er, (sgF (prt B i q)).2.2 = er := ⟨_, rfl⟩
        rw [hn, hk, her] at HON
        by_cases hbad : ¬ er = 0
        · have HRE := hide (show RR = ⟨2, [], nilA, 0, er, i - (a + 1) + 1⟩ by
            have h := HTO.out
            rw [SG_bad hne (by rw [her]; exact hbad), her] at h
            rw [HRE0.out, ← h]
            simp [rdT, TotT, hbad])
          have hbad' : (er != 0) = true := bne_iff_ne.2 hbad
          have HBAD := hide hbad
          have HNXE := HNX
          clear hne HRS HWD HBW HTO HRE0 hown hn hk her hbad
          go_wp2_with fail
          refine HON.out.mono ?_
          rintro e w1 ⟨rfl, hb1⟩
          have HNX1 := hide (HNXE.out.trans (hb1.mono (by have := HLT3.out; omega)))
          clear HON hb1 HNXE HNX HLT3 hlt3
          have HFA' : Hid (∀ W, Below w1.heap.size w1 W → Calls Tryd.prog 15 #[.int .i64 er, .int .i64 (i : Int)] W fun r w' => r = .returned (.agg #[.int .i64 er, .int .i64 (i : Int), .int .i64 0]) ∧ Below w1.heap.size w1 w') := fun W h => (fault15 er (i : Int) W).mono fun e w' ⟨he, hw⟩ => ⟨he, h.trans (hw.mono h.size)⟩
          go_upto_region 10 with fail
          obtain ⟨hrs, hwd, hbw, -, -, -⟩ := HSTATE.out w1 HNX1.out
          have HRS := hide hrs
          have HWD := hide hwd
          have HBW := hide hbw
          obtain ⟨wl, c0, c1, c2, c3, c4, cz⟩ := hwd
          obtain ⟨l0, a0, a1, a2, a3, a4, b0, b1, b2, z, y⟩ := hrs
          have HD0 : Hid (Below w1.heap.size w1 w1.drew) := (Below.refl _ _).drew
          have HRZ : Hid (∀ W, Below w1.heap.size w1 W → Rs2 W w.heap.size ∧ Wd W (w.heap.size + 1 + 1) 2 ⟨#[]⟩ (.slice none 0 0) (.slice none 0 0) (a : Int)) := fun W h => ⟨HRS.out.next h HRS.out.lt, HWD.out.next h HWD.out.lt⟩
          clear hbw HSTATE
          go_region_with (go_at_call 15; refine (HFA'.out _ (by first | exact HD0.out | exact Below.refl _ _ | with_reducible assumption)).mono ?_; rintro e w3 ⟨rfl, hb3⟩; obtain ⟨⟨l5, d0, d1, d2, d3, d4, e0, e1, e2, z5, y5⟩, ⟨wl5, g0, g1, g2, g3, g4, gz⟩⟩ := HRZ.out w3 hb3)
          all_goals
            have HP := hide (Rs2.put ⟨l5, d0, d1, d2, d3, d4, e0, e1, e2, z5, y5⟩ (.int .i64 2) (.string ⟨#[]⟩) (.slice none 0 0) (.slice none 0 0) (.int .i64 (a : Int)) (.int .i64 er) (.int .i64 (i : Int)) (.int .i64 0) rfl)
            have HB3 := hide (HBW.out.trans (hb3.mono HBW.out.size))
            clear hb3 HRZ HFA' HD0 HWD HRS
            go_wp2
            obtain ⟨⟨r0, r1, r2, r3, r4, q0, q1, q2⟩, hbz, hkz⟩ := HP.out
            exact bodyPost_ret (v := .tuple #[.agg #[.int .i64 2, .string ⟨#[]⟩, .slice none 0 0, .slice none 0 0, .int .i64 (a : Int)], .int .i64 ((q : Int) + 1), .agg #[.int .i64 er, .int .i64 (i : Int), .int .i64 0]]) (by simp [results, Tryd.results24, go_sem, r0, r1, r2, r3, r4, q0, q1, q2]) rfl (by rw [HRE.out]; exact givesT_of rfl rfl rfl rfl rfl (nilA_in _ _ _) (fun h => absurd h HBAD.out) (fun _ => by show (i : Int) = ((a + (i - (a + 1) + 1) : Nat) : Int); omega) (HB3.out.trans ((hbz w.heap.size (Nat.le_refl _)).mono (Nat.le_refl _))))
        · obtain rfl : er = 0 := Decidable.not_not.1 hbad
          have hkl := sgF_len her
          rw [hk] at hkl
          have HGO := hide (show TotT (i + k - (a + 1)) (xs ++ [n]) (SG (prt B (i + k) q)) = T by
            have h := HTO.out
            rw [SG_go hne her, prt_drop, hn, hk] at h
            rw [← h]
            unfold TotT
            refine Prod.ext (by simp) (Prod.ext rfl ?_)
            show _ + _ = _ + _ + _
            omega)
          have HLT3' := hide (show w.heap.size + 3 ≤ wr.heap.size by have := HLT3.out; omega)
          clear hne HRS HWD HBW HTO HRE0 HSTATE hbad hn hk her HLT3 hlt3
          go_wp2_with fail
          refine HON.out.mono ?_
          rintro e w1 ⟨rfl, hb1⟩
          have HNX1 := hide (HNX.out.trans (hb1.mono HLT3'.out))
          have hown1 := owns_next hown hb1
          have hsz1 : w.heap.size + 3 ≤ w1.heap.size := Nat.le_trans HLT3'.out hb1.size
          clear HON hb1 HNX hown HLT3'
          go_wp2_with (at_builtin; refine wpList_append_own _ rfl _ _ 44 rfl (w.heap.size + 3) 2 i0 (.int .i64 0) 1 8 Tryd.underlying44 hi hz0 hz1 hz2 rfl (by decide) _ _ _ rfl (hown1.alloc _) ⟨w1.heap.size, 0, none⟩ 1 1 [.int .i64 n] rfl rfl ?c1 ?c2 ?c3 ?c4 ?c5 ?_)
          case c1 =>
            intro j u hj
            match j, hj with
            | 0, hj => simp at hj; subst hj; simp [Addr.add]
          case c2 => intro u hu; simp at hu; subst hu; rfl
          case c3 => unfold maxLen; omega
          case c4 => omega
          case c5 => simp; omega
          intro v' w3 hown' hgrow _
          have hown3 : w3.ownsRow (w.heap.size + 3) 2 1 v' (xs ++ [n]).length (iv (xs ++ [n])) := by
            rw [List.length_append, show iv (xs ++ [n]) = iv xs ++ [.int .i64 n] from List.map_append]; exact hown'
          have HNX3 := hide ((HNX1.out.alloc hsz1 _).grown hgrow (by simp; omega) (fun p hp => (hown1.lt p hp).1))
          clear hown' hgrow hown1
          go_wp2
          go_roundg (L + 2 - (i + k))
          case rel => exact ⟨i + k, xs ++ [n], by omega, by go_num, hown3, HNX3.out, by omega, by omega, by rw [List.length_append]; simp; omega, HGO.out⟩
          case measure => omega
      · have HRE := hide (show RR = ⟨2, [], textA xs, q - a + 1, 0, 0⟩ by
          have h := HTO.out
          rw [prt_end (by omega), SG_nil] at h
          rw [HRE0.out, ← h]
          simp [rdT, TotT])
        obtain ⟨pa, pc, rfl, hrow⟩ := row_owned (lo := 0) hown (by omega) (Nat.zero_le _)
        have HTE := hide (text_any 0 xs pa pc wr hrow (by omega))
        clear hrow hown HTO HRE0 HSTATE HSL htx hgl
        generalize hXL : xs.length = XL at *
        obtain ⟨n1, hn1⟩ : ∃ n1, (textA xs).shape.length = n1 := ⟨_, rfl⟩
        obtain ⟨n2, hn2⟩ : ∃ n2, (textA xs).cells.length = n2 := ⟨_, rfl⟩
        go_wp2_with fail
        refine HTE.out.mono ?_
        rintro e w5 ⟨⟨vv, rfl, hin⟩, hb5⟩
        have hin' := hin
        clear HTE
        obtain ⟨z1, m1, z2, m2, hvv, -⟩ := hin
        have hv2 : vv = .agg #[.slice z1 n1 m1, .slice z2 n2 m2] := by rw [hvv, hn1, hn2]
        subst hv2
        have HIN := hide hin'
        clear hin' hvv
        have HR5 := hide (HRS.out.next hb5 HRS.out.lt)
        have HWD5 := hide (HWD.out.next hb5 HWD.out.lt)
        have HB5 := hide (HBW.out.trans (hb5.mono HBW.out.size))
        obtain ⟨wl, c0, c1, c2, c3, c4, cz⟩ := HWD5.out
        have cz2 := cz 2
        have cz3 := cz 3
        have HPW := hide (Wd.lit HWD5.out (.slice z1 n1 m1) (.slice z2 n2 m2) rfl)
        obtain ⟨W6, hW6⟩ : ∃ W6, (w5.setCell ⟨w.heap.size + 1 + 1, 2, none⟩ (.slice z1 n1 m1)).setCell ⟨w.heap.size + 1 + 1, 3, none⟩ (.slice z2 n2 m2) = W6 := ⟨_, rfl⟩
        rw [hW6] at HPW
        obtain ⟨⟨wl6, g0, g1, g2, g3, g4, gz⟩, hb6, hk6⟩ := HPW.out
        have HR6 := hide (HR5.out.next (hb6 (w.heap.size + 1 + 1) (Nat.le_refl _)) (by omega))
        obtain ⟨l5, d0, d1, d2, d3, d4, e0, e1, e2, z5, y5⟩ := HR6.out
        have HP := hide (Rs2.put ⟨l5, d0, d1, d2, d3, d4, e0, e1, e2, z5, y5⟩ (.int .i64 2) (.string ⟨#[]⟩) (.slice z1 n1 m1) (.slice z2 n2 m2) (.int .i64 (a : Int)) (.int .i64 0) (.int .i64 0) (.int .i64 0) rfl)
        have HB6 := hide (HB5.out.trans ((hb6 w.heap.size (by omega)).mono (Nat.le_refl _)))
        have HK6 := hide hk6
        clear HPW hb6 hk6 HR5 HWD5 HWD HRS HBW hb5 HR6 HB5
        go_wp2
        obtain ⟨⟨r0, r1, r2, r3, r4, q0, q1, q2⟩, hbz, hkz⟩ := HP.out
        exact bodyPost_ret (v := .tuple #[.agg #[.int .i64 2, .string ⟨#[]⟩, .slice z1 n1 m1, .slice z2 n2 m2, .int .i64 (a : Int)], .int .i64 ((q : Int) + 1), .agg #[.int .i64 0, .int .i64 0, .int .i64 0]]) (by simp [results, Tryd.results24, go_sem, r0, r1, r2, r3, r4, q0, q1, q2]) rfl (by
          rw [HRE.out]
          refine givesT_of rfl rfl (show (⟨2, [], textA xs, q - a + 1, 0, 0⟩ : Rd).lit.shape.length = n1 from hn1) (show (⟨2, [], textA xs, q - a + 1, 0, 0⟩ : Rd).lit.cells.length = n2 from hn2) rfl ?_ (fun _ => ⟨rfl, by show (q : Int) + 1 = ((a + (q - a + 1) : Nat) : Int); omega, rfl⟩) (fun h => absurd rfl h) (HB6.out.trans ((hbz w.heap.size (Nat.le_refl _)).mono (Nat.le_refl _)))
          refine (((HIN.out.keeps (HK6.out.low HLT3.out)).keeps ?_).low ?_)
          · exact ⟨hkz.1, fun b' h1 h2 => hkz.2 b' (by have := HLT3.out; omega) h2⟩
          · have := HLT3.out; omega)
end Go.Proofs.YtljanfmmhglpiaaDoor
