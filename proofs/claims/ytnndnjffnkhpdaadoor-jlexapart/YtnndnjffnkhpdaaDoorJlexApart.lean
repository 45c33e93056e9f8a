/-
  JlexApart is proved: for every text of at most 2000 bytes whose words jlex.Lex tells, its words with a blank between them, each as it stands in the text, are read as the same words, unless two numbers or two texts stand beside one another; the law answers true. Conditions: those of the card (the listed package-level variables are laid as the program's text lays them); none besides.
-/
import Derived.Test.YtnndnjffnkhpdaaDoorLxV
namespace Go.Proofs.YtnndnjffnkhpdaaDoor.jlexApart
open Go.ChangeShapes Go.WideShapes Go.ChangeAt Go.RowKit
open Rn (Byte)
set_option linter.unusedVariables false
set_option linter.unusedSimpArgs false
set_option maxRecDepth 100000
set_option maxHeartbeats 32000000 in
theorem walk (st : ByteArray) (w : World) (G : Glb w) (h1 : st.size ≤ maxLen) : Calls Tryd.prog 5 #[.string st] w fun e w' => e = .returned (.bool true) ∧ Below w.heap.size w w' := by
  have HW7 : Hid (∀ W, Below w.heap.size w W → Calls Tryd.prog 7 #[] W fun e w' => e = .returned (.bool true) ∧ Below w.heap.size w w') := fun W h => (works7 (G.nx h)).mono fun e w' ⟨he, hb⟩ => ⟨he, h.trans (hb.mono h.size)⟩
  by_cases hl : 2000 < st.size
  · have hl' : 2000 < (st.size : Int) := by omega
    have HCC := hide (HW7.out w (Below.refl _ _))
    clear HW7 G
    go_enter Tryd.func5, Tryd.ntmps5
    go_wp2_with fail
    refine HCC.out.mono ?_
    rintro e w5 ⟨rfl, hb5⟩
    go_wp2
    go_ret
    exact ⟨rfl, hb5⟩
  · have hl' : ¬ 2000 < (st.size : Int) := by omega
    obtain ⟨ts, er, fa, N, hF, hN, C0⟩ := lexed G st h1
    have HC := hide C0
    obtain ⟨S, hS⟩ : ∃ S, numsS st = S := ⟨_, rfl⟩
    have hSl : S.length = st.size := by rw [← hS, numsS_len]
    have HBY := hide (show ∀ z ∈ S, Byte z by rw [← hS]; exact numsS_byte st)
    have hok : OkT S 0 ts := by
      have := (lexB_places S (S.length + 1) 0 0 (Nat.zero_le _)).1
      rw [hS] at hF
      unfold lexM at hF
      rw [if_neg (by omega)] at hF
      rw [List.drop_zero, hF] at this
      exact this
    have hseg : (segO S ts).length ≤ 4000 := by
      rcases segO_len S ts 0 hok with h | h
      · omega
      · rw [h]; simp [segO]
    have HAP := hide (show er = 0 → NN ts → (lexM (segO S ts)).2.1 = 0 ∧ strip (lexM (segO S ts)).1 = strip ts from fun he hn => by
      rw [hS] at hF
      have := apartM (S := S) (by omega) (by rw [hF]; exact he) (by rw [hF]; exact hn)
      rw [hF] at this
      exact this)
    have HSUB := hide (fun (a b : Nat) (h1 : a ≤ b) (h : b ≤ st.size) W => sub_str2 st a b (((numsS st).drop a).take (b - a)) rfl W h1 h)
    rw [hS] at HSUB
    have HL8 : Hid (∀ O : ByteArray, O.size ≤ 4000 → ∀ W, Below w.heap.size w W → ∃ us eu fu M, lexM (numsS O) = (us, eu, fu) ∧ us.length = M ∧ Calls Tryd.prog 8 #[.string O] W fun e w' => (∃ a c, e = .returned (.tuple #[.slice a M c, .agg #[.int .i64 eu, .int .i64 (fu : Int), .int .i64 0]]) ∧ TkIn w' a us) ∧ Below W.heap.size W w') := fun O hO W h => lexed (G.nx h) O (by unfold maxLen; omega)
    have HOK := hide hok
    have HSL := hide hSl
    have HSG := hide hseg
    clear C0 hF G h1 hl hok hseg hSl hS
    have hst : (st.size : Int) ≤ 8388608 := by omega
    go_enter Tryd.func5, Tryd.ntmps5
    go_wp2_with fail
    refine HC.out.mono ?_
    rintro e w1 ⟨⟨a, c, rfl, htk⟩, hb1⟩
    clear HC
    obtain ⟨W2, hW2⟩ : ∃ W2, w1.alloc (.cells #[.int .i64 er, .int .i64 (fa : Int), .int .i64 0] 26) = W2 := ⟨_, rfl⟩
    have hb2 : Below w1.heap.size w1 W2 := by rw [← hW2]; exact one_alloc _ _
    have r0 : W2.cell? ⟨w1.heap.size, 0, none⟩ = some (.int .i64 er) := by rw [← hW2]; exact cell_new0 w1 _ 26 0 _ rfl
    have HB2 := hide (hb1.trans (hb2.mono hb1.size))
    have HTK := hide (htk.next hb2)
    have HW2 := hide hW2
    clear htk hb1 hb2 hW2
    by_cases her : er = 0
    · have HAP' := hide (HAP.out her)
      clear HAP
      subst her
      go_upto_region 4 with fail
      rw [HW2.out]
      clear HW2
      go_upto_region 8 with fail
      clear r0
      go_loopg [5, 6] N (fun g sv nv wr => ∃ (i : Nat) (O : ByteArray), g + i = N ∧ sv = .string O ∧ nv = .int .i64 (i : Int) ∧ LaidW S ts i O ∧ wr = W2)
      case atStart => exact ⟨0, _, by omega, rfl, by go_num, laidW_0 S ts, rfl⟩
      case round =>
        obtain ⟨i, O, hj, rfl, rfl, hinv, hwr⟩ := hrel
        subst hwr
        have HINV := hide hinv
        have hOs : O.size ≤ 4000 := Nat.le_trans (laidW_size hinv) HSG.out
        have hOI : (O.size : Int) ≤ 8388608 := by omega
        clear hinv
        have HLT : Hid (N ≤ 2048) := by rw [← hN]; exact HTK.out.1
        have hNl := HLT.out
        by_cases hi : i < N
        · obtain ⟨t, ht⟩ : ∃ t, ts[i]? = some t := ⟨_, List.getElem?_eq_getElem (by omega)⟩
          have hi1 : (i : Int) + 1 ≤ 9223372036854775807 := by omega
          have hta := okT_at HOK.out i t ht
          rw [HSL.out] at hta
          rcases HTK.out.2 with h | ⟨g', off, rfl, hg, hcs⟩
          · rw [h] at ht; simp at ht
          obtain ⟨z1, m1, z2, m2, q0, q1, q2, q3, q4, -⟩ := hcs i t ht
          by_cases hj1 : i + 1 < N
          · obtain ⟨u, hu⟩ : ∃ u, ts[i + 1]? = some u := ⟨_, List.getElem?_eq_getElem (by omega)⟩
            obtain ⟨y1, k1, y2, k2, p0, p1, p2, p3, p4, -⟩ := hcs (i + 1) u hu
            have hua := okT_at HOK.out (i + 1) u hu
            rw [HSL.out] at hua
            have htu := okT_two HOK.out i t u ht hu
            have hsl := HSUB.out t.at' u.at' (by omega) (by omega)
            have hSS0 := str_size ((S.drop t.at').take (u.at' - t.at'))
            rw [List.length_take, List.length_drop, HSL.out] at hSS0
            have HNX := hide (fun (SS : ByteArray) (hn : ¬ (t.kind = 1 ∧ u.kind = 1)) hS => laidW_mid (SS := SS) HINV.out HBY.out ht hu hn hS)
            obtain ⟨SS, hSS⟩ : ∃ SS, strOfNums ((S.drop t.at').take (u.at' - t.at')) = SS := ⟨_, rfl⟩
            rw [hSS] at hsl hSS0
            have HSS := hide hSS
            have hsI : (SS.size : Int) ≤ 8388608 := by omega
            have hsJ : ((O ++ SS).size : Int) ≤ 8388608 := by rw [ByteArray.size_append]; omega
            generalize t.at' = ta at *
            generalize u.at' = ua at *
            clear hcs q1 q2 q3 p1 p2 p3 hSS ht hu
            have HCW := hide (HW7.out wr HB2.out)
            have hj1' : (i : Int) + 1 < (N : Int) := by omega
            have hnx : ¬ (t.kind = 1 ∧ u.kind = 1) → LaidW S ts (i + 1) (O ++ SS ++ ⟨#[32]⟩) := fun hn => HNX.out SS hn HSS.out
            have HNX' := hide hnx
            clear hnx HNX HSS
            obtain ⟨kt, hkt⟩ : ∃ kt, t.kind = kt := ⟨_, rfl⟩
            obtain ⟨ku, hku⟩ : ∃ ku, u.kind = ku := ⟨_, rfl⟩
            rw [hkt] at q0
            rw [hku] at p0
            rw [hkt, hku] at HNX'
            clear hkt hku
            by_cases c1 : kt = 1
            · subst c1
              by_cases d1 : ku = 1
              · subst d1
                clear HNX' HINV
                go_wp2_with fail
                refine HCW.out.mono ?_
                rintro e w5 ⟨rfl, hb5⟩
                go_wp2
                go_ret
                exact ⟨rfl, hb5⟩
              · have d1' : (ku == 1) = false := beq_eq_false_iff_ne.2 d1
                have HGO := hide (HNX'.out (fun h => d1 h.2))
                clear HNX' HCW HINV
                go_wp2
                go_roundg (N - (i + 1))
                case rel => exact ⟨i + 1, _, by omega, rfl, by first | rfl | go_num, HGO.out, rfl⟩
                case measure => omega
            · have c1' : (kt == 1) = false := beq_eq_false_iff_ne.2 c1
              by_cases c2 : kt = 2
              · subst c2
                by_cases d1 : ku = 2
                · subst d1
                  clear HNX' HINV
                  go_wp2_with fail
                  refine HCW.out.mono ?_
                  rintro e w5 ⟨rfl, hb5⟩
                  go_wp2
                  go_ret
                  exact ⟨rfl, hb5⟩
                · have d1' : (ku == 2) = false := beq_eq_false_iff_ne.2 d1
                  have HGO := hide (HNX'.out (fun h => c1 h.1))
                  clear HNX' HCW HINV
                  go_wp2
                  go_roundg (N - (i + 1))
                  case rel => exact ⟨i + 1, _, by omega, rfl, by first | rfl | go_num, HGO.out, rfl⟩
                  case measure => omega
              · have c2' : (kt == 2) = false := beq_eq_false_iff_ne.2 c2
                have HGO := hide (HNX'.out (fun h => c1 h.1))
                clear HNX' HCW HINV
                go_wp2
                go_roundg (N - (i + 1))
                case rel => exact ⟨i + 1, _, by omega, rfl, by first | rfl | go_num, HGO.out, rfl⟩
                case measure => omega
          · have hj1' : ¬ (i : Int) + 1 < (N : Int) := by omega
            have hsl := HSUB.out t.at' st.size (by omega) (Nat.le_refl _)
            rw [show (S.drop t.at').take (st.size - t.at') = S.drop t.at' from List.take_of_length_le (by rw [List.length_drop, HSL.out]; omega)] at hsl
            have hSS0 := str_size (S.drop t.at')
            rw [List.length_drop, HSL.out] at hSS0
            have HNX := hide (fun (SS : ByteArray) hS => laidW_last (SS := SS) HINV.out HBY.out ht (by omega) hS)
            obtain ⟨SS, hSS⟩ : ∃ SS, strOfNums (S.drop t.at') = SS := ⟨_, rfl⟩
            rw [hSS] at hsl hSS0
            have HNX' := hide (HNX.out SS hSS)
            have hsI : (SS.size : Int) ≤ 8388608 := by omega
            have hsJ : ((O ++ SS).size : Int) ≤ 8388608 := by rw [ByteArray.size_append]; omega
            generalize t.at' = ta at *
            clear hcs q1 q2 q3 hSS ht HNX HINV
            go_wp2
            go_roundg (N - (i + 1))
            case rel => exact ⟨i + 1, _, by omega, rfl, by first | rfl | go_num, HNX'.out, rfl⟩
            case measure => omega
        · obtain ⟨hO, hnn⟩ := laidW_end HINV.out (by omega)
          obtain ⟨hu0, hus⟩ := HAP'.out hnn
          obtain ⟨us, eu, fu, M, hFu, hM, C2⟩ := HL8.out O hOs wr HB2.out
          rw [hO] at hFu
          rw [hFu] at hu0 hus
          have hM2 : M = N := by rw [← hM, ← hN]; exact strip_len hus
          subst hM2
          have hu0' : eu = 0 := hu0
          subst hu0'
          have HST := hide (show strip us = strip ts from hus)
          have HC2 := hide C2
          clear hO hnn hu0 hus C2 hFu HAP' HL8 HINV HSUB HBY HSL HSG
          go_wp2_with fail
          refine HC2.out.mono ?_
          rintro e w3 ⟨⟨b, d, rfl, htk3⟩, hb3⟩
          clear HC2
          obtain ⟨W4, hW4⟩ : ∃ W4, w3.alloc (.cells #[.int .i64 0, .int .i64 (fu : Int), .int .i64 0] 26) = W4 := ⟨_, rfl⟩
          have hb4 : Below w3.heap.size w3 W4 := by rw [← hW4]; exact one_alloc _ _
          have hb24 := hb3.trans (hb4.mono hb3.size)
          have s0 : W4.cell? ⟨w3.heap.size, 0, none⟩ = some (.int .i64 0) := by rw [← hW4]; exact cell_new0 w3 _ 26 0 _ rfl
          have HB4 := hide (HB2.out.trans (hb24.mono HB2.out.size))
          have HTA := hide (HTK.out.next hb24)
          have HTB := hide (htk3.next hb4)
          have HW4 := hide hW4
          clear htk3 hb3 hb4 hW4 HTK HB2 hb24
          go_upto_region 17 with fail
          rw [HW4.out]
          clear HW4
          go_upto_region 20 with fail
          clear s0
          go_loopg [10] M (fun g nv wr => ∃ (i : Nat), g + i = M ∧ nv = .int .i64 (i : Int) ∧ Below W4.heap.size W4 wr)
          case atStart => exact ⟨0, by omega, by go_num, Below.refl _ _⟩
          case round =>
            clear hi hj
            obtain ⟨i, hj, rfl, hbr⟩ := hrel
            by_cases hi : i < M
            · obtain ⟨t, ht⟩ : ∃ t, ts[i]? = some t := ⟨_, List.getElem?_eq_getElem (by omega)⟩
              obtain ⟨u, hu, huk, hut, hul⟩ := strip_at HST.out ht
              rcases (HTA.out.next hbr).2 with h | ⟨ga, oa, rfl, hga, hca⟩
              · rw [h] at ht; simp at ht
              rcases (HTB.out.next hbr).2 with h | ⟨gb, ob, rfl, hgb, hcb⟩
              · rw [h] at hu; simp at hu
              obtain ⟨z1, m1, z2, m2, q0, q1, q2, q3, q4, q5⟩ := hca i t ht
              obtain ⟨y1, k1, y2, k2, r0, r1, r2, r3, r4, r5⟩ := hcb i u hu
              rw [huk] at r0
              rw [hut] at r1
              rw [hul] at r2 r3 r5
              clear hca hcb ht hu huk hut hul
              have HSA : Hid (∀ W, Below wr.heap.size wr W → Calls Tryd.prog 10 #[.agg #[.slice z1 t.lit.shape.length m1, .slice z2 t.lit.cells.length m2], .agg #[.slice y1 t.lit.shape.length k1, .slice y2 t.lit.cells.length k2]] W fun e w' => e = .returned (.bool true) ∧ Below wr.heap.size wr w') := fun W h => by
                have := rsame_any (q5.next h) (r5.next h)
                rw [show decide (cmpA 1 t.lit t.lit = 0) = true from decide_eq_true (cmpA_self _ _)] at this
                exact this.mono fun e w' ⟨he, hw⟩ => ⟨he, h.trans (hw.mono h.size)⟩
              have KA : CW wr ga (oa + i * 5) t.kind (strOfNums t.text) z1 t.lit.shape.length m1 z2 t.lit.cells.length m2 (t.at' : Int) := ⟨q0, q1, q2, q3, q4⟩
              have KB : CW wr gb (ob + i * 5) t.kind (strOfNums t.text) y1 t.lit.shape.length k1 y2 t.lit.cells.length k2 (u.at' : Int) := ⟨r0, r1, r2, r3, r4⟩
              clear q0 q1 q2 q3 q4 q5 r0 r1 r2 r3 r4 r5
              generalize strOfNums t.text = SS at *
              generalize t.lit.shape.length = n1 at *
              generalize t.lit.cells.length = n2 at *
              generalize t.kind = kd at *
              have KS : Hid (∀ W, Below wr.heap.size wr W → Below wr.heap.size wr W ∧ (W.cell? ⟨ga, oa + i * 5, none⟩ = some (.int .i64 kd) ∧ W.cell? ⟨ga, oa + i * 5 + 1, none⟩ = some (.string SS) ∧ W.cell? ⟨ga, oa + i * 5 + 2, none⟩ = some (.slice z1 n1 m1) ∧ W.cell? ⟨ga, oa + i * 5 + 3, none⟩ = some (.slice z2 n2 m2)) ∧ W.cell? ⟨gb, ob + i * 5, none⟩ = some (.int .i64 kd) ∧ W.cell? ⟨gb, ob + i * 5 + 1, none⟩ = some (.string SS) ∧ W.cell? ⟨gb, ob + i * 5 + 2, none⟩ = some (.slice y1 n1 k1) ∧ W.cell? ⟨gb, ob + i * 5 + 3, none⟩ = some (.slice y2 n2 k2)) := fun W h => by
                obtain ⟨a0, a1, a2, a3, a4⟩ := KA.next h hga
                obtain ⟨b0, b1, b2, b3, b4⟩ := KB.next h hgb
                exact ⟨h, ⟨a0, a1, a2, a3⟩, b0, b1, b2, b3⟩
              have HD0 : Hid (Below wr.heap.size wr wr.drew) := (Below.refl _ _).drew
              have HBR := hide hbr
              clear KA KB hbr HTA HTB HST HW7 HOK
              go_upto_region 22 with fail
              obtain ⟨-, ⟨q0, q1, q2, q3⟩, r0, r1, r2, r3⟩ := KS.out wr (Below.refl _ _)
              go_region_held3 (fun W => Below wr.heap.size wr W ∧ (W.cell? ⟨ga, oa + i * 5, none⟩ = some (.int .i64 kd) ∧ W.cell? ⟨ga, oa + i * 5 + 1, none⟩ = some (.string SS) ∧ W.cell? ⟨ga, oa + i * 5 + 2, none⟩ = some (.slice z1 n1 m1) ∧ W.cell? ⟨ga, oa + i * 5 + 3, none⟩ = some (.slice z2 n2 m2)) ∧ W.cell? ⟨gb, ob + i * 5, none⟩ = some (.int .i64 kd) ∧ W.cell? ⟨gb, ob + i * 5 + 1, none⟩ = some (.string SS) ∧ W.cell? ⟨gb, ob + i * 5 + 2, none⟩ = some (.slice y1 n1 k1) ∧ W.cell? ⟨gb, ob + i * 5 + 3, none⟩ = some (.slice y2 n2 k2)) (first | with_reducible exact KS.out _ HD0.out | with_reducible exact KS.out _ (by with_reducible assumption)) (first | (go_at_call 10; refine (HSA.out _ HD0.out).mono ?_; rintro e w6 ⟨rfl, hb6⟩))
              all_goals
                have hi1 : (i : Int) + 1 ≤ 9223372036854775807 := by omega
                go_wp2
                go_roundg (M - (i + 1))
                case rel => exact ⟨i + 1, by omega, by first | rfl | go_num, HBR.out.trans ((show Below wr.heap.size wr _ by assumption).mono HBR.out.size)⟩
                case measure => omega
            · have HCC := hide (HW7.out wr (HB4.out.trans (hbr.mono HB4.out.size)))
              clear HTA HTB HST HW7
              go_wp2_with fail
              refine HCC.out.mono ?_
              rintro e w5 ⟨rfl, hb5⟩
              go_wp2
              go_ret
              exact ⟨rfl, hb5⟩
    · have her' : (er != 0) = true := bne_iff_ne.2 her
      have HCC := hide (HW7.out W2 HB2.out)
      clear HTK HW7 her HB2 HAP HSUB HL8 HOK
      go_upto_region 4 with fail
      rw [HW2.out]
      clear HW2
      go_wp2_with fail
      refine HCC.out.mono ?_
      rintro e w5 ⟨rfl, hb5⟩
      go_wp2
      go_ret
      exact ⟨rfl, hb5⟩
theorem laid_met (os : Os) : laidMet Tryd.prog Rows.jlexApartRow.laid ((laidWorld os).forCall (fun _ _ => 0) ⟨#[], #[.string { data := #[] }], []⟩).memory :=
  laidMet_laidAll _ (by kernel_rfl) (by kernel_rfl)
theorem reads (os : Os) {H : Type} (enc : TypeId × Value → H) : ∃ places, DataW.whole enc Tryd.prog ((laidWorld os).forCall (fun _ _ => 0) ⟨#[], #[.string { data := #[] }], []⟩).memory Tryd.f5.params.toList Rows.jlexApartSpec.vars false #[Value.string { data := #[] }].toList 8 = some ([.lit (.string [])], [], places) :=
  ⟨[], by kernel_rfl⟩
set_option maxRecDepth 100000 in
theorem lifted (os : Os) (started : os.Started) (H : Type) (enc : TypeId × Value → H) (F : Stop.Interp) :
    ReturnsInHanded {} Tryd.checked os 5 .any ((OpenSpec.ofChange Rows.jlexApartSpec).preRow enc Tryd.prog Tryd.f5 Rows.jlexApartRow.domain false Rows.jlexApartRow.laid) (((OpenSpec.ofChange Rows.jlexApartSpec).at F).post enc Tryd.prog Tryd.f5 false true false false) := by
  obtain ⟨places, hx⟩ := reads os enc
  refine returnsInHanded_of_row (C := Tryd.checked) (s := OpenSpec.ofChange Rows.jlexApartSpec) own started (by kernel_rfl) Tryd.func5
    (witness_row_at (enc := enc) (C := Tryd.checked) false (laidWorld os) #[.string { data := #[] }] (World.laidAll_os _ _ _) (by kernel_rfl) (by kernel_rfl) (by kernel_rfl)
      (OpenSpec.preRow_of_cond 8 hx (by kernel_rfl) (fun k hk => by cases hk) (by kernel_rfl) (laid_met os))) ?_
  intro W base args ds gs before hval0 hW _ hcond hsz0 hL hsh _
  have hsz : (DataW.weightsEach Tryd.prog (Tryd.f5.params.toList ++ Rows.jlexApartSpec.plain.varTypes Tryd.prog) (ds ++ gs)).all (· ≤ reachBytes) = true := hsz0
  clear hsz0
  have hval : ∀ (j : Nat) t v, Tryd.f5.params[j]? = some t → args[j]? = some v → Value.okWide Tryd.prog W .any base t v := hval0
  have hW' := hW
  obtain ⟨p, q, hA0, hV, rfl, hfz, hnd⟩ := hW
  have hA : DataW.TrodAll enc Tryd.prog W 0 (fun _ => true) true Tryd.f5.params.toList args.toList ds p := hA0
  rw [Tryd.params5] at hA hval hsz
  obtain ⟨v0, vs0, d0, ds0, p0, q0, hargs, rfl, rfl, h0, r0⟩ := trodAll_cons hA
  obtain ⟨rfl, rfl, rfl⟩ := trodAll_nil r0
  obtain rfl : args = #[v0] := by cases args; simp_all
  obtain ⟨rfl, rfl⟩ := trodVars_none hV
  obtain ⟨s0, rfl, rfl, rfl, w0⟩ := ChangeMaps.open_string Tryd.underlying9 (hval 0 9 v0 rfl rfl) h0
  clear hA0 hval0
  refine (walk s0 W (glb_of hL) w0 ).mono fun e W' ⟨he, bel⟩ => ?_
  subst he
  exact ⟨_, rfl, _, _, _, [], _, [], hW', trodAll_mk1 (shut_bool Tryd.underlying4 _), (trodAll_cons_mk (ChangeMaps.shut_string Tryd.underlying9 w0) trodAll_mk0), rfl, bel.frame _, fun h => by cases h⟩
theorem said : Rows.JlexApartSaid :=
  OpenClaim.holds_of_cond 5 Tryd.f5 rfl rfl rfl rfl rfl rfl rfl ⟨rfl, rfl, rfl, rfl, rfl⟩ rfl rfl rfl rfl rfl (by kernel_rfl) Tryd.func5 (by kernel_rfl)
    (of_decide_eq_true (by kernel_rfl)) (by unfold Func.isWrapper; first | (rw [if_pos (by decide +kernel)]; kernel_rfl) | (rw [if_neg (by decide +kernel)]; exact ⟨rfl, rfl⟩))
    (fun os started H enc _ F => by rw [OpenClaim.pre_eq_preRow]; exact lifted os started H enc F)
theorem plain (f : FuncId) (fn : Func) (hf : Tryd.pinned.checked.prog.funcNamed "triglyph/triglyphlaw13.JlexApart" = some f) (hfn : Tryd.pinned.checked.prog.funcs[f]? = some fn) :
    true = Tryd.pinned.checked.prog.looks [] ∧ ∀ (j : Nat) t, fn.params[j]? = some t → Tryd.pinned.checked.prog.wantsStandIn t = false := by
  obtain rfl : f = 5 := Option.some.inj ((show Tryd.prog.funcNamed "triglyph/triglyphlaw13.JlexApart" = some 5 by kernel_rfl).symm.trans hf) |>.symm
  obtain rfl : fn = Tryd.f5 := (Option.some.inj (Tryd.func5.symm.trans hfn)).symm
  refine ⟨by kernel_rfl, fun j t ht => ?_⟩
  rw [Tryd.params5] at ht
  have hm : t = 9 := by simpa using Array.mem_of_getElem? ht
  subst hm
  exact (show Tryd.prog.wantsStandIn 9 = false by kernel_rfl)
theorem proved : Rows.JlexApartCardSaid :=
  Claim7.holds_tied_plain_at .later [] _ _ _ _ said (fun _ h => by cases h) (by kernel_rfl) (fun _ h => by cases h) jlexApart_row_tie rfl ⟨rfl, rfl⟩ (by kernel_rfl) rfl plain (by kernel_rfl)
end Go.Proofs.YtnndnjffnkhpdaaDoor.jlexApart
namespace Go.Proofs.YtnndnjffnkhpdaaDoor
theorem jlexApart_holds : Rows.JlexApartCardSaid := jlexApart.proved
#print axioms jlexApart_holds
end Go.Proofs.YtnndnjffnkhpdaaDoor
