/-
  The signs of a text: the mathematics of a loop over them, and the contract of readText.
-/
import Derived.Test.YtnndnjffnkhpdaaDoorLxK
namespace Go.Proofs.YtnndnjffnkhpdaaDoor
open Go.ChangeShapes Go.WideShapes Go.ChangeAt Go.RowKit
open Rn (Byte)
set_option maxRecDepth 100000
set_option linter.unusedVariables false
set_option linter.unusedSimpArgs false
def stp (n : Int) (k : Nat) : Nat := if n = 39 then 2 else k
theorem signF_fuel (f : Nat) : ∀ f' m, m.length < f → m.length < f' → signF f' m = signF f m := by
  induction f with
  | zero => intro f' m h; omega
  | succ f ih =>
    intro f' m hf hf'
    obtain ⟨f', rfl⟩ : ∃ g, f' = g + 1 := ⟨f' - 1, by omega⟩
    rw [signF, signF]
    by_cases h0 : m = []
    · rw [if_pos h0, if_pos h0]
    · have hl : 0 < m.length := List.length_pos_iff.2 h0
      rw [if_neg h0, if_neg h0]
      cases ho : oneF m with
      | none => rfl
      | some r =>
        obtain ⟨n, k⟩ := r
        have hk := oneF_len ho
        simp only
        split
        · rfl
        · have hs : 1 ≤ (if n = 39 then 2 else k) := by split <;> omega
          rw [ih f' (m.drop (if n = 39 then 2 else k)) (by rw [List.length_drop]; omega) (by rw [List.length_drop]; omega)]
def SG (m : List Int) : List Int × Int × Nat := signF (m.length + 1) m
def TotT (d : Nat) (xs : List Int) (S : List Int × Int × Nat) : List Int × Int × Nat := (xs ++ S.1, S.2.1, S.2.2 + d)
theorem SG_nil : SG [] = ([], 0, 0) := rfl
theorem SG_none {m : List Int} (h0 : m ≠ []) (h : oneF m = none) : SG m = ([], 3, 0) := by
  unfold SG
  rw [signF, if_neg h0, h]
theorem SG_bad {m : List Int} {n : Int} {k : Nat} (h0 : m ≠ []) (h : oneF m = some (n, k)) (hn : n < 32 ∨ n = 127) : SG m = ([], 2, 0) := by
  unfold SG
  rw [signF, if_neg h0, h]
  simp only
  rw [if_pos hn]
theorem SG_go {m : List Int} {n : Int} {k : Nat} (h0 : m ≠ []) (h : oneF m = some (n, k)) (hn : ¬ (n < 32 ∨ n = 127)) : SG m = (n :: (SG (m.drop (stp n k))).1, (SG (m.drop (stp n k))).2.1, (SG (m.drop (stp n k))).2.2 + stp n k) := by
  have hk := oneF_len h
  have hl : 0 < m.length := List.length_pos_iff.2 h0
  have hs : 1 ≤ stp n k := by unfold stp; split <;> omega
  have hf := signF_fuel ((m.drop (stp n k)).length + 1) m.length (m.drop (stp n k)) (by omega) (by rw [List.length_drop]; omega)
  unfold SG
  rw [← hf, signF, if_neg h0, h]
  simp only
  rw [if_neg hn]
  rfl
/-- The part of a text from a place up to its end. -/
def prt (B : List Int) (i e : Nat) : List Int := (B.drop i).take (e - i)
theorem prt_ne {B : List Int} {i e : Nat} (h : i < e) (he : e ≤ B.length) : prt B i e ≠ [] := by
  intro h0
  have := congrArg List.length h0
  unfold prt at this
  rw [List.length_take, List.length_drop] at this
  simp at this
  omega
theorem prt_drop {B : List Int} {i e s : Nat} : (prt B i e).drop s = prt B (i + s) e := by
  unfold prt
  rw [List.drop_take, List.drop_drop]
  congr 1
  omega
theorem prt_end {B : List Int} {i e : Nat} (h : e ≤ i) : prt B i e = [] := by
  unfold prt
  rw [show e - i = 0 by omega, List.take_zero]
/-- What readText tells, by what was read. -/
def rdT (a e : Nat) (T : List Int × Int × Nat) : Rd := if T.2.1 = 0 then ⟨2, [], textA T.1, e - a + 1, 0, 0⟩ else ⟨2, [], nilA, 0, T.2.1, T.2.2 + 1⟩
theorem readT_eq {B : List Int} {a : Nat} : readT (B.drop a) = if qAt B a = a then ⟨2, [], nilA, 0, 2, 0⟩ else rdT a (qAt B a) (SG (prt B (a + 1) (qAt B a))) := by
  unfold readT qAt
  rw [List.tail_drop]
  cases hq : lastQ (B.drop (a + 1)) with
  | none => rw [if_pos rfl]
  | some q =>
    have hl := lastQ_lt _ _ hq
    rw [List.length_drop] at hl
    simp only
    rw [if_neg (show ¬ a + 1 + q = a by omega)]
    have e1 : prt B (a + 1) (a + 1 + q) = (B.drop (a + 1)).take q := by unfold prt; congr 1; omega
    have e2 : ((B.drop (a + 1)).take q).length = q := by rw [List.length_take, List.length_drop]; omega
    rw [e1]
    unfold rdT SG
    rw [e2, show a + 1 + q - a + 1 = q + 2 by omega]
theorem qAt_le {B : List Int} {a : Nat} (ha : a < B.length) : a ≤ qAt B a ∧ qAt B a < B.length := by
  unfold qAt
  cases hq : lastQ (B.drop (a + 1)) with
  | none => exact ⟨Nat.le_refl _, ha⟩
  | some q =>
    have hl := lastQ_lt _ _ hq
    rw [List.length_drop] at hl
    simp only
    omega
set_option maxHeartbeats 16000000 in
theorem readtext24 {w : World} {b C L a : Nat} {B : List Int} (hT : Txt w b B) (G : Glb w) (hL : B.length = L) (hC : L ≤ C) (ha : a < L) (hL8 : L ≤ 8192) :
    Calls Tryd.prog 24 #[.slice (some ⟨b, 0, none⟩) L C, .int .i64 (a : Int)] w fun e w' => GivesT (readT (B.drop a)) a w e w' := by
  obtain ⟨i0, hi, hz0, hz1, hz2⟩ := info_parts info2
  rw [readT_eq]
  have hql := qAt_le (B := B) (a := a) (by omega)
  obtain ⟨q, hq⟩ : ∃ q, qAt B a = q := ⟨_, rfl⟩
  rw [hq] at hql ⊢
  rw [hL] at hql
  obtain ⟨T, hTT⟩ : ∃ T, SG (prt B (a + 1) q) = T := ⟨_, rfl⟩
  rw [hTT]
  generalize hRR : (if q = a then (⟨2, [], nilA, 0, 2, 0⟩ : Rd) else rdT a q T) = RR at *
  have HRR := hide hRR
  clear hRR
  obtain ⟨W3, hW3⟩ : ∃ W3, ((w.alloc (.cells #[.int .i64 0, .string ⟨#[]⟩, .slice none 0 0, .slice none 0 0, .int .i64 0] 34)).alloc (.cells #[.int .i64 0, .int .i64 0, .int .i64 0] 26)).alloc (.cells #[.int .i64 2, .string ⟨#[]⟩, .slice none 0 0, .slice none 0 0, .int .i64 (a : Int)] 34) = W3 := ⟨_, rfl⟩
  have h2 := two_allocs w (.cells #[.int .i64 0, .string ⟨#[]⟩, .slice none 0 0, .slice none 0 0, .int .i64 0] 34) (.cells #[.int .i64 0, .int .i64 0, .int .i64 0] 26)
  have hs2 : ((w.alloc (.cells #[.int .i64 0, .string ⟨#[]⟩, .slice none 0 0, .slice none 0 0, .int .i64 0] 34)).alloc (.cells #[.int .i64 0, .int .i64 0, .int .i64 0] 26)).heap.size = w.heap.size + 1 + 1 := by simp
  have hba := one_alloc ((w.alloc (.cells #[.int .i64 0, .string ⟨#[]⟩, .slice none 0 0, .slice none 0 0, .int .i64 0] 34)).alloc (.cells #[.int .i64 0, .int .i64 0, .int .i64 0] 26)) (.cells #[.int .i64 2, .string ⟨#[]⟩, .slice none 0 0, .slice none 0 0, .int .i64 (a : Int)] 34)
  have R3 := (rs2_new w).next hba (by rw [hs2]; omega)
  have D3 := wd_new ((w.alloc (.cells #[.int .i64 0, .string ⟨#[]⟩, .slice none 0 0, .slice none 0 0, .int .i64 0] 34)).alloc (.cells #[.int .i64 0, .int .i64 0, .int .i64 0] 26)) 2 ⟨#[]⟩ (.slice none 0 0) (.slice none 0 0) (a : Int)
  have B3 := h2.trans (hba.mono h2.size)
  rw [hW3] at R3 D3 B3
  rw [hs2] at D3
  have hs3 : W3.heap.size = w.heap.size + 3 := by rw [← hW3]; simp
  have HSTATE : Hid (∀ wr, Below (w.heap.size + 3) W3 wr → Rs2 wr w.heap.size ∧ Wd wr (w.heap.size + 1 + 1) 2 ⟨#[]⟩ (.slice none 0 0) (.slice none 0 0) (a : Int) ∧ Below w.heap.size w wr ∧ Txt wr b B ∧ Glb wr ∧ w.heap.size + 1 + 1 < wr.heap.size) := fun wr h => by
    have hbw := B3.trans (h.mono (by omega))
    exact ⟨R3.next h (by omega), D3.next h (by omega), hbw, hT.next hbw, G.nx hbw, by have := h.size; omega⟩
  have HLQ := hide (last36 (C := C) (hT.next B3) hL a ha)
  rw [hq] at HLQ
  have HSL := hide (fun i (hi : i < q) W => by
    have := part_lh (P := Tryd.prog) Tryd.underlying40 sz5 (some ⟨b, 0, none⟩) L C i q (i : Int) (q : Int) rfl rfl (by omega) (by omega) W
    rw [subA_at (by omega)] at this
    exact this)
  have HTT0 := hide hTT
  have HW3 := hide hW3
  have HS3 := hide hs3
  have HL := hide hL
  clear hT G h2 hs2 hba R3 D3 B3 hs3 hW3 hTT hL hq
  go_enter Tryd.func24, Tryd.ntmps24
  go_wp2_with fail
  rw [HW3.out]
  refine HLQ.out.mono ?_
  rintro e w0 ⟨rfl, hb0⟩
  have HNX0 : Hid (Below (w.heap.size + 3) W3 w0) := hb0.mono (by have := HS3.out; omega)
  clear HLQ hb0 HW3
  by_cases hqa : q = a
  · have HRE := hide (HRR.out.symm.trans (if_pos hqa))
    have HNXE := HNX0
    subst hqa
    clear HRR HNX0 HSL HTT0
    have HFA' : Hid (∀ W, Below w0.heap.size w0 W → Calls Tryd.prog 15 #[.int .i64 2, .int .i64 (q : Int)] W fun r w' => r = .returned (.agg #[.int .i64 2, .int .i64 (q : Int), .int .i64 0]) ∧ Below w0.heap.size w0 w') := fun W h => (fault15 2 (q : Int) W).mono fun e w' ⟨he, hw⟩ => ⟨he, h.trans (hw.mono h.size)⟩
    go_upto_region 4 with fail
    obtain ⟨hrs, hwd, hbw, -, -, -⟩ := HSTATE.out w0 HNXE.out
    have HRS := hide hrs
    have HWD := hide hwd
    have HBW := hide hbw
    obtain ⟨wl, c0, c1, c2, c3, c4, cz⟩ := hwd
    obtain ⟨l0, a0, a1, a2, a3, a4, b0, b1, b2, z, y⟩ := hrs
    have HD0 : Hid (Below w0.heap.size w0 w0.drew) := (Below.refl _ _).drew
    have HRZ : Hid (∀ W, Below w0.heap.size w0 W → Rs2 W w.heap.size ∧ Wd W (w.heap.size + 1 + 1) 2 ⟨#[]⟩ (.slice none 0 0) (.slice none 0 0) (q : Int)) := fun W h => ⟨HRS.out.next h HRS.out.lt, HWD.out.next h HWD.out.lt⟩
    clear hbw HSTATE
    go_region_with (go_at_call 15; refine (HFA'.out _ (by first | exact HD0.out | exact Below.refl _ _ | with_reducible assumption)).mono ?_; rintro e w3 ⟨rfl, hb3⟩; obtain ⟨⟨l5, d0, d1, d2, d3, d4, e0, e1, e2, z5, y5⟩, ⟨wl5, g0, g1, g2, g3, g4, gz⟩⟩ := HRZ.out w3 hb3)
    all_goals
      have HP := hide (Rs2.put ⟨l5, d0, d1, d2, d3, d4, e0, e1, e2, z5, y5⟩ (.int .i64 2) (.string ⟨#[]⟩) (.slice none 0 0) (.slice none 0 0) (.int .i64 (q : Int)) (.int .i64 2) (.int .i64 (q : Int)) (.int .i64 0) rfl)
      have HB3 := hide (HBW.out.trans (hb3.mono HBW.out.size))
      clear hb3 HRZ HFA' HD0 HWD HRS
      go_wp2
      obtain ⟨⟨r0, r1, r2, r3, r4, q0, q1, q2⟩, hbz, hkz⟩ := HP.out
      exact bodyPost_ret (v := .tuple #[.agg #[.int .i64 2, .string ⟨#[]⟩, .slice none 0 0, .slice none 0 0, .int .i64 (q : Int)], .int .i64 (L : Int), .agg #[.int .i64 2, .int .i64 (q : Int), .int .i64 0]]) (by simp [results, Tryd.results24, go_sem, r0, r1, r2, r3, r4, q0, q1, q2]) rfl (by rw [HRE.out]; exact givesT_of rfl rfl rfl rfl rfl (nilA_in _ _ _) (fun h => absurd h (by decide)) (fun _ => by simp) (HB3.out.trans ((hbz w.heap.size (Nat.le_refl _)).mono (Nat.le_refl _))))
  · have HRE0 := hide (HRR.out.symm.trans (if_neg hqa))
    have hqa' : ((q : Int) == (a : Int)) = false := beq_eq_false_iff_ne.2 (by omega)
    have hwq : IntKind.i64.wrap ((q : Int) + 1) = (q : Int) + 1 := IntWalk.i64_in _ ⟨by omega, by omega⟩
    have HOWN : Hid (w0.ownsRow (w.heap.size + 3) 2 1 (.slice none 0 0) 0 (iv [])) := World.ownsRow_nil _ _ _ _
    clear HRR
    go_wp2_with fail
    go_loopg [9, 10] (L + 1 - a) (fun g lv nv wr => ∃ (i : Nat) (xs : List Int), g + i = L + 2 ∧ nv = .int .i64 (i : Int) ∧ wr.ownsRow (w.heap.size + 3) 2 1 lv xs.length (iv xs) ∧ Below (w.heap.size + 3) W3 wr ∧ a + 1 ≤ i ∧ i ≤ L + 1 ∧ xs.length ≤ i ∧ TotT (i - (a + 1)) xs (SG (prt B i q)) = T)
    case atStart => exact ⟨a + 1, [], by omega, by go_num, HOWN.out, HNX0.out, Nat.le_refl _, by omega, by simp, by rw [HTT0.out]; unfold TotT; simp⟩
    case round =>
      clear HNX0 HOWN HTT0
      obtain ⟨i, xs, hj, rfl, hown, hnx, hai, hil, hxi, htot⟩ := hrel
      obtain ⟨hrs, hwd, hbw, htx, hgl, hlt3⟩ := HSTATE.out wr hnx
      have HRS := hide hrs
      have HWD := hide hwd
      have HBW := hide hbw
      have HLT3 := hide hlt3
      have HNX := hide hnx
      have HTO := hide htot
      clear hrs hwd hbw hnx htot
      by_cases hlt : i < q
      · have sl := HSL.out i hlt
        have HON := hide (one37 htx hgl HL.out i (q - i) (C - i) (by omega) (by omega))
        rw [show (B.drop i).take (q - i) = prt B i q from rfl] at HON
        have hne := prt_ne (B := B) hlt (by rw [HL.out]; omega)
        have hpl : i + (prt B i q).length ≤ q := by unfold prt; rw [List.length_take]; omega
        clear htx hgl HSL
        generalize q - i = M1 at *
        generalize C - i = K1 at *
        cases ho : oneF (prt B i q) with
        | none =>
          have hk0 : oneK (prt B i q) = 0 := by unfold oneK; rw [ho]
          rw [hk0] at HON
          have HRE := hide (show RR = ⟨2, [], nilA, 0, 3, i - (a + 1) + 1⟩ by
            have h := HTO.out
            rw [SG_none hne ho] at h
            rw [HRE0.out, ← h]
            simp [rdT, TotT])
          have HNXE := HNX
          generalize oneN (prt B i q) = ON at *
          clear ho hne hk0 HRS HWD HBW HTO HRE0 hown
          go_wp2_with fail
          refine HON.out.mono ?_
          rintro e w1 ⟨rfl, hw1⟩
          have hw2 := hw1.symm
          subst hw2
          clear HON
          have HFA' : Hid (∀ W, Below wr.heap.size wr W → Calls Tryd.prog 15 #[.int .i64 3, .int .i64 (i : Int)] W fun r w' => r = .returned (.agg #[.int .i64 3, .int .i64 (i : Int), .int .i64 0]) ∧ Below wr.heap.size wr w') := fun W h => (fault15 3 (i : Int) W).mono fun e w' ⟨he, hw⟩ => ⟨he, h.trans (hw.mono h.size)⟩
          go_upto_region 10 with fail
          obtain ⟨hrs, hwd, hbw, -, -, -⟩ := HSTATE.out wr HNXE.out
          have HRS := hide hrs
          have HWD := hide hwd
          have HBW := hide hbw
          obtain ⟨wl, c0, c1, c2, c3, c4, cz⟩ := hwd
          obtain ⟨l0, a0, a1, a2, a3, a4, b0, b1, b2, z, y⟩ := hrs
          have HD0 : Hid (Below wr.heap.size wr wr.drew) := (Below.refl _ _).drew
          have HRZ : Hid (∀ W, Below wr.heap.size wr W → Rs2 W w.heap.size ∧ Wd W (w.heap.size + 1 + 1) 2 ⟨#[]⟩ (.slice none 0 0) (.slice none 0 0) (a : Int)) := fun W h => ⟨HRS.out.next h HRS.out.lt, HWD.out.next h HWD.out.lt⟩
          clear hbw HSTATE
          go_region_with (go_at_call 15; refine (HFA'.out _ (by first | exact HD0.out | exact Below.refl _ _ | with_reducible assumption)).mono ?_; rintro e w3 ⟨rfl, hb3⟩; obtain ⟨⟨l5, d0, d1, d2, d3, d4, e0, e1, e2, z5, y5⟩, ⟨wl5, g0, g1, g2, g3, g4, gz⟩⟩ := HRZ.out w3 hb3)
          all_goals
            have HP := hide (Rs2.put ⟨l5, d0, d1, d2, d3, d4, e0, e1, e2, z5, y5⟩ (.int .i64 2) (.string ⟨#[]⟩) (.slice none 0 0) (.slice none 0 0) (.int .i64 (a : Int)) (.int .i64 3) (.int .i64 (i : Int)) (.int .i64 0) rfl)
            have HB3 := hide (HBW.out.trans (hb3.mono HBW.out.size))
            clear hb3 HRZ HFA' HD0 HWD HRS
            go_wp2
            obtain ⟨⟨r0, r1, r2, r3, r4, q0, q1, q2⟩, hbz, hkz⟩ := HP.out
            exact bodyPost_ret (v := .tuple #[.agg #[.int .i64 2, .string ⟨#[]⟩, .slice none 0 0, .slice none 0 0, .int .i64 (a : Int)], .int .i64 ((q : Int) + 1), .agg #[.int .i64 3, .int .i64 (i : Int), .int .i64 0]]) (by simp [results, Tryd.results24, go_sem, r0, r1, r2, r3, r4, q0, q1, q2]) rfl (by rw [HRE.out]; exact givesT_of rfl rfl rfl rfl rfl (nilA_in _ _ _) (fun h => absurd h (by decide)) (fun _ => by show (i : Int) = ((a + (i - (a + 1) + 1) : Nat) : Int); omega) (HB3.out.trans ((hbz w.heap.size (Nat.le_refl _)).mono (Nat.le_refl _))))
        | some r =>
          obtain ⟨n, k⟩ := r
          have hk0 : oneK (prt B i q) = k := by unfold oneK; rw [ho]
          have hn0 : oneN (prt B i q) = n := by unfold oneN; rw [ho]
          rw [hk0, hn0] at HON
          have hkl := oneF_len ho
          have hk1 : ((k : Int) == 0) = false := beq_eq_false_iff_ne.2 (by omega)
          by_cases hbad : n < 32 ∨ n = 127
          · have HRE := hide (show RR = ⟨2, [], nilA, 0, 2, i - (a + 1) + 1⟩ by
              have h := HTO.out
              rw [SG_bad hne ho hbad] at h
              rw [HRE0.out, ← h]
              simp [rdT, TotT])
            have HNXE := HNX
            clear ho hne hk0 hn0 HRS HWD HBW HTO HRE0 hown hkl
            by_cases h32 : n < 32
            · go_wp2_with fail
              refine HON.out.mono ?_
              rintro e w1 ⟨rfl, hw1⟩
              have hw2 := hw1.symm
              subst hw2
              clear HON
              have HFA' : Hid (∀ W, Below wr.heap.size wr W → Calls Tryd.prog 15 #[.int .i64 2, .int .i64 (i : Int)] W fun r w' => r = .returned (.agg #[.int .i64 2, .int .i64 (i : Int), .int .i64 0]) ∧ Below wr.heap.size wr w') := fun W h => (fault15 2 (i : Int) W).mono fun e w' ⟨he, hw⟩ => ⟨he, h.trans (hw.mono h.size)⟩
              go_upto_region 12 with fail
              obtain ⟨hrs, hwd, hbw, -, -, -⟩ := HSTATE.out wr HNXE.out
              have HRS := hide hrs
              have HWD := hide hwd
              have HBW := hide hbw
              obtain ⟨wl, c0, c1, c2, c3, c4, cz⟩ := hwd
              obtain ⟨l0, a0, a1, a2, a3, a4, b0, b1, b2, z, y⟩ := hrs
              have HD0 : Hid (Below wr.heap.size wr wr.drew) := (Below.refl _ _).drew
              have HRZ : Hid (∀ W, Below wr.heap.size wr W → Rs2 W w.heap.size ∧ Wd W (w.heap.size + 1 + 1) 2 ⟨#[]⟩ (.slice none 0 0) (.slice none 0 0) (a : Int)) := fun W h => ⟨HRS.out.next h HRS.out.lt, HWD.out.next h HWD.out.lt⟩
              clear hbw HSTATE
              go_region_with (go_at_call 15; refine (HFA'.out _ (by first | exact HD0.out | exact Below.refl _ _ | with_reducible assumption)).mono ?_; rintro e w3 ⟨rfl, hb3⟩; obtain ⟨⟨l5, d0, d1, d2, d3, d4, e0, e1, e2, z5, y5⟩, ⟨wl5, g0, g1, g2, g3, g4, gz⟩⟩ := HRZ.out w3 hb3)
              all_goals
                have HP := hide (Rs2.put ⟨l5, d0, d1, d2, d3, d4, e0, e1, e2, z5, y5⟩ (.int .i64 2) (.string ⟨#[]⟩) (.slice none 0 0) (.slice none 0 0) (.int .i64 (a : Int)) (.int .i64 2) (.int .i64 (i : Int)) (.int .i64 0) rfl)
                have HB3 := hide (HBW.out.trans (hb3.mono HBW.out.size))
                clear hb3 HRZ HFA' HD0 HWD HRS
                go_wp2
                obtain ⟨⟨r0, r1, r2, r3, r4, q0, q1, q2⟩, hbz, hkz⟩ := HP.out
                exact bodyPost_ret (v := .tuple #[.agg #[.int .i64 2, .string ⟨#[]⟩, .slice none 0 0, .slice none 0 0, .int .i64 (a : Int)], .int .i64 ((q : Int) + 1), .agg #[.int .i64 2, .int .i64 (i : Int), .int .i64 0]]) (by simp [results, Tryd.results24, go_sem, r0, r1, r2, r3, r4, q0, q1, q2]) rfl (by rw [HRE.out]; exact givesT_of rfl rfl rfl rfl rfl (nilA_in _ _ _) (fun h => absurd h (by decide)) (fun _ => by show (i : Int) = ((a + (i - (a + 1) + 1) : Nat) : Int); omega) (HB3.out.trans ((hbz w.heap.size (Nat.le_refl _)).mono (Nat.le_refl _))))
            · obtain rfl : n = 127 := by omega
              go_wp2_with fail
              refine HON.out.mono ?_
              rintro e w1 ⟨rfl, hw1⟩
              have hw2 := hw1.symm
              subst hw2
              clear HON
              have HFA' : Hid (∀ W, Below wr.heap.size wr W → Calls Tryd.prog 15 #[.int .i64 2, .int .i64 (i : Int)] W fun r w' => r = .returned (.agg #[.int .i64 2, .int .i64 (i : Int), .int .i64 0]) ∧ Below wr.heap.size wr w') := fun W h => (fault15 2 (i : Int) W).mono fun e w' ⟨he, hw⟩ => ⟨he, h.trans (hw.mono h.size)⟩
              go_upto_region 12 with fail
              obtain ⟨hrs, hwd, hbw, -, -, -⟩ := HSTATE.out wr HNXE.out
              have HRS := hide hrs
              have HWD := hide hwd
              have HBW := hide hbw
              obtain ⟨wl, c0, c1, c2, c3, c4, cz⟩ := hwd
              obtain ⟨l0, a0, a1, a2, a3, a4, b0, b1, b2, z, y⟩ := hrs
              have HD0 : Hid (Below wr.heap.size wr wr.drew) := (Below.refl _ _).drew
              have HRZ : Hid (∀ W, Below wr.heap.size wr W → Rs2 W w.heap.size ∧ Wd W (w.heap.size + 1 + 1) 2 ⟨#[]⟩ (.slice none 0 0) (.slice none 0 0) (a : Int)) := fun W h => ⟨HRS.out.next h HRS.out.lt, HWD.out.next h HWD.out.lt⟩
              clear hbw HSTATE
              go_region_with (go_at_call 15; refine (HFA'.out _ (by first | exact HD0.out | exact Below.refl _ _ | with_reducible assumption)).mono ?_; rintro e w3 ⟨rfl, hb3⟩; obtain ⟨⟨l5, d0, d1, d2, d3, d4, e0, e1, e2, z5, y5⟩, ⟨wl5, g0, g1, g2, g3, g4, gz⟩⟩ := HRZ.out w3 hb3)
              all_goals
                have HP := hide (Rs2.put ⟨l5, d0, d1, d2, d3, d4, e0, e1, e2, z5, y5⟩ (.int .i64 2) (.string ⟨#[]⟩) (.slice none 0 0) (.slice none 0 0) (.int .i64 (a : Int)) (.int .i64 2) (.int .i64 (i : Int)) (.int .i64 0) rfl)
                have HB3 := hide (HBW.out.trans (hb3.mono HBW.out.size))
                clear hb3 HRZ HFA' HD0 HWD HRS
                go_wp2
                obtain ⟨⟨r0, r1, r2, r3, r4, q0, q1, q2⟩, hbz, hkz⟩ := HP.out
                exact bodyPost_ret (v := .tuple #[.agg #[.int .i64 2, .string ⟨#[]⟩, .slice none 0 0, .slice none 0 0, .int .i64 (a : Int)], .int .i64 ((q : Int) + 1), .agg #[.int .i64 2, .int .i64 (i : Int), .int .i64 0]]) (by simp [results, Tryd.results24, go_sem, r0, r1, r2, r3, r4, q0, q1, q2]) rfl (by rw [HRE.out]; exact givesT_of rfl rfl rfl rfl rfl (nilA_in _ _ _) (fun h => absurd h (by decide)) (fun _ => by show (i : Int) = ((a + (i - (a + 1) + 1) : Nat) : Int); omega) (HB3.out.trans ((hbz w.heap.size (Nat.le_refl _)).mono (Nat.le_refl _))))
          · have hb1 : ¬ n < 32 := fun h => hbad (Or.inl h)
            have hb2 : (n == 127) = false := beq_eq_false_iff_ne.2 (fun h => hbad (Or.inr h))
            have HGO0 := hide (show TotT (i + stp n k - (a + 1)) (xs ++ [n]) (SG (prt B (i + stp n k) q)) = T by
              have h := HTO.out
              rw [SG_go hne ho hbad, prt_drop] at h
              rw [← h]
              unfold TotT
              refine Prod.ext (by simp) (Prod.ext rfl ?_)
              show _ + _ = _ + _ + _
              omega)
            clear ho hne hk0 hn0 HRS HWD HBW HTO HRE0 HSTATE hbad
            by_cases h39 : n = 39
            · subst h39
              have HGO := hide (show TotT (i + 2 - (a + 1)) (xs ++ [39]) (SG (prt B (i + 2) q)) = T from HGO0.out)
              clear HGO0
              go_wp2_with fail
              refine HON.out.mono ?_
              rintro e w1 ⟨rfl, hw1⟩
              have hw2 := hw1.symm
              subst hw2
              clear HON
              go_wp2_with (at_builtin; refine wpList_append_own _ rfl _ _ 39 rfl (w.heap.size + 3) 2 i0 (.int .i64 0) 1 8 Tryd.underlying39 hi hz0 hz1 hz2 rfl (by decide) _ _ _ rfl (hown.alloc _) ⟨wr.heap.size, 0, none⟩ 1 1 [.int .i64 39] rfl rfl ?c1 ?c2 ?c3 ?c4 ?c5 ?_)
              case c1 =>
                intro j u hj
                match j, hj with
                | 0, hj => simp at hj; subst hj; simp [Addr.add]
              case c2 => intro u hu; simp at hu; subst hu; rfl
              case c3 => unfold maxLen; omega
              case c4 => omega
              case c5 => simp; omega
              intro v' w3 hown' hgrow _
              have hown3 : w3.ownsRow (w.heap.size + 3) 2 1 v' (xs ++ [39]).length (iv (xs ++ [39])) := by
                rw [List.length_append, show iv (xs ++ [39]) = iv xs ++ [.int .i64 39] from List.map_append]; exact hown'
              have HNX3 := hide ((HNX.out.alloc (show w.heap.size + 3 ≤ wr.heap.size by omega) _).grown hgrow (by simp; omega) (fun p hp => (hown.lt p hp).1))
              clear hown' hgrow hown
              go_wp2
              go_roundg (L + 2 - (i + 2))
              case rel => exact ⟨i + 2, xs ++ [39], by omega, by go_num, hown3, HNX3.out, by omega, by omega, by rw [List.length_append]; simp; omega, HGO.out⟩
              case measure => omega
            · have h39' : (n == 39) = false := beq_eq_false_iff_ne.2 h39
              have HGO := hide (show TotT (i + k - (a + 1)) (xs ++ [n]) (SG (prt B (i + k) q)) = T by
                have h := HGO0.out
                unfold stp at h
                rw [if_neg h39] at h
                exact h)
              clear HGO0
              go_wp2_with fail
              refine HON.out.mono ?_
              rintro e w1 ⟨rfl, hw1⟩
              have hw2 := hw1.symm
              subst hw2
              clear HON
              go_wp2_with (at_builtin; refine wpList_append_own _ rfl _ _ 39 rfl (w.heap.size + 3) 2 i0 (.int .i64 0) 1 8 Tryd.underlying39 hi hz0 hz1 hz2 rfl (by decide) _ _ _ rfl (hown.alloc _) ⟨wr.heap.size, 0, none⟩ 1 1 [.int .i64 n] rfl rfl ?c1 ?c2 ?c3 ?c4 ?c5 ?_)
              case c1 =>
                intro j u hj
                match j, hj with
                | 0, hj => simp at hj; subst hj; simp [Addr.add]
              case c2 => intro u hu; simp at hu; subst hu; rfl
              case c3 => unfold maxLen; omega
              case c4 => omega
              case c5 => simp; omega
              intro v' w3 hown' hgrow _
              have hown3 : w3.ownsRow (w.heap.size + 3) 2 1 v' (xs ++ [n]).length (iv (xs ++ [n])) := by
                rw [List.length_append, show iv (xs ++ [n]) = iv xs ++ [.int .i64 n] from List.map_append]; exact hown'
              have HNX3 := hide ((HNX.out.alloc (show w.heap.size + 3 ≤ wr.heap.size by omega) _).grown hgrow (by simp; omega) (fun p hp => (hown.lt p hp).1))
              clear hown' hgrow hown
              go_wp2
              go_roundg (L + 2 - (i + k))
              case rel => exact ⟨i + k, xs ++ [n], by omega, by go_num, hown3, HNX3.out, by omega, by omega, by rw [List.length_append]; simp; omega, HGO.out⟩
              case measure => omega
      · have HRE := hide (show RR = ⟨2, [], textA xs, q - a + 1, 0, 0⟩ by
          have h := HTO.out
          rw [prt_end (by omega), SG_nil] at h
          rw [HRE0.out, ← h]
          simp [rdT, TotT])
        obtain ⟨pa, pc, rfl, hrow⟩ := row_owned (lo := 0) hown (by omega) (Nat.zero_le _)
        have HTE := hide (text_any 0 xs pa pc wr hrow (by omega))
        clear hrow hown HTO HRE0 HSTATE HSL htx hgl
        generalize hXL : xs.length = XL at *
        obtain ⟨n1, hn1⟩ : ∃ n1, (textA xs).shape.length = n1 := ⟨_, rfl⟩
        obtain ⟨n2, hn2⟩ : ∃ n2, (textA xs).cells.length = n2 := ⟨_, rfl⟩
        go_wp2_with fail
        refine HTE.out.mono ?_
        rintro e w5 ⟨⟨vv, rfl, hin⟩, hb5⟩
        have hin' := hin
        clear HTE
        obtain ⟨z1, m1, z2, m2, hvv, -⟩ := hin
        have hv2 : vv = .agg #[.slice z1 n1 m1, .slice z2 n2 m2] := by rw [hvv, hn1, hn2]
        subst hv2
        have HIN := hide hin'
        clear hin' hvv
        have HR5 := hide (HRS.out.next hb5 HRS.out.lt)
        have HWD5 := hide (HWD.out.next hb5 HWD.out.lt)
        have HB5 := hide (HBW.out.trans (hb5.mono HBW.out.size))
        obtain ⟨wl, c0, c1, c2, c3, c4, cz⟩ := HWD5.out
        have cz2 := cz 2
        have cz3 := cz 3
        have HPW := hide (Wd.lit HWD5.out (.slice z1 n1 m1) (.slice z2 n2 m2) rfl)
        obtain ⟨W6, hW6⟩ : ∃ W6, (w5.setCell ⟨w.heap.size + 1 + 1, 2, none⟩ (.slice z1 n1 m1)).setCell ⟨w.heap.size + 1 + 1, 3, none⟩ (.slice z2 n2 m2) = W6 := ⟨_, rfl⟩
        rw [hW6] at HPW
        obtain ⟨⟨wl6, g0, g1, g2, g3, g4, gz⟩, hb6, hk6⟩ := HPW.out
        have HR6 := hide (HR5.out.next (hb6 (w.heap.size + 1 + 1) (Nat.le_refl _)) (by omega))
        obtain ⟨l5, d0, d1, d2, d3, d4, e0, e1, e2, z5, y5⟩ := HR6.out
        have HP := hide (Rs2.put ⟨l5, d0, d1, d2, d3, d4, e0, e1, e2, z5, y5⟩ (.int .i64 2) (.string ⟨#[]⟩) (.slice z1 n1 m1) (.slice z2 n2 m2) (.int .i64 (a : Int)) (.int .i64 0) (.int .i64 0) (.int .i64 0) rfl)
        have HB6 := hide (HB5.out.trans ((hb6 w.heap.size (by omega)).mono (Nat.le_refl _)))
        have HK6 := hide hk6
        clear HPW hb6 hk6 HR5 HWD5 HWD HRS HBW hb5 HR6 HB5
        go_wp2
        obtain ⟨⟨r0, r1, r2, r3, r4, q0, q1, q2⟩, hbz, hkz⟩ := HP.out
        exact bodyPost_ret (v := .tuple #[.agg #[.int .i64 2, .string ⟨#[]⟩, .slice z1 n1 m1, .slice z2 n2 m2, .int .i64 (a : Int)], .int .i64 ((q : Int) + 1), .agg #[.int .i64 0, .int .i64 0, .int .i64 0]]) (by simp [results, Tryd.results24, go_sem, r0, r1, r2, r3, r4, q0, q1, q2]) rfl (by
          rw [HRE.out]
          refine givesT_of rfl rfl (show (⟨2, [], textA xs, q - a + 1, 0, 0⟩ : Rd).lit.shape.length = n1 from hn1) (show (⟨2, [], textA xs, q - a + 1, 0, 0⟩ : Rd).lit.cells.length = n2 from hn2) rfl ?_ (fun _ => ⟨rfl, by show (q : Int) + 1 = ((a + (q - a + 1) : Nat) : Int); omega, rfl⟩) (fun h => absurd rfl h) (HB6.out.trans ((hbz w.heap.size (Nat.le_refl _)).mono (Nat.le_refl _)))
          refine (((HIN.out.keeps (HK6.out.low HLT3.out)).keeps ?_).low ?_)
          · exact ⟨hkz.1, fun b' h1 h2 => hkz.2 b' (by have := HLT3.out; omega) h2⟩
          · have := HLT3.out; omega)
end Go.Proofs.YtnndnjffnkhpdaaDoor
