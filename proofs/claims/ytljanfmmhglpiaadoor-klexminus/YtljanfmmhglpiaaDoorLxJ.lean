/-
  The contracts of isName and readName: the name that begins at a place, or that there is none such.
-/
import Derived.Test.YtljanfmmhglpiaaDoorLxI
namespace Go.Proofs.YtljanfmmhglpiaaDoor
open Go.ChangeShapes Go.WideShapes Go.ChangeAt Go.RowKit
open Rn (Byte)
set_option maxRecDepth 100000
set_option linter.unusedVariables false
set_option linter.unusedSimpArgs false
/-- A word in a place of its own. -/
structure Wd (W : World) (s : Nat) (k : Int) (t : ByteArray) (s2 s3 : Value) (a : Int) : Prop where
  lt : s < W.heap.size
  t0 : W.cell? ⟨s, 0, none⟩ = some (.int .i64 k)
  t1 : W.cell? ⟨s, 1, none⟩ = some (.string t)
  t2 : W.cell? ⟨s, 2, none⟩ = some s2
  t3 : W.cell? ⟨s, 3, none⟩ = some s3
  t4 : W.cell? ⟨s, 4, none⟩ = some (.int .i64 a)
  z : ∀ i, W.frozen? ⟨s, i, none⟩ = false
theorem Wd.next {W W' : World} {s B : Nat} {k : Int} {t : ByteArray} {s2 s3 : Value} {a : Int} (h : Wd W s k t s2 s3 a) (hb : Below B W W') (hB : s < B) : Wd W' s k t s2 s3 a := by
  obtain ⟨h0, a0, a1, a2, a3, a4, z⟩ := h
  have c : ∀ i v, W.cell? ⟨s, i, none⟩ = some v → W'.cell? ⟨s, i, none⟩ = some v := fun i v hv => (hb.cell (p := ⟨s, i, none⟩) hB).trans hv
  exact ⟨Nat.lt_of_lt_of_le h0 hb.size, c _ _ a0, c _ _ a1, c _ _ a2, c _ _ a3, c _ _ a4, fun i => (hb.frozen (p := ⟨s, i, none⟩) hB).trans (z i)⟩
theorem wd_new (w : World) (k : Int) (t : ByteArray) (s2 s3 : Value) (a : Int) : Wd (w.alloc (.cells #[.int .i64 k, .string t, s2, s3, .int .i64 a] 35)) w.heap.size k t s2 s3 a :=
  ⟨by simp, cell_new0 w _ 35 0 _ rfl, cell_new0 w _ 35 1 _ rfl, cell_new0 w _ 35 2 _ rfl, cell_new0 w _ 35 3 _ rfl, cell_new0 w _ 35 4 _ rfl, fun i => frozen_new w _ 35 i⟩
theorem cont_any (s chars : List UInt8) : Lib.containsAny s chars = s.any fun b => chars.contains b := by
  unfold Lib.containsAny
  induction s with
  | nil => rfl
  | cons b l ih =>
    rw [List.any_cons, ← ih]
    have hE : Lib.indexAny (b :: l) chars = if chars.contains b then 0 else if Lib.indexAny l chars == -1 then -1 else Lib.indexAny l chars + 1 := rfl
    rw [hE]
    cases hc : chars.contains b with
    | true => rfl
    | false =>
      have hg := Lib.indexAny_ge chars l
      rw [if_neg (by simp), Bool.false_or]
      by_cases h1 : Lib.indexAny l chars = -1
      · rw [h1]; rfl
      · rw [if_neg (by simpa using h1)]
        rw [decide_eq_decide]
        omega
theorem u8_is (c : Int) (hc : Byte c) (k : Nat) (hk : k < 256) : (UInt8.ofNat c.toNat == UInt8.ofNat k) = decide (c = (k : Int)) := by
  rw [Bool.eq_iff_iff, beq_iff_eq, decide_eq_true_eq]
  unfold Byte at hc
  constructor
  · intro h
    have h1 := congrArg UInt8.toNat h
    rw [UInt8.toNat_ofNat', UInt8.toNat_ofNat'] at h1
    omega
  · rintro rfl
    rfl
theorem no_any {l : List Int} (hl : ∀ z ∈ l, Byte z) : Lib.containsAny (Lib.bytesOf l) [120, 121, 122] = l.any noB := by
  rw [cont_any]
  induction l with
  | nil => rfl
  | cons c t ih =>
    show (([120, 121, 122] : List UInt8).contains (UInt8.ofNat c.toNat) || _) = (noB c || _)
    rw [← ih (fun z hz => hl z (by simp [hz]))]
    congr 1
    have hc := hl c (by simp)
    have e1 := u8_is c hc 120 (by omega)
    have e2 := u8_is c hc 121 (by omega)
    have e3 := u8_is c hc 122 (by omega)
    show ((UInt8.ofNat c.toNat == UInt8.ofNat 120) || ((UInt8.ofNat c.toNat == UInt8.ofNat 121) || ((UInt8.ofNat c.toNat == UInt8.ofNat 122) || false))) = _
    rw [e1, e2, e3]
    unfold noB
    simp [Bool.or_assoc]
set_option maxHeartbeats 4000000 in
theorem isname39 {l : List Int} (hl : ∀ z ∈ l, Byte z) (ha : ∀ z ∈ l, z < 128) (hn : l.length ≤ 140737488355328) (w : World) :
    Calls Tryd.prog 39 #[.string (strOfNums l)] w fun e w' => e = .returned (.bool (namB l)) ∧ Below w.heap.size w w' := by
  have hz := str_size l
  have hd := str_data l
  have hB := Below.refl w.heap.size w
  have HSS := hide (Lib.strOfNums_toList l)
  have HCA := hide (show l.length ≤ 8 → Calls Tryd.prog 47 #[.string (strOfNums l), .string ⟨#[120, 121, 122]⟩] w fun e w' => e = .returned (.bool (l.any noB)) ∧ Below w.heap.size w w' from fun h8 => by
    have C := Tryd.strings_ContainsAny_laid (strOfNums l) ⟨#[120, 121, 122]⟩ w (by rw [hz]; omega) (by decide) (by
      intro j b hj
      rw [hd] at hj
      have hm := List.mem_of_getElem? hj
      unfold Lib.bytesOf at hm
      rw [List.mem_map] at hm
      obtain ⟨z, hz1, rfl⟩ := hm
      have := ha z hz1
      have := hl z hz1
      unfold Byte at this
      rw [UInt8.toNat_ofNat']
      omega) (by
      intro j b hj
      have hm : b ∈ ([120, 121, 122] : List UInt8) := List.mem_of_getElem? hj
      simp at hm
      rcases hm with rfl | rfl | rfl <;> decide)
    rw [hd] at C
    have e : (ByteArray.mk #[120, 121, 122]).data.toList = ([120, 121, 122] : List UInt8) := rfl
    rw [e, no_any hl] at C
    exact C)
  have hzi : ((strOfNums l).size : Int) = (l.length : Int) := by rw [hz]
  generalize strOfNums l = SS at *
  clear hz hd ha
  by_cases h2 : l = [120]
  · subst h2
    have g2 : (SS.toList == [120]) = true := by rw [HSS.out]; decide
    clear HSS HCA
    go_enter Tryd.func39, Tryd.ntmps39
    go_wp2
    go_ret
    exact ⟨Rn.retB (by decide), by exact hB⟩
  · have g2 : (SS.toList == [120]) = false := by rw [HSS.out]; exact list_ne (m := [120]) hl (by intro z hz; simp at hz; unfold Byte; omega) (by decide) h2
    by_cases h3 : l = [121]
    · subst h3
      have g3 : (SS.toList == [121]) = true := by rw [HSS.out]; decide
      clear HSS HCA
      go_enter Tryd.func39, Tryd.ntmps39
      go_wp2
      go_ret
      exact ⟨Rn.retB (by decide), by exact hB⟩
    · have g3 : (SS.toList == [121]) = false := by rw [HSS.out]; exact list_ne (m := [121]) hl (by intro z hz; simp at hz; unfold Byte; omega) (by decide) h3
      have hk : namB l = (decide (l.length ≤ 8) && !l.any noB) := by
        unfold namB
        simp [h2, h3]
      rw [hk]
      clear h2 h3 HSS hk
      by_cases h8 : l.length ≤ 8
      · have HC := hide (HCA.out h8)
        have h8' : (SS.size : Int) ≤ 8 := by omega
        have hd8 : decide (l.length ≤ 8) = true := decide_eq_true h8
        rw [hd8, Bool.true_and]
        clear HCA hd8
        generalize l.any noB = bb at *
        clear hl hn hzi h8
        go_enter Tryd.func39, Tryd.ntmps39
        go_wp2_with fail
        refine HC.out.mono ?_
        rintro e w1 ⟨rfl, hb1⟩
        clear HC
        go_wp2
        go_ret
        exact ⟨rfl, by exact hb1⟩
      · have h8' : ¬ (SS.size : Int) ≤ 8 := by omega
        have hd8 : decide (l.length ≤ 8) = false := decide_eq_false h8
        rw [hd8, Bool.false_and]
        clear hl hn hzi h8 HCA hd8
        go_enter Tryd.func39, Tryd.ntmps39
        go_wp2
        go_ret
        exact ⟨rfl, by exact hB⟩
theorem lead_nm (l : List Int) : ∀ c ∈ l.take (lead nmB l), nmB c = true := by
  induction l with
  | nil => simp [lead]
  | cons d t ih =>
    simp only [lead]
    split
    · rename_i h
      intro c hc
      simp only [List.take_succ_cons, List.mem_cons] at hc
      rcases hc with rfl | hc
      · exact h
      · exact ih c hc
    · simp
set_option maxHeartbeats 8000000 in
theorem readname26 {w : World} {b C L a : Nat} {B : List Int} (hT : Txt w b B) (hL : B.length = L) (hC : L ≤ C) (ha : a < L) :
    Calls Tryd.prog 26 #[.slice (some ⟨b, 0, none⟩) L C, .int .i64 (a : Int)] w fun e w' => GivesT (readM (B.drop a)) a w e w' := by
  have hlen := hT.len
  rw [hL] at hlen
  obtain ⟨W1, hW1⟩ : ∃ W1, (w.alloc (.cells #[.int .i64 0, .string ⟨#[]⟩, .slice none 0 0, .slice none 0 0, .int .i64 0] 35)).alloc (.cells #[.int .i64 0, .int .i64 0, .int .i64 0] 26) = W1 := ⟨_, rfl⟩
  have hb1 : Below w.heap.size w W1 := by rw [← hW1]; exact two_allocs _ _ _
  have R1 : Rs2 W1 w.heap.size := by rw [← hW1]; exact rs2_new w
  obtain ⟨E, hE⟩ : ∃ E, a + lead nmB (B.drop a) = E := ⟨_, rfl⟩
  have hnk : namK (B.drop a) = E - a := by unfold namK; omega
  have hEL : E ≤ L := by
    have := lead_le nmB (B.drop a)
    rw [List.length_drop] at this
    omega
  have haE : a ≤ E := by omega
  have hrm : readM (B.drop a) = if namB ((B.drop a).take (E - a)) then ⟨3, (B.drop a).take (E - a), nilA, E - a, 0, 0⟩ else ⟨3, [], nilA, 0, 2, 0⟩ := by unfold readM; rw [hnk]
  have hasc : ∀ c ∈ (B.drop a).take (E - a), c < 128 := by
    intro c hc
    rw [show E - a = lead nmB (B.drop a) by omega] at hc
    have := lead_nm (B.drop a) c hc
    simp only [nmB, ltB, dgB, Bool.or_eq_true, Bool.and_eq_true, decide_eq_true_eq] at this
    omega
  have HNA := hide (fun W => isname39 (l := (B.drop a).take (E - a)) (fun z hz => hT.byte z (List.mem_of_mem_drop (List.mem_of_mem_take hz))) hasc (by rw [List.length_take, List.length_drop]; omega) W)
  have HRE0 := hide (reachN (C := C) (hT.next hb1) hL a (by omega))
  rw [hE] at HRE0
  rw [hrm]
  have sl2 := fun W => part_lh (P := Tryd.prog) Tryd.underlying45 sz5 (some ⟨b, 0, none⟩) L C a E (a : Int) (E : Int) rfl rfl (by omega) (by omega) W
  rw [subA_at (by omega)] at sl2
  have HSTR := hide (fun W (h : Below w.heap.size w W) => by
    have hp := (hT.next h).part a C (by omega) (by omega) (E - a) (by omega)
    rw [subA_at (by omega)] at hp
    exact str_of (c := C - a) hp (by rw [List.length_take, List.length_drop]; omega))
  generalize hSS : strOfNums ((B.drop a).take (E - a)) = SS at *
  generalize hKK : namB ((B.drop a).take (E - a)) = KK at *
  generalize hRR : (if KK then (⟨3, (B.drop a).take (E - a), nilA, E - a, 0, 0⟩ : Rd) else ⟨3, [], nilA, 0, 2, 0⟩) = RR at *
  have HRR := hide hRR
  have HSS := hide hSS
  have HFA := hide (fun e W => fault15 e (a : Int) W)
  have HW1 := hide hW1
  have HB1 := hide hb1
  have HR1 := hide R1
  clear hSS hT hL hE hW1 hb1 R1 hrm hnk hRR hKK hasc
  go_enter Tryd.func26, Tryd.ntmps26
  go_wp2_with fail
  rw [HW1.out]
  refine HRE0.out.mono ?_
  rintro e wr ⟨rfl, hb0⟩
  have HNX := hide (HB1.out.trans (hb0.mono HB1.out.size))
  have HRS := hide (HR1.out.next hb0 HR1.out.lt)
  clear HRE0 hb0 HB1 HR1 HW1
  obtain ⟨W2, hW2⟩ : ∃ W2, wr.alloc (.cells #[.int .i64 3, .string ⟨#[]⟩, .slice none 0 0, .slice none 0 0, .int .i64 (a : Int)] 35) = W2 := ⟨_, rfl⟩
  have hba : Below wr.heap.size wr W2 := by rw [← hW2]; exact one_alloc _ _
  have HB2 := hide (HNX.out.trans (hba.mono HNX.out.size))
  have HR2 := hide (HRS.out.next hba HRS.out.lt)
  have HWD : Hid (Wd W2 wr.heap.size 3 ⟨#[]⟩ (.slice none 0 0) (.slice none 0 0) (a : Int)) := by rw [← hW2]; exact wd_new wr _ _ _ _ _
  have HW2 := hide hW2
  have HNE := hide (show w.heap.size + 1 < wr.heap.size from HRS.out.lt)
  have HSZ := hide (show w.heap.size ≤ wr.heap.size from HNX.out.size)
  clear hW2 hba HRS HNX
  go_upto_region 3 with fail
  rw [HW2.out]
  have hstr := HSTR.out W2 HB2.out
  go_wp2_with fail
  refine (HNA.out _).mono ?_
  rintro e w4 ⟨rfl, hb4⟩
  have HB4 := hide (HB2.out.trans (hb4.mono HB2.out.size))
  have HR4 := hide (HR2.out.next hb4 HR2.out.lt)
  have HWD4 := hide (HWD.out.next hb4 HWD.out.lt)
  clear HNA hb4 HR2 HWD HB2 hstr HSTR HW2
  cases KK with
  | false =>
    have HRE := hide (HRR.out.symm.trans (if_neg (by decide)))
    have HFA' : Hid (∀ W, Below w4.heap.size w4 W → Calls Tryd.prog 15 #[.int .i64 2, .int .i64 (a : Int)] W fun r w' => r = .returned (.agg #[.int .i64 2, .int .i64 (a : Int), .int .i64 0]) ∧ Below w4.heap.size w4 w') := fun W h => (HFA.out 2 W).mono fun e w' ⟨he, hw⟩ => ⟨he, h.trans (hw.mono h.size)⟩
    clear HFA HRR
    go_upto_region 5 with fail
    obtain ⟨wl, c0, c1, c2, c3, c4, cz⟩ := HWD4.out
    obtain ⟨l0, a0, a1, a2, a3, a4, b0, b1, b2, z, y⟩ := HR4.out
    have HD0 : Hid (Below w4.heap.size w4 w4.drew) := (Below.refl _ _).drew
    have HRN : Hid (∀ W, Below w4.heap.size w4 W → Rs2 W w.heap.size ∧ Wd W wr.heap.size 3 ⟨#[]⟩ (.slice none 0 0) (.slice none 0 0) (a : Int)) := fun W h => ⟨HR4.out.next h HR4.out.lt, HWD4.out.next h HWD4.out.lt⟩
    go_region_with (go_at_call 15; refine (HFA'.out _ (by first | exact HD0.out | exact Below.refl _ _ | with_reducible assumption)).mono ?_; rintro e w3 ⟨rfl, hb3⟩; obtain ⟨⟨l5, d0, d1, d2, d3, d4, e0, e1, e2, z5, y5⟩, ⟨wl5, g0, g1, g2, g3, g4, gz⟩⟩ := HRN.out w3 hb3)
    all_goals
      have HP := hide (Rs2.put ⟨l5, d0, d1, d2, d3, d4, e0, e1, e2, z5, y5⟩ (.int .i64 3) (.string ⟨#[]⟩) (.slice none 0 0) (.slice none 0 0) (.int .i64 (a : Int)) (.int .i64 2) (.int .i64 (a : Int)) (.int .i64 0) rfl)
      have HB3 := hide (HB4.out.trans (hb3.mono HB4.out.size))
      clear hb3 HRN HFA' HD0 HWD4 HR4
      go_wp2
      obtain ⟨⟨r0, r1, r2, r3, r4, q0, q1, q2⟩, hbz, hkz⟩ := HP.out
      exact bodyPost_ret (v := .tuple #[.agg #[.int .i64 3, .string ⟨#[]⟩, .slice none 0 0, .slice none 0 0, .int .i64 (a : Int)], .int .i64 (E : Int), .agg #[.int .i64 2, .int .i64 (a : Int), .int .i64 0]]) (by simp [results, Tryd.results26, go_sem, r0, r1, r2, r3, r4, q0, q1, q2]) rfl (by rw [HRE.out]; exact givesT_of rfl rfl rfl rfl rfl (nilA_in _ _ _) (fun h => absurd h (by decide)) (fun _ => by simp) (HB3.out.trans ((hbz w.heap.size (Nat.le_refl _)).mono (Nat.le_refl _))))
  | true =>
    have HRE := hide (HRR.out.symm.trans (if_pos rfl))
    clear HRR
    obtain ⟨wl, c0, c1, c2, c3, c4, cz⟩ := HWD4.out
    obtain ⟨W3, hW3⟩ : ∃ W3, w4.setCell ⟨wr.heap.size, 1, none⟩ (.string SS) = W3 := ⟨_, rfl⟩
    have hbs : Below wr.heap.size w4 W3 := by rw [← hW3]; exact (Below.refl _ _).setCell (p := ⟨wr.heap.size, 1, none⟩) (Nat.le_refl _) _
    have HR3 := hide (HR4.out.next hbs HNE.out)
    have HB3 := hide (HB4.out.trans (hbs.mono HSZ.out))
    have g0 : W3.cell? ⟨wr.heap.size, 0, none⟩ = some (.int .i64 3) := by rw [← hW3, World.cell?_setCell_other _ _ _ _ (by simp)]; exact c0
    have g1 : W3.cell? ⟨wr.heap.size, 1, none⟩ = some (.string SS) := by rw [← hW3]; exact World.cell?_setCell_same' _ _ _ (by rw [c1]; rfl)
    have g2 : W3.cell? ⟨wr.heap.size, 2, none⟩ = some (.slice none 0 0) := by rw [← hW3, World.cell?_setCell_other _ _ _ _ (by simp)]; exact c2
    have g3 : W3.cell? ⟨wr.heap.size, 3, none⟩ = some (.slice none 0 0) := by rw [← hW3, World.cell?_setCell_other _ _ _ _ (by simp)]; exact c3
    have g4 : W3.cell? ⟨wr.heap.size, 4, none⟩ = some (.int .i64 (a : Int)) := by rw [← hW3, World.cell?_setCell_other _ _ _ _ (by simp)]; exact c4
    obtain ⟨l5, d0, d1, d2, d3, d4, e0, e1, e2, z5, y5⟩ := HR3.out
    have HP := hide (Rs2.put ⟨l5, d0, d1, d2, d3, d4, e0, e1, e2, z5, y5⟩ (.int .i64 3) (.string SS) (.slice none 0 0) (.slice none 0 0) (.int .i64 (a : Int)) (.int .i64 0) (.int .i64 0) (.int .i64 0) rfl)
    clear HWD4 HR4 HR3 HFA hbs HB4
    go_wp2
    obtain ⟨⟨r0, r1, r2, r3, r4, q0, q1, q2⟩, hbz, hkz⟩ := HP.out
    exact bodyPost_ret (v := .tuple #[.agg #[.int .i64 3, .string SS, .slice none 0 0, .slice none 0 0, .int .i64 (a : Int)], .int .i64 (E : Int), .agg #[.int .i64 0, .int .i64 0, .int .i64 0]]) (by simp [results, Tryd.results26, go_sem, r0, r1, r2, r3, r4, q0, q1, q2]) rfl (by rw [HRE.out]; exact givesT_of rfl HSS.out rfl rfl rfl (nilA_in _ _ _) (fun _ => ⟨rfl, by show (E : Int) = ((a + (E - a) : Nat) : Int); omega, rfl⟩) (fun h => absurd rfl h) (HB3.out.trans ((hbz w.heap.size (Nat.le_refl _)).mono (Nat.le_refl _))))
end Go.Proofs.YtljanfmmhglpiaaDoor
