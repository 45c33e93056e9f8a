/-
  The contracts of kindOfLetters and readLetters: the word of letters that begins at a place, or that there is none such.
-/
import Derived.Test.YtnndnjffnkhpdaaDoorLxI
namespace Go.Proofs.YtnndnjffnkhpdaaDoor
open Go.ChangeShapes Go.WideShapes Go.ChangeAt Go.RowKit
open Rn (Byte)
set_option maxRecDepth 100000
set_option linter.unusedVariables false
set_option linter.unusedSimpArgs false
/-- A word in a place of its own. -/
structure Wd (W : World) (s : Nat) (k : Int) (t : ByteArray) (s2 s3 : Value) (a : Int) : Prop where
  lt : s < W.heap.size
  t0 : W.cell? ⟨s, 0, none⟩ = some (.int .i64 k)
  t1 : W.cell? ⟨s, 1, none⟩ = some (.string t)
  t2 : W.cell? ⟨s, 2, none⟩ = some s2
  t3 : W.cell? ⟨s, 3, none⟩ = some s3
  t4 : W.cell? ⟨s, 4, none⟩ = some (.int .i64 a)
  z : ∀ i, W.frozen? ⟨s, i, none⟩ = false
theorem Wd.next {W W' : World} {s B : Nat} {k : Int} {t : ByteArray} {s2 s3 : Value} {a : Int} (h : Wd W s k t s2 s3 a) (hb : Below B W W') (hB : s < B) : Wd W' s k t s2 s3 a := by
  obtain ⟨h0, a0, a1, a2, a3, a4, z⟩ := h
  have c : ∀ i v, W.cell? ⟨s, i, none⟩ = some v → W'.cell? ⟨s, i, none⟩ = some v := fun i v hv => (hb.cell (p := ⟨s, i, none⟩) hB).trans hv
  exact ⟨Nat.lt_of_lt_of_le h0 hb.size, c _ _ a0, c _ _ a1, c _ _ a2, c _ _ a3, c _ _ a4, fun i => (hb.frozen (p := ⟨s, i, none⟩) hB).trans (z i)⟩
theorem wd_new (w : World) (k : Int) (t : ByteArray) (s2 s3 : Value) (a : Int) : Wd (w.alloc (.cells #[.int .i64 k, .string t, s2, s3, .int .i64 a] 34)) w.heap.size k t s2 s3 a :=
  ⟨by simp, cell_new0 w _ 34 0 _ rfl, cell_new0 w _ 34 1 _ rfl, cell_new0 w _ 34 2 _ rfl, cell_new0 w _ 34 3 _ rfl, cell_new0 w _ 34 4 _ rfl, fun i => frozen_new w _ 34 i⟩
theorem cont_any (s chars : List UInt8) : Lib.containsAny s chars = s.any fun b => chars.contains b := by
  unfold Lib.containsAny
  induction s with
  | nil => rfl
  | cons b l ih =>
    rw [List.any_cons, ← ih]
    have hE : Lib.indexAny (b :: l) chars = if chars.contains b then 0 else if Lib.indexAny l chars == -1 then -1 else Lib.indexAny l chars + 1 := rfl
    rw [hE]
    cases hc : chars.contains b with
    | true => rfl
    | false =>
      have hg := Lib.indexAny_ge chars l
      rw [if_neg (by simp), Bool.false_or]
      by_cases h1 : Lib.indexAny l chars = -1
      · rw [h1]; rfl
      · rw [if_neg (by simpa using h1)]
        rw [decide_eq_decide]
        omega
theorem u8_is (c : Int) (hc : Byte c) (k : Nat) (hk : k < 256) : (UInt8.ofNat c.toNat == UInt8.ofNat k) = decide (c = (k : Int)) := by
  rw [Bool.eq_iff_iff, beq_iff_eq, decide_eq_true_eq]
  unfold Byte at hc
  constructor
  · intro h
    have h1 := congrArg UInt8.toNat h
    rw [UInt8.toNat_ofNat', UInt8.toNat_ofNat'] at h1
    omega
  · rintro rfl
    rfl
theorem no_any {l : List Int} (hl : ∀ z ∈ l, Byte z) : Lib.containsAny (Lib.bytesOf l) [120, 121, 122, 46, 58] = l.any noB := by
  rw [cont_any]
  induction l with
  | nil => rfl
  | cons c t ih =>
    show (([120, 121, 122, 46, 58] : List UInt8).contains (UInt8.ofNat c.toNat) || _) = (noB c || _)
    rw [← ih (fun z hz => hl z (by simp [hz]))]
    congr 1
    have hc := hl c (by simp)
    have e1 := u8_is c hc 120 (by omega)
    have e2 := u8_is c hc 121 (by omega)
    have e3 := u8_is c hc 122 (by omega)
    have e4 := u8_is c hc 46 (by omega)
    have e5 := u8_is c hc 58 (by omega)
    show ((UInt8.ofNat c.toNat == UInt8.ofNat 120) || ((UInt8.ofNat c.toNat == UInt8.ofNat 121) || ((UInt8.ofNat c.toNat == UInt8.ofNat 122) || ((UInt8.ofNat c.toNat == UInt8.ofNat 46) || ((UInt8.ofNat c.toNat == UInt8.ofNat 58) || false))))) = _
    rw [e1, e2, e3, e4, e5]
    unfold noB
    simp [Bool.or_assoc]
set_option maxHeartbeats 4000000 in
theorem kindlet40 {l : List Int} (hl : ∀ z ∈ l, Byte z) (ha : ∀ z ∈ l, z < 128) (hn : l.length ≤ 140737488355328) (w : World) :
    Calls Tryd.prog 40 #[.string (strOfNums l)] w fun e w' => e = .returned (.int .i64 (kindL l)) ∧ Below w.heap.size w w' := by
  have hz := str_size l
  have hd := str_data l
  have hB := Below.refl w.heap.size w
  have HSS := hide (Lib.strOfNums_toList l)
  have HCA := hide (show l.length ≤ 8 → Calls Tryd.prog 46 #[.string (strOfNums l), .string ⟨#[120, 121, 122, 46, 58]⟩] w fun e w' => e = .returned (.bool (l.any noB)) ∧ Below w.heap.size w w' from fun h8 => by
    have C := Tryd.strings_ContainsAny_laid (strOfNums l) ⟨#[120, 121, 122, 46, 58]⟩ w (by rw [hz]; omega) (by decide) (by
      intro j b hj
      rw [hd] at hj
      have hm := List.mem_of_getElem? hj
      unfold Lib.bytesOf at hm
      rw [List.mem_map] at hm
      obtain ⟨z, hz1, rfl⟩ := hm
      have := ha z hz1
      have := hl z hz1
      unfold Byte at this
      rw [UInt8.toNat_ofNat']
      omega) (by
      intro j b hj
      have hm : b ∈ ([120, 121, 122, 46, 58] : List UInt8) := List.mem_of_getElem? hj
      simp at hm
      rcases hm with rfl | rfl | rfl | rfl | rfl <;> decide)
    rw [hd] at C
    have e : (ByteArray.mk #[120, 121, 122, 46, 58]).data.toList = ([120, 121, 122, 46, 58] : List UInt8) := rfl
    rw [e, no_any hl] at C
    exact C)
  have hzi : ((strOfNums l).size : Int) = (l.length : Int) := by rw [hz]
  generalize strOfNums l = SS at *
  clear hz hd ha
  by_cases h0 : l = [105, 46]
  · subst h0
    have g0 : (SS.toList == [105, 46]) = true := by rw [HSS.out]; decide
    clear HSS HCA
    go_enter Tryd.func40, Tryd.ntmps40
    go_wp2
    go_ret
    exact ⟨Rn.retI (by decide), by exact hB⟩
  · have g0 : (SS.toList == [105, 46]) = false := by rw [HSS.out]; exact list_ne (m := [105, 46]) hl (by intro z hz; simp at hz; unfold Byte; omega) (by decide) h0
    by_cases h1 : l = [101, 46]
    · subst h1
      have g1 : (SS.toList == [101, 46]) = true := by rw [HSS.out]; decide
      clear HSS HCA
      go_enter Tryd.func40, Tryd.ntmps40
      go_wp2
      go_ret
      exact ⟨Rn.retI (by decide), by exact hB⟩
    · have g1 : (SS.toList == [101, 46]) = false := by rw [HSS.out]; exact list_ne (m := [101, 46]) hl (by intro z hz; simp at hz; unfold Byte; omega) (by decide) h1
      by_cases h2 : l = [120]
      · subst h2
        have g2 : (SS.toList == [120]) = true := by rw [HSS.out]; decide
        clear HSS HCA
        go_enter Tryd.func40, Tryd.ntmps40
        go_wp2
        go_ret
        exact ⟨Rn.retI (by decide), by exact hB⟩
      · have g2 : (SS.toList == [120]) = false := by rw [HSS.out]; exact list_ne (m := [120]) hl (by intro z hz; simp at hz; unfold Byte; omega) (by decide) h2
        by_cases h3 : l = [121]
        · subst h3
          have g3 : (SS.toList == [121]) = true := by rw [HSS.out]; decide
          clear HSS HCA
          go_enter Tryd.func40, Tryd.ntmps40
          go_wp2
          go_ret
          exact ⟨Rn.retI (by decide), by exact hB⟩
        · have g3 : (SS.toList == [121]) = false := by rw [HSS.out]; exact list_ne (m := [121]) hl (by intro z hz; simp at hz; unfold Byte; omega) (by decide) h3
          have hk : kindL l = if l.length ≤ 8 ∧ l.any noB = false then 3 else 0 := by
            unfold kindL
            rw [if_neg (fun h => h.elim h0 h1), if_neg (fun h => h.elim h2 h3)]
          rw [hk]
          clear h0 h1 h2 h3 HSS hk
          by_cases h8 : l.length ≤ 8
          · have HC := hide (HCA.out h8)
            have h8' : (SS.size : Int) ≤ 8 := by omega
            clear HCA
            cases hb : l.any noB with
            | true =>
              rw [hb] at HC
              rw [if_neg (fun h => by cases h.2)]
              clear hl hn hzi h8 hb
              go_enter Tryd.func40, Tryd.ntmps40
              go_wp2_with fail
              refine HC.out.mono ?_
              rintro e w1 ⟨rfl, hb1⟩
              go_wp2
              go_ret
              exact ⟨rfl, by exact hb1⟩
            | false =>
              rw [hb] at HC
              rw [if_pos ⟨h8, rfl⟩]
              clear hl hn hzi h8 hb
              go_enter Tryd.func40, Tryd.ntmps40
              go_wp2_with fail
              refine HC.out.mono ?_
              rintro e w1 ⟨rfl, hb1⟩
              go_wp2
              go_ret
              exact ⟨rfl, by exact hb1⟩
          · have h8' : ¬ (SS.size : Int) ≤ 8 := by omega
            rw [if_neg (fun h => h8 h.1)]
            clear hl hn hzi h8 HCA
            go_enter Tryd.func40, Tryd.ntmps40
            go_wp2
            go_ret
            exact ⟨rfl, by exact hB⟩
theorem lead_nm (l : List Int) : ∀ c ∈ l.take (lead nmB l), nmB c = true := by
  induction l with
  | nil => simp [lead]
  | cons d t ih =>
    simp only [lead]
    split
    · rename_i h
      intro c hc
      simp only [List.take_succ_cons, List.mem_cons] at hc
      rcases hc with rfl | hc
      · exact h
      · exact ih c hc
    · simp
/-- A word of letters is of ASCII alone. -/
theorem let_ascii {l : List Int} (hl : l ≠ []) (h : ltB (l.headD 0) = true) : ∀ c ∈ l.take (letE l), c < 128 := by
  match l, hl with
  | c0 :: t, _ =>
    have hk : namK (c0 :: t) = lead nmB t + 1 := rfl
    have h1 : ∀ c ∈ (c0 :: t).take (namK (c0 :: t)), c < 128 := by
      intro c hc
      rw [hk, List.take_succ_cons, List.mem_cons] at hc
      rcases hc with rfl | hc
      · have h' : ltB c = true := h
        simp only [ltB, Bool.and_eq_true, decide_eq_true_eq] at h'
        omega
      · have := lead_nm t c hc
        simp only [nmB, ltB, dgB, Bool.or_eq_true, Bool.and_eq_true, decide_eq_true_eq] at this
        omega
    unfold letE
    cases hd : (c0 :: t).drop (namK (c0 :: t)) with
    | nil => exact h1
    | cons d s =>
      simp only
      split
      · rename_i hi
        intro c hc
        rw [List.take_add, hd] at hc
        simp only [List.take_succ_cons, List.take_zero, List.mem_append, List.mem_singleton] at hc
        rcases hc with hc | rfl
        · exact h1 c hc
        · simp only [infB, Bool.or_eq_true, decide_eq_true_eq] at hi
          omega
      · exact h1
set_option maxHeartbeats 8000000 in
theorem readletters26 {w : World} {b C L a : Nat} {B : List Int} (hT : Txt w b B) (hL : B.length = L) (hC : L ≤ C) (ha : a < L) (hlt0 : ltB (B[a]?.getD 0) = true) :
    Calls Tryd.prog 26 #[.slice (some ⟨b, 0, none⟩) L C, .int .i64 (a : Int)] w fun e w' => GivesT (readM (B.drop a)) a w e w' := by
  have hlen := hT.len
  rw [hL] at hlen
  obtain ⟨W1, hW1⟩ : ∃ W1, (w.alloc (.cells #[.int .i64 0, .string ⟨#[]⟩, .slice none 0 0, .slice none 0 0, .int .i64 0] 34)).alloc (.cells #[.int .i64 0, .int .i64 0, .int .i64 0] 26) = W1 := ⟨_, rfl⟩
  have hb1 : Below w.heap.size w W1 := by rw [← hW1]; exact two_allocs _ _ _
  have R1 : Rs2 W1 w.heap.size := by rw [← hW1]; exact rs2_new w
  obtain ⟨E, hE⟩ : ∃ E, a + 1 + lead nmB (B.drop (a + 1)) = E := ⟨_, rfl⟩
  have hnk : namK (B.drop a) = E - a := by
    unfold namK
    rw [List.tail_drop]
    omega
  have hEL : E ≤ L := by
    have := lead_le nmB (B.drop (a + 1))
    rw [List.length_drop] at this
    omega
  have haE : a < E := by omega
  have hne : B.drop a ≠ [] := by rw [drop_cons (by omega)]; simp
  obtain ⟨F, hF⟩ : ∃ F, a + letE (B.drop a) = F := ⟨_, rfl⟩
  have hlF : letE (B.drop a) = F - a := by omega
  have hFc : (L ≤ E → F = E) ∧ (E < L → infB (B[E]?.getD 0) = true → F = E + 1) ∧ (E < L → infB (B[E]?.getD 0) = false → F = E) := by
    have hEE : letE (B.drop a) = match B.drop E with | [] => E - a | c :: _ => if infB c then E - a + 1 else E - a := by
      unfold letE
      rw [hnk, List.drop_drop, show a + (E - a) = E by omega]
      rfl
    refine ⟨fun h => ?_, fun h hi => ?_, fun h hi => ?_⟩
    · rw [show B.drop E = [] from List.drop_eq_nil_of_le (by omega)] at hEE
      simp only at hEE
      omega
    · rw [drop_cons (i := E) (by omega)] at hEE
      simp only [hi, if_true] at hEE
      omega
    · rw [drop_cons (i := E) (by omega)] at hEE
      simp only [hi, Bool.false_eq_true, if_false] at hEE
      omega
  have hFL : F ≤ L ∧ E ≤ F := by
    have := letE_le hne
    rw [List.length_drop] at this
    omega
  have hrm : readM (B.drop a) = if kindL ((B.drop a).take (F - a)) = 0 then ⟨3, [], nilA, 0, 2, 0⟩ else ⟨kindL ((B.drop a).take (F - a)), (B.drop a).take (F - a), nilA, F - a, 0, 0⟩ := by unfold readM; rw [hlF]
  have hasc : ∀ c ∈ (B.drop a).take (F - a), c < 128 := by
    rw [← hlF]
    exact let_ascii hne (by rw [drop_cons (by omega)]; exact hlt0)
  have hkc := fun W => kindlet40 (l := (B.drop a).take (F - a)) (fun z hz => hT.byte z (List.mem_of_mem_drop (List.mem_of_mem_take hz))) hasc (by rw [List.length_take, List.length_drop]; omega) W
  rw [hrm]
  have sl2 := fun W => part_lh (P := Tryd.prog) Tryd.underlying40 sz5 (some ⟨b, 0, none⟩) L C a F (a : Int) (F : Int) rfl rfl (by omega) (by omega) W
  rw [subA_at (by omega)] at sl2
  have HSTR := hide (fun W (h : Below w.heap.size w W) => by
    have hp := (hT.next h).part a C (by omega) (by omega) (F - a) (by omega)
    rw [subA_at (by omega)] at hp
    exact str_of (c := C - a) hp (by rw [List.length_take, List.length_drop]; omega))
  have HKC := hide hkc
  generalize hSS : strOfNums ((B.drop a).take (F - a)) = SS at *
  generalize hKK : kindL ((B.drop a).take (F - a)) = KK at *
  generalize hRR : (if KK = 0 then (⟨3, [], nilA, 0, 2, 0⟩ : Rd) else ⟨KK, (B.drop a).take (F - a), nilA, F - a, 0, 0⟩) = RR at *
  have HRR := hide hRR
  have HSS := hide hSS
  have HFC := hide hFc
  have HT : Hid (∀ W, Below w.heap.size w W → Txt W b B) := fun W h => hT.next h
  have HFA := hide (fun e W => fault15 e (a : Int) W)
  have HLT := hide (fun c W => letter25 c W)
  have HDG := hide (fun c W => digit32 c W)
  have HIN := hide (fun c W => inf39 c W)
  have HL := hide hL
  have HE := hide hE
  have HW1 := hide hW1
  have HB1 := hide hb1
  have HR1 := hide R1
  clear hSS hT hL hE hW1 hb1 R1 hrm hnk hRR hKK hkc hasc hFc hF hlF hne hlt0
  go_enter Tryd.func26, Tryd.ntmps26
  go_wp2_with fail
  rw [HW1.out]
  go_loopg [7] (L - (a + 1)) (fun g i wr => ∃ j : Nat, g + j = L ∧ i = .int .i64 (j : Int) ∧ j + lead nmB (B.drop j) = E ∧ Below w.heap.size w wr ∧ Rs2 wr w.heap.size)
  case atStart => exact ⟨a + 1, by omega, by go_num, HE.out, HB1.out, HR1.out⟩
  case round =>
    clear HE HB1 HR1 HW1
    obtain ⟨j, hj, rfl, hjr, hnx, hrs⟩ := hrel
    have HJ := hide hjr
    have HRS := hide hrs
    clear hjr hrs
    by_cases hgo : j < L ∧ nmB (B[j]?.getD 0) = true
    · obtain ⟨hlt, hnm⟩ := hgo
      have hc := (HT.out _ hnx).cell j (by rw [HL.out]; exact hlt)
      have HST := hide (lead_step (p := nmB) (B := B) (a := j) (by rw [HL.out]; exact hlt))
      rw [hnm] at HST
      have HST' := hide (show lead nmB (B.drop j) = lead nmB (B.drop (j + 1)) + 1 from HST.out)
      generalize B[j]?.getD 0 = c at *
      have HLC := hide (fun W => HLT.out c W)
      have HDC := hide (fun W => HDG.out c W)
      clear HLT HDG HST HT HSTR HFA HFC HKC HIN
      cases hlc : ltB c with
      | true =>
        rw [hlc] at HLC
        clear hnm hlc HDC
        go_wp2_with fail
        refine (HLC.out _).mono ?_
        rintro e w1 ⟨rfl, hw1⟩
        have hw2 := hw1.symm
        subst hw2
        go_wp2
        go_roundg (L - (j + 1))
        case rel => exact ⟨j + 1, by omega, by go_num, by have := HJ.out; have := HST'.out; omega, hnx, HRS.out⟩
        case measure => omega
      | false =>
        have hdc : dgB c = true := by simpa [nmB, hlc] using hnm
        rw [hlc] at HLC
        rw [hdc] at HDC
        clear hnm hlc hdc
        go_wp2_with fail
        refine (HLC.out _).mono ?_
        rintro e w1 ⟨rfl, hw1⟩
        have hw2 := hw1.symm
        subst hw2
        go_wp2_with fail
        refine (HDC.out _).mono ?_
        rintro e w1 ⟨rfl, hw1⟩
        have hw2 := hw1.symm
        subst hw2
        go_wp2
        go_roundg (L - (j + 1))
        case rel => exact ⟨j + 1, by omega, by go_num, by have := HJ.out; have := HST'.out; omega, hnx, HRS.out⟩
        case measure => omega
    · have h0 : lead nmB (B.drop j) = 0 := by
        by_cases hlt : j < L
        · rw [lead_step (by rw [HL.out]; exact hlt), if_neg (fun h => hgo ⟨hlt, h⟩)]
        · exact lead_end (by rw [HL.out]; omega)
      obtain rfl : j = E := lead_same HJ.out h0
      clear h0 HJ
      by_cases hlt : j < L
      · have hc := (HT.out _ hnx).cell j (by rw [HL.out]; exact hlt)
        have hnm : nmB (B[j]?.getD 0) = false := by
          cases hh : nmB (B[j]?.getD 0) with
          | false => rfl
          | true => exact absurd ⟨hlt, hh⟩ hgo
        have hF1 := HFC.out.2.1 hlt
        have hF2 := HFC.out.2.2 hlt
        generalize B[j]?.getD 0 = c at *
        have HLC := hide (fun W => HLT.out c W)
        have HDC := hide (fun W => HDG.out c W)
        have HIC := hide (fun W => HIN.out c W)
        have hlc : ltB c = false := by
          unfold nmB at hnm
          cases hh : ltB c with
          | false => rfl
          | true => rw [hh] at hnm; cases hnm
        have hdc : dgB c = false := by
          unfold nmB at hnm
          rw [hlc] at hnm
          exact hnm
        rw [hlc] at HLC
        rw [hdc] at HDC
        clear HLT HDG HIN HFC HT hnm hlc hdc hgo
        cases hic : infB c with
        | true =>
          have hFF := hF1 hic
          subst hFF
          rw [hic] at HIC
          have hsl := sl2
          rw [show ((j + 1 : Nat) : Int) = (j : Int) + 1 by omega] at hsl
          clear sl2 hF1 hF2 hic
          have HSR := hide (HSTR.out _ hnx)
          clear HSTR
          have hstr := HSR.out
          go_wp2_with fail
          refine (HLC.out _).mono ?_
          rintro e w1 ⟨rfl, hw1⟩
          have hw2 := hw1.symm
          subst hw2
          go_wp2_with fail
          refine (HDC.out _).mono ?_
          rintro e w1 ⟨rfl, hw1⟩
          have hw2 := hw1.symm
          subst hw2
          go_wp2_with fail
          refine (HIC.out _).mono ?_
          rintro e w1 ⟨rfl, hw1⟩
          have hw2 := hw1.symm
          subst hw2
          clear HLC HDC HIC
          go_wp2_with fail
          refine (HKC.out _).mono ?_
          rintro e w4 ⟨rfl, hb4⟩
          have HB4 := hide (hnx.trans (hb4.mono hnx.size))
          have HR4 := hide (HRS.out.next hb4 HRS.out.lt)
          clear HKC hb4 HRS hstr HSR hnx
          by_cases hk0 : KK = 0
          · have HRE := hide (HRR.out.symm.trans (if_pos hk0))
            subst hk0
            go_wp2_with fail
            refine (HFA.out 2 _).mono ?_
            rintro e w5 ⟨rfl, hb5⟩
            have HB5 := hide (HB4.out.trans (hb5.mono HB4.out.size))
            obtain ⟨l0, a0, a1, a2, a3, a4, b0, b1, b2, z, y⟩ := HR4.out.next hb5 HR4.out.lt
            have HP := hide (Rs2.put ⟨l0, a0, a1, a2, a3, a4, b0, b1, b2, z, y⟩ (.int .i64 3) (.string ⟨#[]⟩) (.slice none 0 0) (.slice none 0 0) (.int .i64 (a : Int)) (.int .i64 2) (.int .i64 (a : Int)) (.int .i64 0) rfl)
            clear HFA HR4 HB4 hb5
            go_wp2
            obtain ⟨⟨r0, r1, r2, r3, r4, q0, q1, q2⟩, hbz, hkz⟩ := HP.out
            exact bodyPost_ret (v := .tuple #[.agg #[.int .i64 3, .string ⟨#[]⟩, .slice none 0 0, .slice none 0 0, .int .i64 (a : Int)], .int .i64 ((j : Int) + 1), .agg #[.int .i64 2, .int .i64 (a : Int), .int .i64 0]]) (by simp [results, Tryd.results26, go_sem, r0, r1, r2, r3, r4, q0, q1, q2]) rfl (by rw [HRE.out]; exact givesT_of rfl rfl rfl rfl rfl (nilA_in _ _ _) (fun h => absurd h (by decide)) (fun _ => by simp) (HB5.out.trans ((hbz w.heap.size (Nat.le_refl _)).mono (Nat.le_refl _))))
          · have HRE := hide (HRR.out.symm.trans (if_neg hk0))
            have hk0' : (KK == 0) = false := beq_eq_false_iff_ne.2 hk0
            obtain ⟨l0, a0, a1, a2, a3, a4, b0, b1, b2, z, y⟩ := HR4.out
            have HP := hide (Rs2.put ⟨l0, a0, a1, a2, a3, a4, b0, b1, b2, z, y⟩ (.int .i64 KK) (.string SS) (.slice none 0 0) (.slice none 0 0) (.int .i64 (a : Int)) (.int .i64 0) (.int .i64 0) (.int .i64 0) rfl)
            clear HFA HR4
            go_wp2
            obtain ⟨⟨r0, r1, r2, r3, r4, q0, q1, q2⟩, hbz, hkz⟩ := HP.out
            exact bodyPost_ret (v := .tuple #[.agg #[.int .i64 KK, .string SS, .slice none 0 0, .slice none 0 0, .int .i64 (a : Int)], .int .i64 ((j : Int) + 1), .agg #[.int .i64 0, .int .i64 0, .int .i64 0]]) (by simp [results, Tryd.results26, go_sem, r0, r1, r2, r3, r4, q0, q1, q2]) rfl (by rw [HRE.out]; exact givesT_of rfl HSS.out rfl rfl rfl (nilA_in _ _ _) (fun _ => ⟨rfl, by show ((j : Int) + 1 : Int) = ((a + ((j + 1) - a) : Nat) : Int); omega, rfl⟩) (fun h => absurd rfl h) (HB4.out.trans ((hbz w.heap.size (Nat.le_refl _)).mono (Nat.le_refl _))))
        | false =>
          have hFF := hF2 hic
          subst hFF
          rw [hic] at HIC
          clear hF1 hF2 hic
          have HSR := hide (HSTR.out _ hnx)
          clear HSTR
          have hstr := HSR.out
          go_wp2_with fail
          refine (HLC.out _).mono ?_
          rintro e w1 ⟨rfl, hw1⟩
          have hw2 := hw1.symm
          subst hw2
          go_wp2_with fail
          refine (HDC.out _).mono ?_
          rintro e w1 ⟨rfl, hw1⟩
          have hw2 := hw1.symm
          subst hw2
          go_wp2_with fail
          refine (HIC.out _).mono ?_
          rintro e w1 ⟨rfl, hw1⟩
          have hw2 := hw1.symm
          subst hw2
          clear HLC HDC HIC
          go_wp2_with fail
          refine (HKC.out _).mono ?_
          rintro e w4 ⟨rfl, hb4⟩
          have HB4 := hide (hnx.trans (hb4.mono hnx.size))
          have HR4 := hide (HRS.out.next hb4 HRS.out.lt)
          clear HKC hb4 HRS hstr HSR hnx
          by_cases hk0 : KK = 0
          · have HRE := hide (HRR.out.symm.trans (if_pos hk0))
            subst hk0
            go_wp2_with fail
            refine (HFA.out 2 _).mono ?_
            rintro e w5 ⟨rfl, hb5⟩
            have HB5 := hide (HB4.out.trans (hb5.mono HB4.out.size))
            obtain ⟨l0, a0, a1, a2, a3, a4, b0, b1, b2, z, y⟩ := HR4.out.next hb5 HR4.out.lt
            have HP := hide (Rs2.put ⟨l0, a0, a1, a2, a3, a4, b0, b1, b2, z, y⟩ (.int .i64 3) (.string ⟨#[]⟩) (.slice none 0 0) (.slice none 0 0) (.int .i64 (a : Int)) (.int .i64 2) (.int .i64 (a : Int)) (.int .i64 0) rfl)
            clear HFA HR4 HB4 hb5
            go_wp2
            obtain ⟨⟨r0, r1, r2, r3, r4, q0, q1, q2⟩, hbz, hkz⟩ := HP.out
            exact bodyPost_ret (v := .tuple #[.agg #[.int .i64 3, .string ⟨#[]⟩, .slice none 0 0, .slice none 0 0, .int .i64 (a : Int)], .int .i64 ((F : Int)), .agg #[.int .i64 2, .int .i64 (a : Int), .int .i64 0]]) (by simp [results, Tryd.results26, go_sem, r0, r1, r2, r3, r4, q0, q1, q2]) rfl (by rw [HRE.out]; exact givesT_of rfl rfl rfl rfl rfl (nilA_in _ _ _) (fun h => absurd h (by decide)) (fun _ => by simp) (HB5.out.trans ((hbz w.heap.size (Nat.le_refl _)).mono (Nat.le_refl _))))
          · have HRE := hide (HRR.out.symm.trans (if_neg hk0))
            have hk0' : (KK == 0) = false := beq_eq_false_iff_ne.2 hk0
            obtain ⟨l0, a0, a1, a2, a3, a4, b0, b1, b2, z, y⟩ := HR4.out
            have HP := hide (Rs2.put ⟨l0, a0, a1, a2, a3, a4, b0, b1, b2, z, y⟩ (.int .i64 KK) (.string SS) (.slice none 0 0) (.slice none 0 0) (.int .i64 (a : Int)) (.int .i64 0) (.int .i64 0) (.int .i64 0) rfl)
            clear HFA HR4
            go_wp2
            obtain ⟨⟨r0, r1, r2, r3, r4, q0, q1, q2⟩, hbz, hkz⟩ := HP.out
            exact bodyPost_ret (v := .tuple #[.agg #[.int .i64 KK, .string SS, .slice none 0 0, .slice none 0 0, .int .i64 (a : Int)], .int .i64 ((F : Int)), .agg #[.int .i64 0, .int .i64 0, .int .i64 0]]) (by simp [results, Tryd.results26, go_sem, r0, r1, r2, r3, r4, q0, q1, q2]) rfl (by rw [HRE.out]; exact givesT_of rfl HSS.out rfl rfl rfl (nilA_in _ _ _) (fun _ => ⟨rfl, by show ((F : Int) : Int) = ((a + (F - a) : Nat) : Int); omega, rfl⟩) (fun h => absurd rfl h) (HB4.out.trans ((hbz w.heap.size (Nat.le_refl _)).mono (Nat.le_refl _))))
      · have hje : j = L := by omega
        have hFF : F = j := HFC.out.1 (by omega)
        subst hFF
        subst hje
        clear HLT HDG HIN HFC HT hgo
        have HSR := hide (HSTR.out _ hnx)
        clear HSTR
        have hstr := HSR.out
        go_wp2_with fail
        refine (HKC.out _).mono ?_
        rintro e w4 ⟨rfl, hb4⟩
        have HB4 := hide (hnx.trans (hb4.mono hnx.size))
        have HR4 := hide (HRS.out.next hb4 HRS.out.lt)
        clear HKC hb4 HRS hstr HSR hnx
        by_cases hk0 : KK = 0
        · have HRE := hide (HRR.out.symm.trans (if_pos hk0))
          subst hk0
          go_wp2_with fail
          refine (HFA.out 2 _).mono ?_
          rintro e w5 ⟨rfl, hb5⟩
          have HB5 := hide (HB4.out.trans (hb5.mono HB4.out.size))
          obtain ⟨l0, a0, a1, a2, a3, a4, b0, b1, b2, z, y⟩ := HR4.out.next hb5 HR4.out.lt
          have HP := hide (Rs2.put ⟨l0, a0, a1, a2, a3, a4, b0, b1, b2, z, y⟩ (.int .i64 3) (.string ⟨#[]⟩) (.slice none 0 0) (.slice none 0 0) (.int .i64 (a : Int)) (.int .i64 2) (.int .i64 (a : Int)) (.int .i64 0) rfl)
          clear HFA HR4 HB4 hb5
          go_wp2
          obtain ⟨⟨r0, r1, r2, r3, r4, q0, q1, q2⟩, hbz, hkz⟩ := HP.out
          exact bodyPost_ret (v := .tuple #[.agg #[.int .i64 3, .string ⟨#[]⟩, .slice none 0 0, .slice none 0 0, .int .i64 (a : Int)], .int .i64 ((F : Int)), .agg #[.int .i64 2, .int .i64 (a : Int), .int .i64 0]]) (by simp [results, Tryd.results26, go_sem, r0, r1, r2, r3, r4, q0, q1, q2]) rfl (by rw [HRE.out]; exact givesT_of rfl rfl rfl rfl rfl (nilA_in _ _ _) (fun h => absurd h (by decide)) (fun _ => by simp) (HB5.out.trans ((hbz w.heap.size (Nat.le_refl _)).mono (Nat.le_refl _))))
        · have HRE := hide (HRR.out.symm.trans (if_neg hk0))
          have hk0' : (KK == 0) = false := beq_eq_false_iff_ne.2 hk0
          obtain ⟨l0, a0, a1, a2, a3, a4, b0, b1, b2, z, y⟩ := HR4.out
          have HP := hide (Rs2.put ⟨l0, a0, a1, a2, a3, a4, b0, b1, b2, z, y⟩ (.int .i64 KK) (.string SS) (.slice none 0 0) (.slice none 0 0) (.int .i64 (a : Int)) (.int .i64 0) (.int .i64 0) (.int .i64 0) rfl)
          clear HFA HR4
          go_wp2
          obtain ⟨⟨r0, r1, r2, r3, r4, q0, q1, q2⟩, hbz, hkz⟩ := HP.out
          exact bodyPost_ret (v := .tuple #[.agg #[.int .i64 KK, .string SS, .slice none 0 0, .slice none 0 0, .int .i64 (a : Int)], .int .i64 ((F : Int)), .agg #[.int .i64 0, .int .i64 0, .int .i64 0]]) (by simp [results, Tryd.results26, go_sem, r0, r1, r2, r3, r4, q0, q1, q2]) rfl (by rw [HRE.out]; exact givesT_of rfl HSS.out rfl rfl rfl (nilA_in _ _ _) (fun _ => ⟨rfl, by show ((F : Int) : Int) = ((a + (F - a) : Nat) : Int); omega, rfl⟩) (fun h => absurd rfl h) (HB4.out.trans ((hbz w.heap.size (Nat.le_refl _)).mono (Nat.le_refl _))))
end Go.Proofs.YtnndnjffnkhpdaaDoor
