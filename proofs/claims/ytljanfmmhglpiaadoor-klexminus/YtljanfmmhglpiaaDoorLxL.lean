/-
  The signs of a text: the mathematics of a loop over them, and the contracts of withinText, of reach by it, of readSign and of readText.
-/
import Derived.Test.YtljanfmmhglpiaaDoorLxK
namespace Go.Proofs.YtljanfmmhglpiaaDoor
open Go.ChangeShapes Go.WideShapes Go.ChangeAt Go.RowKit
open Rn (Byte)
set_option maxRecDepth 100000
set_option linter.unusedVariables false
set_option linter.unusedSimpArgs false
theorem signF_fuel (f : Nat) : ∀ f' m, m.length < f → m.length < f' → signF f' m = signF f m := by
  induction f with
  | zero => intro f' m h; omega
  | succ f ih =>
    intro f' m hf hf'
    obtain ⟨f', rfl⟩ : ∃ g, f' = g + 1 := ⟨f' - 1, by omega⟩
    rw [signF, signF]
    by_cases h0 : m = []
    · rw [if_pos h0, if_pos h0]
    · have hl : 0 < m.length := List.length_pos_iff.2 h0
      rw [if_neg h0, if_neg h0]
      by_cases h1 : (sgF m).2.2 = 0
      · have hs := sgF_len h1
        rw [ih f' (m.drop (sgF m).2.1) (by rw [List.length_drop]; omega) (by rw [List.length_drop]; omega)]
      · rw [if_pos h1, if_pos h1]
def SG (m : List Int) : List Int × Int × Nat := signF (m.length + 1) m
def TotT (d : Nat) (xs : List Int) (S : List Int × Int × Nat) : List Int × Int × Nat := (xs ++ S.1, S.2.1, S.2.2 + d)
theorem SG_nil : SG [] = ([], 0, 0) := rfl
theorem SG_bad {m : List Int} (h0 : m ≠ []) (h : ¬ (sgF m).2.2 = 0) : SG m = ([], (sgF m).2.2, 0) := by
  unfold SG
  rw [signF, if_neg h0, if_pos h]
theorem SG_go {m : List Int} (h0 : m ≠ []) (h : (sgF m).2.2 = 0) : SG m = ((sgF m).1 :: (SG (m.drop (sgF m).2.1)).1, (SG (m.drop (sgF m).2.1)).2.1, (SG (m.drop (sgF m).2.1)).2.2 + (sgF m).2.1) := by
  have hk := sgF_len h
  have hl : 0 < m.length := List.length_pos_iff.2 h0
  have hf := signF_fuel ((m.drop (sgF m).2.1).length + 1) m.length (m.drop (sgF m).2.1) (by omega) (by rw [List.length_drop]; omega)
  unfold SG
  rw [← hf, signF, if_neg h0, if_neg (fun hn => hn h)]
/-- The part of a text from a place up to its end. -/
def prt (B : List Int) (i e : Nat) : List Int := (B.drop i).take (e - i)
theorem prt_ne {B : List Int} {i e : Nat} (h : i < e) (he : e ≤ B.length) : prt B i e ≠ [] := by
  intro h0
  have := congrArg List.length h0
  unfold prt at this
  rw [List.length_take, List.length_drop] at this
  simp at this
  omega
theorem prt_drop {B : List Int} {i e s : Nat} : (prt B i e).drop s = prt B (i + s) e := by
  unfold prt
  rw [List.drop_take, List.drop_drop]
  congr 1
  omega
theorem prt_end {B : List Int} {i e : Nat} (h : e ≤ i) : prt B i e = [] := by
  unfold prt
  rw [show e - i = 0 by omega, List.take_zero]
/-- What readText tells, by what was read. -/
def rdT (a e : Nat) (T : List Int × Int × Nat) : Rd := if T.2.1 = 0 then ⟨2, [], textA T.1, e - a + 1, 0, 0⟩ else ⟨2, [], nilA, 0, T.2.1, T.2.2 + 1⟩
/-- How far a text goes. -/
def qEnd (e : Bool) (l : List Int) : Nat := (lastQ e l).getD l.length
theorem qEnd_le (e : Bool) (l : List Int) : qEnd e l ≤ l.length := by
  unfold qEnd
  cases h : lastQ e l with
  | none => exact Nat.le_refl _
  | some q => exact Nat.le_of_lt (lastQ_lt _ _ _ h)
theorem qEnd_step {B : List Int} {j : Nat} (h : j < B.length) (e : Bool) : qEnd e (B.drop j) = if (e || !decide (B[j]?.getD 0 = 34)) = true then qEnd (!e && decide (B[j]?.getD 0 = 92)) (B.drop (j + 1)) + 1 else 0 := by
  rw [drop_cons h]
  generalize B[j]?.getD 0 = c
  unfold qEnd
  simp only [lastQ]
  by_cases h1 : e = false ∧ c = 34
  · obtain ⟨rfl, rfl⟩ := h1
    simp
  · rw [if_neg h1, if_pos (by cases e <;> simp_all)]
    cases lastQ (!e && decide (c = 92)) (B.drop (j + 1)) with
    | none => simp
    | some q => simp
theorem qEnd_end {B : List Int} {j : Nat} (h : B.length ≤ j) (e : Bool) : qEnd e (B.drop j) = 0 := by
  rw [List.drop_eq_nil_of_le h]
  rfl
def qA (B : List Int) (a : Nat) : Nat := a + 1 + qEnd false (B.drop (a + 1))
theorem qA_le {B : List Int} {a : Nat} (ha : a < B.length) : a < qA B a ∧ qA B a ≤ B.length := by
  unfold qA
  have := qEnd_le false (B.drop (a + 1))
  rw [List.length_drop] at this
  omega
theorem readT_eq {B : List Int} {a : Nat} (ha : a < B.length) : readT (B.drop a) = if qA B a = B.length then ⟨2, [], nilA, 0, 2, 0⟩ else rdT a (qA B a) (SG (prt B (a + 1) (qA B a))) := by
  unfold readT qA qEnd
  rw [List.tail_drop]
  cases hq : lastQ false (B.drop (a + 1)) with
  | none => rw [if_pos (by simp; omega)]
  | some q =>
    have hl := lastQ_lt _ _ _ hq
    rw [List.length_drop] at hl
    simp only [Option.getD_some]
    rw [if_neg (show ¬ a + 1 + q = B.length by omega)]
    have e1 : prt B (a + 1) (a + 1 + q) = (B.drop (a + 1)).take q := by unfold prt; congr 1; omega
    have e2 : ((B.drop (a + 1)).take q).length = q := by rw [List.length_take, List.length_drop]; omega
    rw [e1]
    unfold rdT SG
    rw [e2, show a + 1 + q - a + 1 = q + 2 by omega]
/-- What a text's function keeps. -/
structure Qs (W : World) (x : Nat) (e : Bool) : Prop where
  lt : x < W.heap.size
  c : W.cell? ⟨x, 0, none⟩ = some (.bool e)
  z : W.frozen? ⟨x, 0, none⟩ = false
theorem Qs.set {W : World} {x : Nat} {e : Bool} (h : Qs W x e) (e' : Bool) : Qs (W.setCell ⟨x, 0, none⟩ (.bool e')) x e' ∧ ∀ n, n ≤ x → Below n W (W.setCell ⟨x, 0, none⟩ (.bool e')) :=
  ⟨⟨by simpa using h.lt, World.cell?_setCell_same' _ _ _ (by rw [h.c]; rfl), frozen_set _ _ _ _ h.z⟩, fun n hn => (Below.refl n W).setCell (p := ⟨x, 0, none⟩) hn _⟩
theorem Qs.drew {W : World} {x : Nat} {e : Bool} (h : Qs W x e) : Qs W.drew x e := by
  have hb := (Below.refl W.heap.size W).drew
  exact ⟨Nat.lt_of_lt_of_le h.lt hb.size, (hb.cell (p := ⟨x, 0, none⟩) h.lt).trans h.c, (hb.frozen (p := ⟨x, 0, none⟩) h.lt).trans h.z⟩
set_option maxHeartbeats 2000000 in
theorem within45 {w : World} {x : Nat} {e : Bool} (h : Qs w x e) (c : Int) : Calls Tryd.prog 45 #[.int .u8 c, .pointer (some ⟨x, 0, none⟩)] w fun r w' => r = .returned (.bool (e || !decide (c = 34))) ∧ Qs w' x (!e && decide (c = 92)) ∧ ∀ n, n ≤ x → Below n w w' := by
  have HS := hide (fun e' => h.set e')
  obtain ⟨hl, hc, hz⟩ := h
  cases e with
  | true =>
    go_enter Tryd.func45, Tryd.ntmps45
    go_wp2
    go_ret
    exact ⟨rfl, HS.out false⟩
  | false =>
    by_cases h1 : c = 34
    · subst h1
      go_enter Tryd.func45, Tryd.ntmps45
      go_wp2
      go_ret
      exact ⟨rfl, HS.out false⟩
    · have h1' : (c != 34) = true := bne_iff_ne.2 h1
      by_cases h2 : c = 92
      · subst h2
        go_enter Tryd.func45, Tryd.ntmps45
        go_wp2
        go_ret
        exact ⟨rfl, HS.out true⟩
      · have h2' : (c == 92) = false := beq_eq_false_iff_ne.2 h2
        have e1 : decide (c = 34) = false := decide_eq_false h1
        have e2 : decide (c = 92) = false := decide_eq_false h2
        rw [e1, e2]
        clear e1 e2 h1 h2
        go_enter Tryd.func45, Tryd.ntmps45
        go_wp2
        go_ret
        exact ⟨rfl, HS.out false⟩
set_option maxHeartbeats 2000000 in
theorem within35 (w : World) : Calls Tryd.prog 35 #[] w fun r w' => (∃ x, r = .returned (.func (.func 45) #[] #[.pointer (some ⟨x, 0, none⟩)]) ∧ w.heap.size ≤ x ∧ Qs w' x false) ∧ Below w.heap.size w w' := by
  have HQ : Hid (Qs (w.alloc (.cells #[.bool false] 4)) w.heap.size false) := ⟨by simp, cell_new0 w _ 4 0 _ rfl, frozen_new w _ 4 0⟩
  go_enter Tryd.func35, Tryd.ntmps35
  go_wp2
  go_ret
  exact ⟨⟨_, rfl, Nat.le_refl _, HQ.out⟩, one_alloc _ _⟩
set_option maxHeartbeats 4000000 in
theorem reachQ {w : World} {b C L x n0 : Nat} {B : List Int} {e0 : Bool} (hT : Txt w b B) (hL : B.length = L) (a : Nat) (ha : a ≤ L) (hQ : Qs w x e0) (hx : n0 ≤ x) (hbn : b < n0) :
    Calls Tryd.prog 16 #[.slice (some ⟨b, 0, none⟩) L C, .int .i64 (a : Int), .func (.func 45) #[] #[.pointer (some ⟨x, 0, none⟩)]] w fun e w' => e = .returned (.int .i64 ((a + qEnd e0 (B.drop a) : Nat) : Int)) ∧ Below n0 w w' := by
  have hlen := hT.len
  have HT : Hid (∀ wr, Below n0 w wr → ∀ i, i < L → wr.cell? ⟨b, i, none⟩ = some (.int .u8 (B[i]?.getD 0))) := fun wr h i hi => (h.cell (p := ⟨b, i, none⟩) hbn).trans (hT.cell i (by omega))
  have HL : Hid (B.length = L) := hL
  rw [hL] at hlen
  clear hT hL
  obtain ⟨R, hR⟩ : ∃ R, a + qEnd e0 (B.drop a) = R := ⟨_, rfl⟩
  rw [hR]
  have HR := hide hR
  have HD : Hid (Below n0 w w) := Below.refl _ _
  have HQ0 := hide hQ
  have HWI := hide (fun (W : World) (e : Bool) (h : Qs W x e) c => within45 h c)
  clear hR hQ
  go_enter Tryd.func16, Tryd.ntmps16
  go_wp2
  go_loopg [1] (L - a) (fun g i wr => ∃ (j : Nat) (e : Bool), g + j = L ∧ i = .int .i64 (j : Int) ∧ j + qEnd e (B.drop j) = R ∧ Below n0 w wr ∧ Qs wr x e)
  case atStart => exact ⟨a, e0, by omega, rfl, HR.out, HD.out, HQ0.out⟩
  case round =>
    clear HR HD HQ0
    obtain ⟨j, e, hj, rfl, hjr, hnx, hqs⟩ := hrel
    have HJ := hide hjr
    have HNX := hide hnx
    have HQS := hide hqs
    clear hjr hqs
    by_cases hlt : j < L
    · have hc := HT.out _ hnx j hlt
      have HST := hide (qEnd_step (B := B) (j := j) (by rw [HL.out]; exact hlt) e)
      have HQC := hide (HWI.out _ e HQS.out (B[j]?.getD 0))
      clear HT HWI hnx
      generalize B[j]?.getD 0 = c at *
      cases htk : (e || !decide (c = 34)) with
      | true =>
        rw [htk] at HQC HST
        have HST' : Hid (qEnd e (B.drop j) = qEnd (!e && decide (c = 92)) (B.drop (j + 1)) + 1) := HST.out
        clear HST htk
        go_wp2_with fail
        refine HQC.out.mono ?_
        rintro r w1 ⟨rfl, hq1, hb1⟩
        have HQ1 := hide hq1
        have HB1 := hide (HNX.out.trans ((hb1 n0 hx).mono (Nat.le_refl _)))
        clear HQC hq1 hb1 HNX HQS
        go_wp2
        go_roundg (L - (j + 1))
        case rel => exact ⟨j + 1, _, by omega, by go_num, by have := HJ.out; have := HST'.out; omega, HB1.out, HQ1.out⟩
        case measure => omega
      | false =>
        rw [htk] at HQC HST
        have HST' := hide (show qEnd e (B.drop j) = 0 from HST.out)
        clear HST htk
        go_wp2_with fail
        refine HQC.out.mono ?_
        rintro r w1 ⟨rfl, hq1, hb1⟩
        have HB1 := hide (HNX.out.trans ((hb1 n0 hx).mono (Nat.le_refl _)))
        clear HQC hq1 hb1 HNX HQS
        go_wp2
        go_ret
        exact ⟨Rn.retI (by have := HJ.out; have := HST'.out; omega), HB1.out⟩
    · have hje : j = L := by omega
      subst hje
      have HST' : Hid (qEnd e (B.drop j) = 0) := qEnd_end (by rw [HL.out]; exact Nat.le_refl _) e
      clear HT HWI HQS hnx
      go_wp2
      go_ret
      exact ⟨Rn.retI (by have := HJ.out; have := HST'.out; omega), by first | exact HNX.out | exact HNX.out.drew | exact drewN_below HNX.out _⟩
theorem sgF_none {l : List Int} (h : oneF l = none) : sgF l = (0, 0, 3) := by unfold sgF; rw [h]
theorem sgF_bad {l : List Int} {n : Int} {k : Nat} (h : oneF l = some (n, k)) (hn : n < 32 ∨ n = 127) : sgF l = (0, 0, 2) := by unfold sgF; rw [h]; exact if_pos hn
theorem sgF_any {l : List Int} {n : Int} {k : Nat} (h : oneF l = some (n, k)) (hn : ¬ (n < 32 ∨ n = 127)) (h92 : ¬ n = 92) : sgF l = (n, k, 0) := by unfold sgF; rw [h]; exact (if_neg hn).trans (if_pos h92)
theorem sgF_esc {l : List Int} {k : Nat} (h : oneF l = some (92, k)) : sgF l = if escB (l.tail.headD 0) then (l.tail.headD 0, 2, 0) else (0, 0, 2) := by unfold sgF; rw [h]; rfl
set_option maxHeartbeats 4000000 in
theorem readsign36 {w : World} {b L : Nat} {B : List Int} (hT : Txt w b B) (G : Glb w) (hL : B.length = L) (a m c : Nat) (hm : 0 < m) (ham : a + m ≤ L) :
    Calls Tryd.prog 36 #[.slice (some ⟨b, a, none⟩) m c] w fun e w' => e = .returned (.tuple #[.int .i64 (sgF ((B.drop a).take m)).1, .int .i64 ((sgF ((B.drop a).take m)).2.1 : Nat), .int .i64 (sgF ((B.drop a).take m)).2.2]) ∧ Below w.heap.size w w' := by
  have hlen := hT.len
  rw [hL] at hlen
  have HON := hide (one41 hT G hL a m c hm ham)
  have HB : Hid (Below w.heap.size w w) := Below.refl _ _
  have hc1 : 1 < m → w.cell? ⟨b, a + 1, none⟩ = some (.int .u8 (((B.drop a).take m).tail.headD 0)) := by
    intro h1
    rw [hT.cell (a + 1) (by omega)]
    congr 2
    rw [drop_cons (by omega), drop_cons (show a + 1 < B.length by omega)]
    obtain ⟨m', rfl⟩ : ∃ m', m = m' + 2 := ⟨m - 2, by omega⟩
    rfl
  have hc2 : ¬ 1 < m → ((B.drop a).take m).tail.headD 0 = 0 := by
    intro h1
    obtain rfl : m = 1 := by omega
    rw [drop_cons (by omega)]
    rfl
  generalize (B.drop a).take m = l at *
  clear hT G hL
  cases ho : oneF l with
  | none =>
    have hk0 : oneK l = 0 := by unfold oneK; rw [ho]
    rw [hk0] at HON
    rw [sgF_none ho]
    clear hc1 hc2 ho hk0
    generalize oneN l = ON at *
    go_enter Tryd.func36, Tryd.ntmps36
    go_wp2_with fail
    refine HON.out.mono ?_
    rintro e w1 ⟨rfl, hw1⟩
    have hw2 := hw1.symm
    subst hw2
    clear HON hw1
    go_wp2
    go_ret3
    exact ⟨rfl, HB.out⟩
  | some r =>
    obtain ⟨n, k⟩ := r
    have hk0 : oneK l = k := by unfold oneK; rw [ho]
    have hn0 : oneN l = n := by unfold oneN; rw [ho]
    rw [hk0, hn0] at HON
    have hk1 : ((k : Int) == 0) = false := beq_eq_false_iff_ne.2 (by have := oneF_len ho; omega)
    by_cases hbad : n < 32 ∨ n = 127
    · rw [sgF_bad ho hbad]
      clear hc1 hc2 ho hk0 hn0
      by_cases h32 : n < 32
      · clear hbad
        go_enter Tryd.func36, Tryd.ntmps36
        go_wp2_with fail
        refine HON.out.mono ?_
        rintro e w1 ⟨rfl, hw1⟩
        have hw2 := hw1.symm
        subst hw2
        clear HON hw1
        go_wp2
        go_ret3
        exact ⟨rfl, HB.out⟩
      · obtain rfl : n = 127 := by omega
        clear hbad h32
        go_enter Tryd.func36, Tryd.ntmps36
        go_wp2_with fail
        refine HON.out.mono ?_
        rintro e w1 ⟨rfl, hw1⟩
        have hw2 := hw1.symm
        subst hw2
        clear HON hw1
        go_wp2
        go_ret3
        exact ⟨rfl, HB.out⟩
    · have hb1 : ¬ n < 32 := fun h => hbad (Or.inl h)
      have hb2 : (n == 127) = false := beq_eq_false_iff_ne.2 (fun h => hbad (Or.inr h))
      by_cases h92 : n = 92
      · subst h92
        rw [sgF_esc ho]
        clear ho hk0 hn0 hbad hb1 hb2
        by_cases h1 : 1 < m
        · have hcc := hc1 h1
          clear hc1 hc2
          generalize l.tail.headD 0 = d at *
          have HES := hide (fun W => esc46 d W)
          cases hes : escB d with
          | true =>
            rw [hes] at HES
            have hd : d = 34 ∨ d = 92 := by simpa [escB] using hes
            clear hes
            rcases hd with rfl | rfl
            · go_enter Tryd.func36, Tryd.ntmps36
              go_wp2_with fail
              refine HON.out.mono ?_
              rintro e w1 ⟨rfl, hw1⟩
              have hw2 := hw1.symm
              subst hw2
              clear HON hw1
              go_wp2_with fail
              refine (HES.out _).mono ?_
              rintro e w1 ⟨rfl, hw1⟩
              have hw2 := hw1.symm
              subst hw2
              clear HES hw1
              go_wp2
              go_ret3
              exact ⟨rfl, HB.out⟩
            · go_enter Tryd.func36, Tryd.ntmps36
              go_wp2_with fail
              refine HON.out.mono ?_
              rintro e w1 ⟨rfl, hw1⟩
              have hw2 := hw1.symm
              subst hw2
              clear HON hw1
              go_wp2_with fail
              refine (HES.out _).mono ?_
              rintro e w1 ⟨rfl, hw1⟩
              have hw2 := hw1.symm
              subst hw2
              clear HES hw1
              go_wp2
              go_ret3
              exact ⟨rfl, HB.out⟩
          | false =>
            rw [hes] at HES
            clear hes
            go_enter Tryd.func36, Tryd.ntmps36
            go_wp2_with fail
            refine HON.out.mono ?_
            rintro e w1 ⟨rfl, hw1⟩
            have hw2 := hw1.symm
            subst hw2
            clear HON hw1
            go_wp2_with fail
            refine (HES.out _).mono ?_
            rintro e w1 ⟨rfl, hw1⟩
            have hw2 := hw1.symm
            subst hw2
            clear HES hw1
            go_wp2
            go_ret3
            exact ⟨rfl, HB.out⟩
        · rw [hc2 h1]
          clear hc1 hc2
          obtain rfl : m = 1 := by omega
          go_enter Tryd.func36, Tryd.ntmps36
          go_wp2_with fail
          refine HON.out.mono ?_
          rintro e w1 ⟨rfl, hw1⟩
          have hw2 := hw1.symm
          subst hw2
          clear HON hw1
          go_wp2
          go_ret3
          exact ⟨rfl, HB.out⟩
      · rw [sgF_any ho hbad h92]
        have h92' : (n != 92) = true := bne_iff_ne.2 h92
        clear hc1 hc2 ho hk0 hn0 hbad h92
        go_enter Tryd.func36, Tryd.ntmps36
        go_wp2_with fail
        refine HON.out.mono ?_
        rintro e w1 ⟨rfl, hw1⟩
        have hw2 := hw1.symm
        subst hw2
        clear HON hw1
        go_wp2
        go_ret3
        exact ⟨rfl, HB.out⟩
end Go.Proofs.YtljanfmmhglpiaaDoor
