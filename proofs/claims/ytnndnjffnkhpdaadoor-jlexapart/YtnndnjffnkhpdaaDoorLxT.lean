/-
  Words with a blank between them, each as it stands in the text, are the same words: as plain mathematics.
-/
import Derived.Test.YtnndnjffnkhpdaaDoorLxC
namespace Go.Proofs.YtnndnjffnkhpdaaDoor
open Rn
set_option linter.unusedVariables false
theorem lead_cut {p : Int → Bool} (l z : List Int) (hz : headN p z) : lead p (l.take (lead p l) ++ z) = lead p l := by
  induction l with
  | nil =>
    cases z with
    | nil => rfl
    | cons c t => simp only [lead, List.take_nil, List.nil_append]; rw [if_neg (by simpa [headN] using hz)]
  | cons c t ih =>
    simp only [lead]
    split
    · rename_i h
      simp only [List.take_succ_cons, List.cons_append, lead, h, if_true, ih]
    · rename_i h
      simp only [List.take_zero, List.nil_append]
      cases z with
      | nil => rfl
      | cons d s => simp only [lead]; rw [if_neg (by simpa [headN] using hz)]
theorem lead_part {p : Int → Bool} {l : List Int} {k : Nat} (z : List Int) (h : l.drop (lead p l) ≠ []) (hk : lead p l < k) : lead p (l.take k ++ z) = lead p l := by
  induction l generalizing k with
  | nil => simp at h
  | cons c t ih =>
    cases k with
    | zero => omega
    | succ k =>
      simp only [List.take_succ_cons, List.cons_append, lead] at h hk ⊢
      split
      · rename_i hc
        rw [if_pos hc] at h hk
        rw [ih (by simpa using h) (by omega)]
      · rfl
theorem take_take_app {l z : List Int} {k j : Nat} (h : j ≤ k) (hk : k ≤ l.length) : (l.take k ++ z).take j = l.take j := by
  rw [List.take_append_of_le_length (by rw [List.length_take]; omega), List.take_take]
  congr 1
  omega
theorem drop_take_app {l z : List Int} {k j : Nat} (h : j ≤ k) (hk : k ≤ l.length) : (l.take k ++ z).drop j = (l.drop j).take (k - j) ++ z := by
  rw [List.drop_append_of_le_length (by rw [List.length_take]; omega), List.drop_take]
/-- One number and what stands behind it. -/
theorem num_own {l z : List Int} {k : Nat} (hn : numB l = true) (hk : numE l ≤ k) (hkl : k ≤ l.length) (hz : headN dgB ((l.drop (numE l)).take (k - numE l) ++ z)) :
    numB (l.take k ++ z) = true ∧ numV (l.take k ++ z) = numV l ∧ numE (l.take k ++ z) = numE l := by
  have hp := numE_pos hn
  have h1 : hasP (l.take k ++ z) minL = hasP l minL := by
    cases l with
    | nil => have h1 := hp.1; have h2 : numE [] ≤ 0 := hp.2; omega
    | cons c t =>
      cases k with
      | zero => omega
      | succ k => simp [hasP, minL, List.isPrefixOf]
  have h2 : offM (l.take k ++ z) = offM l := by unfold offM; rw [h1]
  have h3 : (l.take k ++ z).drop (offM l) = (l.drop (offM l)).take (lead dgB (l.drop (offM l))) ++ ((l.drop (numE l)).take (k - numE l) ++ z) := by
    rw [drop_take_app (by omega) hkl, ← List.append_assoc]
    congr 1
    have e : numE l = offM l + lead dgB (l.drop (offM l)) := rfl
    have e2 : k - offM l = lead dgB (l.drop (offM l)) + (k - numE l) := by omega
    rw [e2, List.take_add, List.drop_drop, ← e]
  have h4 : lead dgB ((l.take k ++ z).drop (offM (l.take k ++ z))) = lead dgB (l.drop (offM l)) := by
    rw [h2, h3]
    exact lead_cut _ _ hz
  have h5 : digL (l.take k ++ z) = digL l := by
    unfold digL
    rw [h4, h2, h3]
    rw [List.take_append_of_le_length (by rw [List.length_take]; have := lead_le dgB (l.drop (offM l)); omega), List.take_take, Nat.min_self]
  refine ⟨?_, by unfold numV; rw [h5, h1], by unfold numE; rw [h4, h2]⟩
  obtain ⟨c, t, hd, hc⟩ := numB_at hn
  unfold numB
  rw [h2, h3, hd]
  simp [lead, hc]
/-- Numbers that stand together and a blank behind them. -/
theorem str_own {y : List Int} (hy : numB (y.drop (lead blB y)) = false) (f : Nat) : ∀ f' l, numB l = true → (strF f l).2.2 = none → l.length < f → ((l.take (strF f l).2.1) ++ 32 :: y).length < f' →
    strF f' (l.take (strF f l).2.1 ++ 32 :: y) = strF f l ∧ numB (l.take (strF f l).2.1 ++ 32 :: y) = true := by
  induction f with
  | zero => intro f' l _ _ h; omega
  | succ f ih =>
    intro f' l hn he hf hf'
    obtain ⟨f', rfl⟩ : ∃ g, f' = g + 1 := ⟨f' - 1, by omega⟩
    have hp := numE_pos hn
    by_cases h1 : fits (numV l) = false
    · have hX : strF (f + 1) l = ([], 0, some 0) := by rw [strF, if_pos h1]
      rw [hX] at he; cases he
    · by_cases h2 : lead blB (l.drop (numE l)) = 0 ∨ numB (l.drop (numE l + lead blB (l.drop (numE l)))) = false
      · have hX : strF (f + 1) l = ([numV l], numE l, none) := by rw [strF, if_neg h1, if_pos h2]
        rw [hX] at hf' ⊢
        obtain ⟨v1, v2, v3⟩ := num_own (z := 32 :: y) hn (Nat.le_refl _) hp.2 (by simp [headN, dgB])
        refine ⟨?_, v1⟩
        show strF (f' + 1) (l.take (numE l) ++ 32 :: y) = _
        rw [strF, v2, v3, if_neg h1]
        have e1 : (l.take (numE l) ++ 32 :: y).drop (numE l) = 32 :: y := by
          rw [drop_take_app (Nat.le_refl _) hp.2]; simp
        have e2 : lead blB (32 :: y) = lead blB y + 1 := rfl
        have e3 : (l.take (numE l) ++ 32 :: y).drop (numE l + (lead blB y + 1)) = y.drop (lead blB y) := by
          rw [← List.drop_drop, e1]; rfl
        rw [e1, e2, e3, if_pos (Or.inr hy)]
      · have hX := (show strF (f + 1) l = _ by rw [strF, if_neg h1, if_neg h2])
        rw [hX] at he hf' ⊢
        have hn2 : numB (l.drop (numE l + lead blB (l.drop (numE l)))) = true := by
          cases hh : numB (l.drop (numE l + lead blB (l.drop (numE l)))) with
          | true => rfl
          | false => exact absurd (Or.inr hh) h2
        have hb0 : ¬ lead blB (l.drop (numE l)) = 0 := fun h => h2 (Or.inl h)
        generalize hb : lead blB (l.drop (numE l)) = b at *
        have hbl := lead_le blB (l.drop (numE l))
        rw [hb, List.length_drop] at hbl
        simp only [Option.map_eq_none_iff] at he
        have hst : 1 ≤ (strF f (l.drop (numE l + b))).2.1 ∧ (strF f (l.drop (numE l + b))).2.1 ≤ (l.drop (numE l + b)).length := by
          cases f with
          | zero => omega
          | succ g =>
            obtain ⟨i1, i2, i3⟩ := strF_end g _ hn2
            exact ⟨i2 he, i1⟩
        have hlen : (l.drop (numE l + b)).length = l.length - (numE l + b) := List.length_drop
        simp only at hf' ⊢
        obtain ⟨j1, j2⟩ := ih f' (l.drop (numE l + b)) hn2 he (by omega) (by
          simp only [List.length_append, List.length_take, List.length_cons] at hf' ⊢; omega)
        generalize hE : (strF f (l.drop (numE l + b))).2.1 = e' at *
        have hne : (l.drop (numE l)).drop (lead blB (l.drop (numE l))) ≠ [] := by
          rw [hb, List.drop_drop]
          intro h
          rw [h] at hst
          simp at hst
          omega
        have e0 : (l.drop (numE l)).take (numE l + b + e' - numE l) = (l.drop (numE l)).take (b + e') := by congr 1; omega
        have hd32 : headN dgB ((l.drop (numE l)).take (numE l + b + e' - numE l) ++ 32 :: y) := by
          rw [e0]
          cases hM : l.drop (numE l) with
          | nil => rw [hM] at hne; simp at hne
          | cons c t =>
            rw [hM] at hb
            simp only [lead] at hb
            split at hb
            · rename_i hc
              have : c = 32 := by simpa [blB] using hc
              subst this
              rw [show b + e' = (b + e' - 1) + 1 by omega]
              simp [headN, dgB]
            · omega
        obtain ⟨v1, v2, v3⟩ := num_own (z := 32 :: y) (k := numE l + b + e') hn (by omega) (by omega) hd32
        refine ⟨?_, v1⟩
        rw [strF, v2, v3, if_neg h1]
        have e1 : (l.take (numE l + b + e') ++ 32 :: y).drop (numE l) = (l.drop (numE l)).take (b + e') ++ 32 :: y := by
          rw [drop_take_app (by omega) (by omega), e0]
        have e2 : lead blB ((l.drop (numE l)).take (b + e') ++ 32 :: y) = b := by
          rw [lead_part _ hne (by omega), hb]
        have e3 : (l.take (numE l + b + e') ++ 32 :: y).drop (numE l + b) = (l.drop (numE l + b)).take e' ++ 32 :: y := by
          rw [drop_take_app (by omega) (by omega)]
          congr 2
          omega
        rw [e1, e2, e3, j1, j2, if_neg (by simp; omega), hE]
theorem last_own (y : List Int) : ∀ (t : List Int) (q : Nat), lastQ t = some q → lastQ (t.take (q + 1) ++ 32 :: y) = some q
  | [], q, h => by simp [lastQ] at h
  | [c], q, h => by
    simp only [lastQ] at h
    split at h
    · rename_i hc; subst hc
      simp only [Option.some.injEq] at h
      subst h
      simp [lastQ]
    · cases h
  | c :: d :: t, q, h => by
    simp only [lastQ] at h
    by_cases hc : c = 39
    · subst hc
      rw [if_neg (by simp)] at h
      by_cases hd : d = 39
      · subst hd
        rw [if_neg (by simp)] at h
        simp only [Option.map_eq_some_iff] at h
        obtain ⟨i, hi, rfl⟩ := h
        have := last_own y t i hi
        simp only [List.take_succ_cons, List.cons_append, lastQ, not_true, if_false, this, Option.map_some]
      · rw [if_pos hd] at h
        simp only [Option.some.injEq] at h
        subst h
        simp [lastQ]
    · rw [if_pos hc] at h
      simp only [Option.map_eq_some_iff] at h
      obtain ⟨i, hi, rfl⟩ := h
      have := last_own y (d :: t) i hi
      simp only [List.take_succ_cons, List.cons_append] at this ⊢
      simp only [lastQ, hc, not_false_iff, if_true, this, Option.map_some]
theorem let_own {m : List Int} (y : List Int) (hm : m ≠ []) : letE (m.take (letE m) ++ 32 :: y) = letE m := by
  obtain ⟨k1, k2, k3⟩ := letE_le hm
  match m, hm with
  | c :: t, _ =>
    have hk0 : namK (c :: t) = lead nmB t + 1 := rfl
    have hz : headN nmB ((t.drop (lead nmB t)).take (letE (c :: t) - 1 - lead nmB t) ++ 32 :: y) := by
      cases hd : t.drop (lead nmB t) with
      | nil => simp [headN, nmB, ltB, dgB]
      | cons d s =>
        have hs := lead_stop nmB t d s hd
        cases hj : letE (c :: t) - 1 - lead nmB t with
        | zero => simp [headN, nmB, ltB, dgB]
        | succ j => simpa [headN] using hs
    have hkl := lead_le nmB t
    have e1 : ((c :: t).take (letE (c :: t)) ++ 32 :: y).tail = t.take (lead nmB t) ++ ((t.drop (lead nmB t)).take (letE (c :: t) - 1 - lead nmB t) ++ 32 :: y) := by
      obtain ⟨j, hj⟩ : ∃ j, letE (c :: t) = j + 1 := ⟨letE (c :: t) - 1, by omega⟩
      rw [hj, List.take_succ_cons, List.cons_append, List.tail_cons, ← List.append_assoc]
      congr 1
      rw [show j + 1 - 1 - lead nmB t = j - lead nmB t by omega]
      conv => lhs; rw [show j = lead nmB t + (j - lead nmB t) by omega, List.take_add]
    have hk : namK ((c :: t).take (letE (c :: t)) ++ 32 :: y) = namK (c :: t) := by
      unfold namK
      rw [e1, lead_cut _ _ hz]
      rfl
    have e2 : ((c :: t).take (letE (c :: t)) ++ 32 :: y).drop (namK (c :: t)) = ((c :: t).drop (namK (c :: t))).take (letE (c :: t) - namK (c :: t)) ++ 32 :: y := drop_take_app k1 k2
    have hE : letE (c :: t) = match (c :: t).drop (namK (c :: t)) with | [] => namK (c :: t) | d :: _ => if infB d then namK (c :: t) + 1 else namK (c :: t) := rfl
    have hL : ∀ l : List Int, letE l = match l.drop (namK l) with | [] => namK l | d :: _ => if infB d then namK l + 1 else namK l := fun _ => rfl
    rw [hL (_ ++ _), hk, e2]
    cases hd : (c :: t).drop (namK (c :: t)) with
    | nil =>
      rw [hd] at hE
      simp only at hE
      rw [hE]
      simp [infB]
    | cons d s =>
      rw [hd] at hE
      simp only at hE
      cases hi : infB d with
      | true =>
        rw [hi, if_pos rfl] at hE
        rw [hE, show namK (c :: t) + 1 - namK (c :: t) = 1 by omega]
        simp [hi]
      | false =>
        rw [hi, if_neg (by simp)] at hE
        rw [hE, Nat.sub_self]
        simp [infB]
theorem two_own {c d : Int} {t : List Int} (y : List Int) (h : ¬ two c d t = 0) : two c d (32 :: y) = two c d t := by
  unfold two at h ⊢
  have h32 : dgB ((32 :: y).headD 0) = false := rfl
  rw [h32]
  split
  · rfl
  · rename_i h1
    rw [if_neg h1] at h
    split
    · rfl
    · rename_i h2
      rw [if_neg h2] at h
      split
      · rfl
      · rename_i h3
        rw [if_neg h3] at h
        split
        · rfl
        · rename_i h4
          rw [if_neg h4] at h
          split at h
          · rename_i h5
            rw [if_pos h5, if_pos ⟨h5.1, h5.2.1, rfl⟩]
          · exact absurd rfl h
theorem numB_cons (c : Int) (r : List Int) (hc : ¬ c = 95) : numB (c :: r) = dgB c := by
  have : hasP (c :: r) minL = false := by
    simp only [hasP, minL, List.isPrefixOf, Bool.and_true]
    exact beq_eq_false_iff_ne.2 (fun h => hc h.symm)
  unfold numB offM
  rw [this]
  rfl
/-- What begins no word. -/
theorem read_no (c : Int) (t : List Int) (hc : c = 95 ∨ c = 78) (hn : numB (c :: t) = false) : ¬ (readW (c :: t)).err = 0 := by
  have h1 : ¬ c = 39 := by omega
  have h2 : ltB c = false := by unfold ltB; simp; omega
  have k1 : kind1 c = 0 := by unfold kind1 oneL; rw [if_neg (by omega), if_neg (by omega), if_neg (by simp; omega)]
  have k2 : kind2 (c :: t) = 0 := by
    cases t with
    | nil => rfl
    | cons d s =>
      show two c d s = 0
      unfold two pairL
      rw [if_neg (by omega), if_neg (by omega), if_neg (by omega), if_neg (by simp; omega), if_neg (by omega)]
  have hs : (sameF (c :: t)).1 = 0 := by
    unfold sameF
    rw [k2, List.headD_cons, k1]
    simp
  unfold readW
  rw [hn, List.headD_cons, if_neg (by simp), if_neg h1, h2, if_neg (by simp)]
  unfold readS
  rw [if_pos hs]
  simp only
  split <;> simp
/-- A word's own bytes and a blank behind them are read as that word. -/
theorem own_word {m : List Int} (y : List Int) (hm : m ≠ []) (h : (readW m).err = 0) (hy : numB m = true → numB (y.drop (lead blB y)) = false) : readW (m.take (readW m).stop ++ 32 :: y) = readW m := by
  match m, hm with
  | c :: t, hm =>
  cases hn : numB (c :: t) with
  | true =>
    have hr : readW (c :: t) = readN (c :: t) := by unfold readW; rw [hn]; rfl
    rw [hr] at h ⊢
    have hst : (strF ((c :: t).length + 1) (c :: t)).2.2 = none := by
      cases hq : (strF ((c :: t).length + 1) (c :: t)).2.2 with
      | none => rfl
      | some j => unfold readN at h; rw [hq] at h; cases h
    have hN : readN (c :: t) = ⟨1, [], litN (strF ((c :: t).length + 1) (c :: t)).1, (strF ((c :: t).length + 1) (c :: t)).2.1, 0, 0⟩ := by
      unfold readN
      rw [hst]
    obtain ⟨o1, o2⟩ := str_own (hy hn) ((c :: t).length + 1) (((c :: t).take (strF ((c :: t).length + 1) (c :: t)).2.1 ++ 32 :: y).length + 1) (c :: t) hn hst (Nat.lt_succ_self _) (Nat.lt_succ_self _)
    rw [hN]
    unfold readW
    rw [if_pos o2]
    unfold readN
    rw [o1, hst]
  | false =>
    have h95 : ¬ c = 95 := fun e => read_no c t (Or.inl e) hn h
    have hend := (readW_end hm).1 h
    obtain ⟨j, hj⟩ : ∃ j, (readW (c :: t)).stop = j + 1 := ⟨(readW (c :: t)).stop - 1, by omega⟩
    have hn' : numB ((c :: t).take (readW (c :: t)).stop ++ 32 :: y) = false := by
      rw [hj, List.take_succ_cons, List.cons_append, numB_cons _ _ h95, ← numB_cons c t h95]
      exact hn
    have hh : ((c :: t).take (readW (c :: t)).stop ++ 32 :: y).headD 0 = c := by rw [hj]; rfl
    have hW : ∀ l : List Int, readW l = if numB l then readN l else if l.headD 0 = 39 then readT l else if ltB (l.headD 0) then readM l else readS l := fun _ => rfl
    rw [hW (_ ++ _), hn', hh, if_neg (by simp)]
    by_cases h39 : c = 39
    · have hr : readW (c :: t) = readT (c :: t) := by unfold readW; rw [hn, if_neg (by simp), if_pos (by simpa using h39)]
      rw [if_pos h39]
      rw [hr] at h ⊢
      unfold readT at h
      cases hq : lastQ (c :: t).tail with
      | none => rw [hq] at h; cases h
      | some q =>
        rw [hq] at h
        simp only at h
        by_cases hs : (signF (q + 1) ((c :: t).tail.take q)).2.1 = 0
        · have hT : readT (c :: t) = ⟨2, [], textA (signF (q + 1) ((c :: t).tail.take q)).1, q + 2, 0, 0⟩ := by
            unfold readT
            rw [hq]
            simp only
            rw [if_pos hs]
          rw [hT]
          show readT ((c :: t).take (q + 1 + 1) ++ 32 :: y) = _
          have hlt := lastQ_lt _ _ hq
          have e1 : ((c :: t).take (q + 1 + 1) ++ 32 :: y).tail = t.take (q + 1) ++ 32 :: y := rfl
          have e2 : (t.take (q + 1) ++ 32 :: y).take q = t.take q := take_take_app (by omega) hlt
          unfold readT
          rw [e1, last_own y t q hq]
          simp only
          rw [e2]
          exact if_pos hs
        · rw [if_neg hs] at h
          exact absurd h hs
    · rw [if_neg h39]
      by_cases hl : ltB c = true
      · have hr : readW (c :: t) = readM (c :: t) := by unfold readW; rw [hn, if_neg (by simp), if_neg (by simpa using h39), if_pos (by simpa using hl)]
        rw [if_pos hl]
        rw [hr] at h ⊢
        by_cases hk : kindL ((c :: t).take (letE (c :: t))) = 0
        · unfold readM at h; rw [if_pos hk] at h; cases h
        · have hM : readM (c :: t) = ⟨kindL ((c :: t).take (letE (c :: t))), (c :: t).take (letE (c :: t)), nilA, letE (c :: t), 0, 0⟩ := by unfold readM; rw [if_neg hk]
          rw [hM]
          show readM ((c :: t).take (letE (c :: t)) ++ 32 :: y) = _
          have e1 := let_own (m := c :: t) y (by simp)
          have e2 : ((c :: t).take (letE (c :: t)) ++ 32 :: y).take (letE (c :: t)) = (c :: t).take (letE (c :: t)) := take_take_app (Nat.le_refl _) (letE_le hm).2.1
          unfold readM
          rw [e1, e2, if_neg hk]
      · have hr : readW (c :: t) = readS (c :: t) := by unfold readW; rw [hn, if_neg (by simp), if_neg (by simpa using h39), if_neg (by simpa using hl)]
        rw [if_neg hl]
        rw [hr] at h ⊢
        by_cases hk : (sameF (c :: t)).1 = 0
        · unfold readS at h; rw [if_pos hk] at h
          simp only at h
          split at h <;> cases h
        · have hS : readS (c :: t) = ⟨(sameF (c :: t)).1, (c :: t).take (sameF (c :: t)).2, nilA, (sameF (c :: t)).2, 0, 0⟩ := by unfold readS; rw [if_neg hk]
          rw [hS]
          show readS ((c :: t).take (sameF (c :: t)).2 ++ 32 :: y) = _
          have hsz : (sameF (c :: t)).2 ≤ (c :: t).length := by
            have := hend.2.1
            rw [hr, hS] at this
            exact this
          have e2 : ((c :: t).take (sameF (c :: t)).2 ++ 32 :: y).take (sameF (c :: t)).2 = (c :: t).take (sameF (c :: t)).2 := take_take_app (Nat.le_refl _) hsz
          have e1 : sameF ((c :: t).take (sameF (c :: t)).2 ++ 32 :: y) = sameF (c :: t) := by
            by_cases h2 : kind2 (c :: t) = 0
            · have hk1 : ¬ kind1 c = 0 := by
                intro h1
                refine hk ?_
                unfold sameF
                rw [h2, List.headD_cons, h1]
                simp
              have hF : sameF (c :: t) = (kind1 c, 1) := by
                unfold sameF
                rw [if_neg (by simp [h2]), List.headD_cons, if_pos hk1]
              rw [hF]
              show sameF (c :: 32 :: y) = _
              unfold sameF
              have : kind2 (c :: 32 :: y) = 0 := two_no c 32 y (Or.inl rfl)
              rw [if_neg (by simp [this]), List.headD_cons, if_pos hk1]
            · have hF : sameF (c :: t) = (kind2 (c :: t), 2) := by
                unfold sameF
                rw [if_pos h2]
              match t, h2, hF with
              | [], h2, _ => exact absurd rfl h2
              | d :: s, h2, hF =>
                rw [hF]
                show sameF (c :: d :: 32 :: y) = _
                have hk' : kind2 (c :: d :: 32 :: y) = kind2 (c :: d :: s) := two_own y h2
                unfold sameF
                rw [hk', if_pos h2]
          unfold readS
          rw [e1, e2, if_neg hk]
end Go.Proofs.YtnndnjffnkhpdaaDoor
