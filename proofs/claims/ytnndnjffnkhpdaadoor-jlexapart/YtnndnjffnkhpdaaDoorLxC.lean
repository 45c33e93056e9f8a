/-
  What stands behind a text plays no part in how its words are read, if it is blanks alone or begins with the sign of a remark; blanks ahead turn the places alone.
-/
import Derived.Test.YtnndnjffnkhpdaaDoorLxB
namespace Go.Proofs.YtnndnjffnkhpdaaDoor
open Rn
set_option linter.unusedVariables false
/-- Blanks alone, or a remark. -/
def Beh (x : List Int) : Prop := (∃ k, x = List.replicate k 32) ∨ ∃ y, x = remL ++ y
theorem Beh.head {x : List Int} (h : Beh x) : x = [] ∨ (∃ t, x = 32 :: t) ∨ ∃ t, x = 78 :: t := by
  rcases h with ⟨k, rfl⟩ | ⟨y, rfl⟩
  · cases k with
    | zero => exact Or.inl rfl
    | succ k => exact Or.inr (Or.inl ⟨_, rfl⟩)
  · exact Or.inr (Or.inr ⟨_, rfl⟩)
theorem Beh.no {x : List Int} (h : Beh x) (p : Int → Bool) (h1 : p 32 = false) (h2 : p 78 = false) : headN p x := by
  rcases h.head with rfl | ⟨t, rfl⟩ | ⟨t, rfl⟩
  · trivial
  · exact h1
  · exact h2
/-- Behind its blanks nothing begins that is no remark. -/
theorem Beh.rest {x : List Int} (h : Beh x) : x.drop (lead blB x) = [] ∨ hasP (x.drop (lead blB x)) remL = true := by
  rcases h with ⟨k, rfl⟩ | ⟨y, rfl⟩
  · left
    have : lead blB (List.replicate k 32) = k := by
      induction k with
      | zero => rfl
      | succ k ih => rw [List.replicate_succ]; simp only [lead]; rw [ih]; rfl
    rw [this]
    simp
  · right
    have : lead blB (remL ++ y) = 0 := rfl
    rw [this]
    exact hasP_iff.2 ⟨y, rfl⟩
theorem drop_app {l x : List Int} {k : Nat} (h : k ≤ l.length) : (l ++ x).drop k = l.drop k ++ x := by
  rw [List.drop_append_of_le_length h]
theorem take_app {l x : List Int} {k : Nat} (h : k ≤ l.length) : (l ++ x).take k = l.take k := by
  rw [List.take_append_of_le_length h]
theorem lead_all {p : Int → Bool} {l x : List Int} (h : l.drop (lead p l) = []) : lead p (l ++ x) = l.length + lead p x ∧ lead p l = l.length := by
  induction l with
  | nil => simp [lead]
  | cons c t ih =>
    by_cases hc : p c = true
    · simp only [lead, hc, if_true] at h ⊢
      have := ih (by simpa using h)
      simp only [List.cons_append, lead, hc, if_true, List.length_cons]
      omega
    · simp only [lead, hc] at h
      simp at h
theorem lead_in {p : Int → Bool} {l x : List Int} (h : l.drop (lead p l) ≠ []) : lead p (l ++ x) = lead p l := by
  induction l with
  | nil => simp at h
  | cons c t ih =>
    simp only [List.cons_append, lead]
    by_cases hc : p c = true
    · simp only [lead, hc, if_true] at h ⊢
      rw [ih (by simpa using h)]
    · simp [hc]
/-- A word that only what is behind makes whole: the text is its beginning. -/
theorem hasP_part {l x w : List Int} (h1 : hasP (l ++ x) w = true) (h2 : hasP l w = false) : ∃ j, j < w.length ∧ l = w.take j ∧ ∃ r, l ++ x = w ++ r := by
  obtain ⟨r, hr⟩ := hasP_iff.1 h1
  have hlt : l.length < w.length := by
    refine Decidable.byContradiction fun hn => ?_
    have h3 := congrArg (List.take w.length) hr
    rw [take_app (by omega), List.take_left] at h3
    have : hasP l w = true := hasP_iff.2 ⟨l.drop w.length, by
      have h4 := (List.take_append_drop w.length l).symm
      rwa [h3] at h4⟩
    rw [this] at h2
    cases h2
  refine ⟨l.length, hlt, ?_, r, hr⟩
  have h3 := congrArg (List.take l.length) hr
  rw [List.take_left, List.take_append_of_le_length (by omega)] at h3
  exact h3
theorem hasP_more {l x w : List Int} (h : hasP l w = true) : hasP (l ++ x) w = true := by
  obtain ⟨r, rfl⟩ := hasP_iff.1 h
  exact hasP_iff.2 ⟨r ++ x, by simp⟩
theorem min_more {l x : List Int} (hl : l ≠ []) : hasP (l ++ x) minL = hasP l minL := by
  cases l with
  | nil => exact absurd rfl hl
  | cons c t => simp [hasP, minL, List.isPrefixOf]
theorem off_le (l : List Int) : offM l ≤ l.length := by
  unfold offM
  split
  · rename_i h; exact hasP_len h
  · omega
theorem num_more {l x : List Int} (hx : Beh x) (hl : l ≠ []) : offM (l ++ x) = offM l ∧ numB (l ++ x) = numB l := by
  have h1 : offM (l ++ x) = offM l := by unfold offM; rw [min_more hl]
  refine ⟨h1, ?_⟩
  unfold numB
  rw [h1, drop_app (off_le l)]
  cases h : l.drop (offM l) with
  | cons c t => rfl
  | nil =>
    rcases hx.head with rfl | ⟨t, rfl⟩ | ⟨t, rfl⟩ <;> rfl
theorem lead_rep (k : Nat) : lead blB (List.replicate k 32) = k := by
  induction k with
  | zero => rfl
  | succ k ih => rw [List.replicate_succ]; simp only [lead]; rw [ih]; rfl
theorem num_none {x : List Int} (hx : Beh x) : numB (x.drop (lead blB x)) = false := by
  rcases hx with ⟨k, rfl⟩ | ⟨y, rfl⟩
  · rw [lead_rep]
    simp
    rfl
  · have : lead blB (remL ++ y) = 0 := rfl
    rw [this]
    rfl
theorem val_more {l x : List Int} (hx : Beh x) (hl : l ≠ []) : numV (l ++ x) = numV l ∧ numE (l ++ x) = numE l := by
  obtain ⟨h1, -⟩ := num_more hx hl
  have h2 : lead dgB ((l ++ x).drop (offM (l ++ x))) = lead dgB (l.drop (offM l)) := by
    rw [h1, drop_app (off_le l)]
    exact lead_more _ _ _ (hx.no _ rfl rfl)
  have h3 : digL (l ++ x) = digL l := by
    unfold digL
    rw [h2, h1, drop_app (off_le l), take_app (lead_le _ _)]
  unfold numV numE
  rw [h3, min_more hl, h2, h1]
  exact ⟨rfl, rfl⟩
theorem str_more {x : List Int} (hx : Beh x) (f : Nat) : ∀ f' l, l ≠ [] → numB l = true → l.length < f → l.length < f' → strF f' (l ++ x) = strF f l := by
  induction f with
  | zero => intro f' l _ _ h; omega
  | succ f ih =>
    intro f' l hl hn hf hf'
    obtain ⟨f', rfl⟩ : ∃ g, f' = g + 1 := ⟨f' - 1, by omega⟩
    obtain ⟨v1, v2⟩ := val_more hx hl
    have hk := numE_pos hn
    rw [strF, strF, v1, v2, drop_app hk.2]
    split
    · rfl
    · generalize hM : l.drop (numE l) = M
      have hML : M.length = l.length - numE l := by rw [← hM, List.length_drop]
      have hd : ∀ b, (l ++ x).drop (numE l + b) = (M ++ x).drop b := fun b => by rw [← List.drop_drop, drop_app hk.2, hM]
      have hd' : ∀ b, l.drop (numE l + b) = M.drop b := fun b => by rw [← List.drop_drop, hM]
      simp only [hd, hd']
      by_cases hr : M.drop (lead blB M) = []
      · obtain ⟨a1, a2⟩ := lead_all (x := x) hr
        have e1 : (M ++ x).drop (lead blB (M ++ x)) = x.drop (lead blB x) := by
          rw [a1, ← List.drop_drop]
          simp
        rw [e1, hr, num_none hx]
        rw [if_pos (Or.inr rfl), if_pos (Or.inr (show numB [] = false from rfl))]
      · have a1 := lead_in (x := x) hr
        rw [a1, drop_app (lead_le _ _)]
        obtain ⟨-, a2⟩ := num_more hx hr
        rw [a2]
        split
        · rfl
        · rename_i h2
          have hn2 : numB (M.drop (lead blB M)) = true := by
            cases hh : numB (M.drop (lead blB M)) with
            | true => rfl
            | false => exact absurd (Or.inr hh) h2
          have hlen : (M.drop (lead blB M)).length < l.length := by rw [List.length_drop]; omega
          rw [ih f' _ hr hn2 (by omega) (by omega)]
theorem last_more {x : List Int} (hx : Beh x) : ∀ (t : List Int) (q : Nat), lastQ t = some q → lastQ (t ++ x) = some q
  | [], q, h => by simp [lastQ] at h
  | [c], q, h => by
    rcases hx.head with rfl | ⟨y, rfl⟩ | ⟨y, rfl⟩
    · exact h
    · simp only [lastQ] at h
      split at h
      · rename_i hc; subst hc; simpa [lastQ] using h
      · cases h
    · simp only [lastQ] at h
      split at h
      · rename_i hc; subst hc; simpa [lastQ] using h
      · cases h
  | c :: d :: t, q, h => by
    simp only [lastQ] at h
    simp only [List.cons_append, lastQ]
    split
    · rename_i hc
      rw [if_pos hc] at h
      simp only [Option.map_eq_some_iff] at h ⊢
      obtain ⟨i, hi, rfl⟩ := h
      exact ⟨i, last_more hx (d :: t) i hi, rfl⟩
    · rename_i hc
      rw [if_neg hc] at h
      split
      · rename_i hd
        rw [if_pos hd] at h
        exact h
      · rename_i hd
        rw [if_neg hd] at h
        simp only [Option.map_eq_some_iff] at h ⊢
        obtain ⟨i, hi, rfl⟩ := h
        exact ⟨i, last_more hx t i hi, rfl⟩
theorem one_more {l x : List Int} {r : Int × Nat} (h : oneF l = some r) : oneF (l ++ x) = some r := by
  cases l with
  | nil => cases h
  | cons c t =>
    simp only [oneF, List.cons_append] at h ⊢
    split at h
    · cases h
    · rename_i h1
      rw [if_neg h1]
      split at h
      · cases h
      · rename_i h2
        rw [if_neg (by rw [List.length_append]; omega), take_app (by omega)]
        exact h
/-- No word of two bytes has a blank or the first sign of a remark behind its first one. -/
theorem two_no (c d : Int) (t : List Int) (h : d = 32 ∨ d = 78) : two c d t = 0 := by
  unfold two pairL
  rcases h with rfl | rfl <;> simp
theorem two_dg (c d : Int) (t t' : List Int) (h : dgB (t.headD 0) = dgB (t'.headD 0)) : two c d t = two c d t' := by
  unfold two
  rw [h]
theorem same_more {l x : List Int} (hx : Beh x) (hl : l ≠ []) (h : ¬ (sameF l).1 = 0) : sameF (l ++ x) = sameF l := by
  have hh : (l ++ x).headD 0 = l.headD 0 := by
    cases l with
    | nil => exact absurd rfl hl
    | cons c t => rfl
  have h2 : kind2 (l ++ x) = kind2 l := by
    match l, hl with
    | [c], _ =>
      rcases hx.head with rfl | ⟨t, rfl⟩ | ⟨t, rfl⟩
      · rfl
      · exact two_no c 32 t (Or.inl rfl)
      · exact two_no c 78 t (Or.inr rfl)
    | [c, d], _ =>
      rcases hx.head with rfl | ⟨t, rfl⟩ | ⟨t, rfl⟩
      · rfl
      · exact two_dg c d _ _ rfl
      · exact two_dg c d _ _ rfl
    | c :: d :: e :: t, _ => exact two_dg c d _ _ rfl
  unfold sameF
  rw [h2, hh]
theorem let_more {l x : List Int} (hx : Beh x) (hl : l ≠ []) : letE (l ++ x) = letE l := by
  have ht : (l ++ x).tail = l.tail ++ x := by
    cases l with
    | nil => exact absurd rfl hl
    | cons c t => rfl
  have hk : namK (l ++ x) = namK l := by
    unfold namK
    rw [ht, lead_more _ _ _ (hx.no _ rfl rfl)]
  unfold letE
  rw [hk, drop_app (letE_le hl).2.2]
  cases h : l.drop (namK l) with
  | cons c t => rfl
  | nil => rcases hx.head with rfl | ⟨t, rfl⟩ | ⟨t, rfl⟩ <;> rfl
theorem read_more {l x : List Int} (hx : Beh x) (hl : l ≠ []) (h : (readW l).err = 0) : readW (l ++ x) = readW l := by
  have hl' : 0 < l.length := List.length_pos_iff.2 hl
  have hh : (l ++ x).headD 0 = l.headD 0 := by
    cases l with
    | nil => exact absurd rfl hl
    | cons c t => rfl
  have ht : (l ++ x).tail = l.tail ++ x := by
    cases l with
    | nil => exact absurd rfl hl
    | cons c t => rfl
  unfold readW at h ⊢
  rw [(num_more hx hl).2, hh]
  split
  · rename_i hn
    unfold readN
    rw [str_more hx (l.length + 1) ((l ++ x).length + 1) l hl hn (by omega) (by simp; omega)]
  · rename_i hn
    rw [if_neg hn] at h
    split
    · rename_i h39
      rw [if_pos h39] at h
      unfold readT at h ⊢
      rw [ht]
      cases hq : lastQ l.tail with
      | none => rw [hq] at h; cases h
      | some q =>
        rw [last_more hx _ _ hq]
        have := lastQ_lt _ _ hq
        simp only
        rw [take_app (by omega)]
    · rename_i h39
      rw [if_neg h39] at h
      split
      · unfold readM
        rw [let_more hx hl, take_app (letE_le hl).2.1]
      · rename_i hlt
        rw [if_neg hlt] at h
        unfold readS at h ⊢
        by_cases hs : (sameF l).1 = 0
        · rw [if_pos hs] at h
          simp only at h
          split at h <;> cases h
        · rw [same_more hx hl hs, if_neg hs]
          have hz : (sameF l).2 ≤ l.length := by
            have := (readW_end hl).1
            unfold readW at this
            rw [if_neg hn, if_neg h39, if_neg hlt] at this
            unfold readS at this
            rw [if_neg hs] at this
            exact (this rfl).2.1
          rw [take_app hz, if_neg hs]
theorem rem_part (j : Nat) (hj : j < 3) (h0 : remL.take j ≠ []) : ¬ (readW (remL.take j)).err = 0 := by
  rcases (by omega : j = 0 ∨ j = 1 ∨ j = 2) with rfl | rfl | rfl
  · exact absurd rfl h0
  · decide +kernel
  · decide +kernel
theorem lex_more {x : List Int} (hx : Beh x) (f : Nat) : ∀ f' n p l, l.length < f → l.length < f' → (lexB f n p l).2.1 = 0 → lexB f' n p (l ++ x) = lexB f n p l := by
  induction f with
  | zero => intro f' n p l h; omega
  | succ f ih =>
    intro f' n p l hf hf' h
    obtain ⟨f', rfl⟩ : ∃ g, f' = g + 1 := ⟨f' - 1, by omega⟩
    rw [lexB] at h ⊢
    conv => rhs; rw [lexB]
    by_cases hr : l.drop (lead blB l) = []
    · rw [if_pos (Or.inl hr)]
      obtain ⟨a1, a2⟩ := lead_all (x := x) hr
      have e1 : (l ++ x).drop (lead blB (l ++ x)) = x.drop (lead blB x) := by
        rw [a1, ← List.drop_drop]
        simp
      rw [e1, if_pos hx.rest]
    · rw [lead_in (x := x) hr, drop_app (lead_le _ _)]
      have hlen : (l.drop (lead blB l)).length ≤ l.length := by rw [List.length_drop]; omega
      generalize lead blB l = b at *
      generalize l.drop b = m at *
      by_cases h1 : hasP m remL = true
      · rw [if_pos (Or.inr h1), if_pos (Or.inr (hasP_more h1))]
      · have c1 : ¬ (m = [] ∨ hasP m remL = true) := fun hh => hh.elim hr h1
        rw [if_neg c1] at h ⊢
        by_cases h2 : ¬ (readW m).kind = 0 ∧ n = 2048
        · rw [if_pos h2] at h; cases h
        · rw [if_neg h2] at h ⊢
          by_cases h3 : ¬ (readW m).err = 0
          · rw [if_pos h3] at h
            exact absurd h h3
          · have h3' : (readW m).err = 0 := Decidable.not_not.1 h3
            have n1 : ¬ hasP (m ++ x) remL = true := by
              intro hh
              obtain ⟨j, hj, hlj, -⟩ := hasP_part hh (by simpa using h1)
              subst hlj
              exact rem_part j hj hr h3'
            have c2 : ¬ (m ++ x = [] ∨ hasP (m ++ x) remL = true) := fun hh => hh.elim (fun e => hr (List.append_eq_nil_iff.1 e).1) n1
            rw [if_neg c2, read_more hx hr h3', if_neg h2, if_neg h3]
            rw [if_neg h3] at h ⊢
            obtain ⟨s1, s2, -⟩ := (readW_end hr).1 h3'
            have hq : (lexB f (n + 1) (p + b + (readW m).stop) (m.drop (readW m).stop)).2.1 = 0 := by
              refine Decidable.byContradiction fun hn => ?_
              rw [if_pos hn] at h
              exact hn h
            rw [drop_app s2, ih f' (n + 1) _ (m.drop (readW m).stop) (by rw [List.length_drop]; omega) (by rw [List.length_drop]; omega) hq]
theorem lex_ahead (k f n p : Nat) (l : List Int) : lexB f n p (List.replicate k 32 ++ l) = lexB f n (p + k) l := by
  cases f with
  | zero => rfl
  | succ f =>
    have e : lead blB (List.replicate k 32 ++ l) = k + lead blB l := by
      induction k with
      | zero => simp
      | succ k ih =>
        rw [List.replicate_succ, List.cons_append]
        simp only [lead]
        rw [ih]
        simp [blB]
        omega
    rw [lexB, lexB, e]
    have e2 : (List.replicate k 32 ++ l).drop (k + lead blB l) = l.drop (lead blB l) := by
      rw [← List.drop_drop]
      simp
    rw [e2, show p + (k + lead blB l) = p + k + lead blB l by omega]
/-- More fuel than there are bytes plays no part. -/
theorem lex_fuel (f : Nat) : ∀ f' n p l, l.length < f → l.length < f' → lexB f' n p l = lexB f n p l := by
  induction f with
  | zero => intro f' n p l h; omega
  | succ f ih =>
    intro f' n p l hf hf'
    obtain ⟨f', rfl⟩ : ∃ g, f' = g + 1 := ⟨f' - 1, by omega⟩
    rw [lexB, lexB]
    by_cases hr : l.drop (lead blB l) = []
    · rw [if_pos (Or.inl hr), if_pos (Or.inl hr)]
    · have hlen : (l.drop (lead blB l)).length ≤ l.length := by rw [List.length_drop]; omega
      generalize lead blB l = b at *
      generalize l.drop b = m at *
      by_cases h3 : (readW m).err = 0
      · obtain ⟨s1, s2, -⟩ := (readW_end hr).1 h3
        rw [ih f' (n + 1) _ (m.drop (readW m).stop) (by rw [List.length_drop]; omega) (by rw [List.length_drop]; omega)]
      · split
        · rfl
        · split
          · rfl
          · rfl
end Go.Proofs.YtnndnjffnkhpdaaDoor
