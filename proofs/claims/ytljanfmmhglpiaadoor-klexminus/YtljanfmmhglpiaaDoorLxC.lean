/-
  Blanks behind a text play no part in how its words are read; blanks ahead turn the places alone.
-/
import Derived.Test.YtljanfmmhglpiaaDoorLxB
namespace Go.Proofs.YtljanfmmhglpiaaDoor
open Rn
set_option linter.unusedVariables false
/-- Blanks alone. -/
def Beh (x : List Int) : Prop := ∃ k, x = List.replicate k 32
theorem Beh.head {x : List Int} (h : Beh x) : x = [] ∨ ∃ t, x = 32 :: t := by
  obtain ⟨k, rfl⟩ := h
  cases k with
  | zero => exact Or.inl rfl
  | succ k => exact Or.inr ⟨_, rfl⟩
theorem Beh.no {x : List Int} (h : Beh x) (p : Int → Bool) (h1 : p 32 = false) : headN p x := by
  rcases h.head with rfl | ⟨t, rfl⟩
  · trivial
  · exact h1
/-- Behind its blanks nothing begins. -/
theorem Beh.rest {x : List Int} (h : Beh x) : x.drop (lead blB x) = [] := by
  obtain ⟨k, rfl⟩ := h
  have : lead blB (List.replicate k 32) = k := by
    induction k with
    | zero => rfl
    | succ k ih => rw [List.replicate_succ]; simp only [lead]; rw [ih]; rfl
  rw [this]
  simp
theorem drop_app {l x : List Int} {k : Nat} (h : k ≤ l.length) : (l ++ x).drop k = l.drop k ++ x := by
  rw [List.drop_append_of_le_length h]
theorem take_app {l x : List Int} {k : Nat} (h : k ≤ l.length) : (l ++ x).take k = l.take k := by
  rw [List.take_append_of_le_length h]
theorem lead_all {p : Int → Bool} {l x : List Int} (h : l.drop (lead p l) = []) : lead p (l ++ x) = l.length + lead p x ∧ lead p l = l.length := by
  induction l with
  | nil => simp [lead]
  | cons c t ih =>
    by_cases hc : p c = true
    · simp only [lead, hc, if_true] at h ⊢
      have := ih (by simpa using h)
      simp only [List.cons_append, lead, hc, if_true, List.length_cons]
      omega
    · simp only [lead, hc] at h
      simp at h
theorem lead_in {p : Int → Bool} {l x : List Int} (h : l.drop (lead p l) ≠ []) : lead p (l ++ x) = lead p l := by
  induction l with
  | nil => simp at h
  | cons c t ih =>
    simp only [List.cons_append, lead]
    by_cases hc : p c = true
    · simp only [lead, hc, if_true] at h ⊢
      rw [ih (by simpa using h)]
    · simp [hc]
/-- A word that only what is behind makes whole: the text is its beginning. -/
theorem hasP_part {l x w : List Int} (h1 : hasP (l ++ x) w = true) (h2 : hasP l w = false) : ∃ j, j < w.length ∧ l = w.take j ∧ ∃ r, l ++ x = w ++ r := by
  obtain ⟨r, hr⟩ := hasP_iff.1 h1
  have hlt : l.length < w.length := by
    refine Decidable.byContradiction fun hn => ?_
    have h3 := congrArg (List.take w.length) hr
    rw [take_app (by omega), List.take_left] at h3
    have : hasP l w = true := hasP_iff.2 ⟨l.drop w.length, by
      have h4 := (List.take_append_drop w.length l).symm
      rwa [h3] at h4⟩
    rw [this] at h2
    cases h2
  refine ⟨l.length, hlt, ?_, r, hr⟩
  have h3 := congrArg (List.take l.length) hr
  rw [List.take_left, List.take_append_of_le_length (by omega)] at h3
  exact h3
theorem hasP_more {l x w : List Int} (h : hasP l w = true) : hasP (l ++ x) w = true := by
  obtain ⟨r, rfl⟩ := hasP_iff.1 h
  exact hasP_iff.2 ⟨r ++ x, by simp⟩
theorem min_more {l x : List Int} (hl : l ≠ []) : hasP (l ++ x) minL = hasP l minL := by
  cases l with
  | nil => exact absurd rfl hl
  | cons c t => simp [hasP, minL, List.isPrefixOf]
theorem off_le (l : List Int) : offM l ≤ l.length := by
  unfold offM
  split
  · rename_i h; exact hasP_len h
  · omega
theorem num_more {v : Int} {l x : List Int} (hx : Beh x) (hl : l ≠ []) : offM (l ++ x) = offM l ∧ numB v (l ++ x) = numB v l := by
  have h1 : offM (l ++ x) = offM l := by unfold offM; rw [min_more hl]
  refine ⟨h1, ?_⟩
  unfold numB
  rw [h1, drop_app (off_le l), min_more hl]
  cases h : l.drop (offM l) with
  | cons c t => rfl
  | nil =>
    rcases hx.head with rfl | ⟨t, rfl⟩
    · rfl
    · show (dgB 32 && _) = false
      rfl
theorem lead_rep (k : Nat) : lead blB (List.replicate k 32) = k := by
  induction k with
  | zero => rfl
  | succ k ih => rw [List.replicate_succ]; simp only [lead]; rw [ih]; rfl
theorem num_none {v : Int} {x : List Int} (hx : Beh x) : numB v (x.drop (lead blB x)) = false := by
  rw [hx.rest]
  rfl
theorem val_more {l x : List Int} (hx : Beh x) (hl : l ≠ []) : numV (l ++ x) = numV l ∧ numE (l ++ x) = numE l := by
  obtain ⟨h1, -⟩ := num_more (v := 32) hx hl
  have h2 : lead dgB ((l ++ x).drop (offM (l ++ x))) = lead dgB (l.drop (offM l)) := by
    rw [h1, drop_app (off_le l)]
    exact lead_more _ _ _ (hx.no _ rfl)
  have h3 : digL (l ++ x) = digL l := by
    unfold digL
    rw [h2, h1, drop_app (off_le l), take_app (lead_le _ _)]
  unfold numV numE
  rw [h3, min_more hl, h2, h1]
  exact ⟨rfl, rfl⟩
theorem str_more {x : List Int} (hx : Beh x) (f : Nat) : ∀ f' v l, l ≠ [] → numB v l = true → l.length < f → l.length < f' → strF f' (l ++ x) = strF f l := by
  induction f with
  | zero => intro f' v l _ _ h; omega
  | succ f ih =>
    intro f' v l hl hn hf hf'
    obtain ⟨f', rfl⟩ : ∃ g, f' = g + 1 := ⟨f' - 1, by omega⟩
    obtain ⟨v1, v2⟩ := val_more hx hl
    have hk := numE_pos hn
    rw [strF, strF, v1, v2, drop_app hk.2]
    split
    · rfl
    · generalize hM : l.drop (numE l) = M
      have hML : M.length = l.length - numE l := by rw [← hM, List.length_drop]
      have hd : ∀ b, (l ++ x).drop (numE l + b) = (M ++ x).drop b := fun b => by rw [← List.drop_drop, drop_app hk.2, hM]
      have hd' : ∀ b, l.drop (numE l + b) = M.drop b := fun b => by rw [← List.drop_drop, hM]
      simp only [hd, hd']
      by_cases hr : M.drop (lead blB M) = []
      · obtain ⟨a1, a2⟩ := lead_all (x := x) hr
        have e1 : (M ++ x).drop (lead blB (M ++ x)) = x.drop (lead blB x) := by
          rw [a1, ← List.drop_drop]
          simp
        rw [e1, hr, num_none hx]
        rw [if_pos (Or.inr rfl), if_pos (Or.inr (show numB 32 [] = false from rfl))]
      · have a1 := lead_in (x := x) hr
        rw [a1, drop_app (lead_le _ _)]
        obtain ⟨-, a2⟩ := num_more (v := 32) hx hr
        rw [a2]
        split
        · rfl
        · rename_i h2
          have hn2 : numB 32 (M.drop (lead blB M)) = true := by
            cases hh : numB 32 (M.drop (lead blB M)) with
            | true => rfl
            | false => exact absurd (Or.inr hh) h2
          have hlen : (M.drop (lead blB M)).length < l.length := by rw [List.length_drop]; omega
          rw [ih f' 32 _ hr hn2 (by omega) (by omega)]
theorem last_more (t x : List Int) : ∀ (e : Bool) (q : Nat), lastQ e t = some q → lastQ e (t ++ x) = some q := by
  induction t with
  | nil => intro e q h; simp [lastQ] at h
  | cons c t ih =>
    intro e q h
    simp only [List.cons_append, lastQ] at h ⊢
    split
    · rename_i hc; rw [if_pos hc] at h; exact h
    · rename_i hc
      rw [if_neg hc] at h
      simp only [Option.map_eq_some_iff] at h ⊢
      obtain ⟨i, hi, rfl⟩ := h
      exact ⟨i, ih _ i hi, rfl⟩
theorem one_more {l x : List Int} {r : Int × Nat} (h : oneF l = some r) : oneF (l ++ x) = some r := by
  cases l with
  | nil => cases h
  | cons c t =>
    simp only [oneF, List.cons_append] at h ⊢
    split at h
    · cases h
    · rename_i h1
      rw [if_neg h1]
      split at h
      · cases h
      · rename_i h2
        rw [if_neg (by rw [List.length_append]; omega), take_app (by omega)]
        exact h
theorem nam_more {l x : List Int} (hx : Beh x) : namK (l ++ x) = namK l := by
  unfold namK
  rw [lead_more _ _ _ (hx.no _ rfl)]
theorem head_more {l x : List Int} (hl : l ≠ []) : (l ++ x).headD 0 = l.headD 0 := by
  cases l with
  | nil => exact absurd rfl hl
  | cons c t => rfl
theorem read_more {v : Int} {l x : List Int} (hx : Beh x) (hl : l ≠ []) (h : (readW v l).err = 0) : readW v (l ++ x) = readW v l := by
  have hl' : 0 < l.length := List.length_pos_iff.2 hl
  have hh := head_more (x := x) hl
  have ht : (l ++ x).tail = l.tail ++ x := by
    cases l with
    | nil => exact absurd rfl hl
    | cons c t => rfl
  unfold readW at h ⊢
  rw [(num_more hx hl).2, hh]
  split
  · rename_i hn
    unfold readN
    rw [str_more hx (l.length + 1) ((l ++ x).length + 1) v l hl hn (by omega) (by simp; omega)]
  · rename_i hn
    rw [if_neg hn] at h
    split
    · rename_i h39
      rw [if_pos h39] at h
      unfold readT at h ⊢
      rw [ht]
      cases hq : lastQ false l.tail with
      | none => rw [hq] at h; cases h
      | some q =>
        rw [last_more _ _ _ _ hq]
        have := lastQ_lt _ _ _ hq
        simp only
        rw [take_app (by omega)]
    · rename_i h39
      rw [if_neg h39] at h
      split
      · unfold readM
        rw [nam_more hx, take_app (namK_le l)]
      · rename_i hlt
        rw [if_neg hlt] at h
        unfold readS at h ⊢
        rw [hh]
        by_cases hs : kind1 (l.headD 0) = 0
        · rw [if_pos hs] at h
          simp only at h
          split at h <;> cases h
        · rw [if_neg hs, if_neg hs, take_app (by omega)]
theorem wrd_end {v : Int} {l : List Int} (hl : l.drop (lead blB l) ≠ []) (h : (wrd v l).err = 0) : 1 ≤ (wrd v l).stop ∧ lead blB l + (wrd v l).stop ≤ l.length := by
  obtain ⟨h1, h2, -⟩ := (readW_end hl).1 h
  rw [List.length_drop] at h2
  have := lead_le blB l
  refine ⟨h1, ?_⟩
  unfold wrd
  omega
theorem lex_more {x : List Int} (hx : Beh x) (f : Nat) : ∀ f' n p v l, l.length < f → l.length < f' → (lexB f n p v l).2.1 = 0 → lexB f' n p v (l ++ x) = lexB f n p v l := by
  induction f with
  | zero => intro f' n p v l h; omega
  | succ f ih =>
    intro f' n p v l hf hf' h
    obtain ⟨f', rfl⟩ : ∃ g, f' = g + 1 := ⟨f' - 1, by omega⟩
    rw [lexB] at h ⊢
    conv => rhs; rw [lexB]
    by_cases hr : l.drop (lead blB l) = []
    · rw [if_pos (Or.inl hr)]
      obtain ⟨a1, a2⟩ := lead_all (x := x) hr
      have e1 : (l ++ x).drop (lead blB (l ++ x)) = x.drop (lead blB x) := by
        rw [a1, ← List.drop_drop]
        simp
      rw [if_pos (Or.inl (by rw [e1, hx.rest]))]
    · have eL := lead_in (x := x) hr
      have eD : (l ++ x).drop (lead blB l) = l.drop (lead blB l) ++ x := drop_app (lead_le _ _)
      have eA : ahd v (l ++ x) (lead blB l) = ahd v l (lead blB l) := ahd_app (lead_le _ _)
      have eR : remB (ahd v l (lead blB l)) (l.drop (lead blB l) ++ x) = remB (ahd v l (lead blB l)) (l.drop (lead blB l)) := by
        unfold remB; rw [head_more hr]
      have c0 : ¬ (l.drop (lead blB l) ++ x = []) := fun e => hr (List.append_eq_nil_iff.1 e).1
      rw [eL, eD, eA, eR]
      by_cases h1 : remB (ahd v l (lead blB l)) (l.drop (lead blB l)) = true
      · rw [if_pos (Or.inr h1), if_pos (Or.inr h1)]
      · have c1 : ¬ (l.drop (lead blB l) = [] ∨ remB (ahd v l (lead blB l)) (l.drop (lead blB l)) = true) := fun hh => hh.elim hr h1
        have c2 : ¬ (l.drop (lead blB l) ++ x = [] ∨ remB (ahd v l (lead blB l)) (l.drop (lead blB l)) = true) := fun hh => hh.elim c0 h1
        rw [if_neg c1] at h ⊢
        rw [if_neg c2]
        by_cases h2 : ¬ (wrd v l).kind = 0 ∧ n = 2048
        · rw [if_pos h2] at h; cases h
        · rw [if_neg h2] at h ⊢
          by_cases h3 : ¬ (wrd v l).err = 0
          · rw [if_pos h3] at h
            exact absurd h h3
          · have h3' : (wrd v l).err = 0 := Decidable.not_not.1 h3
            have eW : wrd v (l ++ x) = wrd v l := by
              show readW (ahd v (l ++ x) (lead blB (l ++ x))) ((l ++ x).drop (lead blB (l ++ x))) = _
              rw [eL, eD, eA]
              exact read_more hx hr h3'
            rw [eW, if_neg h2, if_neg h3]
            rw [if_neg h3] at h ⊢
            obtain ⟨s1, s2⟩ := wrd_end hr h3'
            have hq : (lexB f (n + 1) (p + lead blB l + (wrd v l).stop) (ahd v l (lead blB l + (wrd v l).stop)) (l.drop (lead blB l + (wrd v l).stop))).2.1 = 0 := by
              refine Decidable.byContradiction fun hn => ?_
              rw [if_pos hn] at h
              exact hn h
            rw [drop_app s2, ahd_app s2, ih f' (n + 1) _ _ (l.drop (lead blB l + (wrd v l).stop)) (by rw [List.length_drop]; omega) (by rw [List.length_drop]; omega) hq]
theorem lead_ahead (k : Nat) (l : List Int) : lead blB (List.replicate k 32 ++ l) = k + lead blB l := by
  induction k with
  | zero => simp
  | succ k ih =>
    rw [List.replicate_succ, List.cons_append]
    simp only [lead]
    rw [ih]
    simp [blB]
    omega
theorem ahd_ahead (k j : Nat) (l : List Int) : ahd 32 (List.replicate k 32 ++ l) (k + j) = ahd 32 l j := by
  unfold ahd
  by_cases hj : j = 0
  · subst hj
    rw [if_pos rfl]
    by_cases hk : k = 0
    · rw [if_pos (by omega)]
    · rw [if_neg (by omega), List.getElem?_append_left (by simp; omega)]
      rw [List.getElem?_replicate]
      split <;> rfl
  · rw [if_neg (by omega), if_neg hj, List.getElem?_append_right (by simp; omega), List.length_replicate, show k + j - 1 - k = j - 1 by omega]
theorem drop_ahead (k j : Nat) (l : List Int) : (List.replicate k 32 ++ l).drop (k + j) = l.drop j := by
  rw [← List.drop_drop]
  simp
theorem wrd_ahead (k : Nat) (l : List Int) : wrd 32 (List.replicate k 32 ++ l) = wrd 32 l := by
  unfold wrd
  rw [lead_ahead, ahd_ahead, drop_ahead]
theorem lex_ahead (k f n p : Nat) (l : List Int) : lexB f n p 32 (List.replicate k 32 ++ l) = lexB f n (p + k) 32 l := by
  cases f with
  | zero => rfl
  | succ f =>
    rw [lexB, lexB, wrd_ahead, lead_ahead]
    rw [show k + lead blB l + (wrd 32 l).stop = k + (lead blB l + (wrd 32 l).stop) by omega]
    simp only [ahd_ahead, drop_ahead]
    rw [show p + (k + lead blB l) = p + k + lead blB l by omega]
/-- More fuel than there are bytes plays no part. -/
theorem lex_fuel (f : Nat) : ∀ f' n p v l, l.length < f → l.length < f' → lexB f' n p v l = lexB f n p v l := by
  induction f with
  | zero => intro f' n p v l h; omega
  | succ f ih =>
    intro f' n p v l hf hf'
    obtain ⟨f', rfl⟩ : ∃ g, f' = g + 1 := ⟨f' - 1, by omega⟩
    rw [lexB, lexB]
    by_cases hr : l.drop (lead blB l) = []
    · rw [if_pos (Or.inl hr), if_pos (Or.inl hr)]
    · by_cases h3 : (wrd v l).err = 0
      · obtain ⟨s1, s2⟩ := wrd_end hr h3
        rw [ih f' (n + 1) _ _ (l.drop (lead blB l + (wrd v l).stop)) (by rw [List.length_drop]; omega) (by rw [List.length_drop]; omega)]
      · rw [if_pos h3, if_pos h3]
end Go.Proofs.YtljanfmmhglpiaaDoor
