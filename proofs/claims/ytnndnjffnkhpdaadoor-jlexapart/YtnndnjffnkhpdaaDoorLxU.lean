/-
  A text made of its words, a blank behind each: it has the same words (plain mathematics).
-/
import Derived.Test.YtnndnjffnkhpdaaDoorLxT
namespace Go.Proofs.YtnndnjffnkhpdaaDoor
open Rn
set_option linter.unusedVariables false
/-- Each word as it stands, up to the next one, and a blank behind it. -/
def segO (S : List Int) : List Tk → List Int
  | [] => []
  | [t] => S.drop t.at' ++ [32]
  | t :: u :: r => (S.drop t.at').take (u.at' - t.at') ++ 32 :: segO S (u :: r)
/-- No two numbers beside one another. -/
def NN : List Tk → Prop
  | [] => True
  | [_] => True
  | t :: u :: r => ¬ (t.kind = 1 ∧ u.kind = 1) ∧ NN (u :: r)
/-- Words without their places. -/
def strip (l : List Tk) : List (Int × List Int × Ar) := l.map fun t => (t.kind, t.text, t.lit)
theorem strip_shT (d : Nat) (q : List Tk × Int × Nat) : strip (shT d q).1 = strip q.1 := by
  unfold strip shT
  simp
theorem shT_err (d : Nat) (q : List Tk × Int × Nat) : (shT d q).2.1 = q.2.1 := rfl
/-- In whatever place it begins. -/
theorem lexB_any (f n p : Nat) (l : List Int) : lexB f n p l = shT p (lexB f n 0 l) := by
  have := lexB_shift p f n 0 l
  rwa [Nat.zero_add] at this
theorem lead0_of {l : List Int} {b : Nat} (hb : lead blB l = b) (hne : l.drop b ≠ []) : lead blB (l.drop b) = 0 := by
  cases h : l.drop b with
  | nil => exact absurd h hne
  | cons c t =>
    have := lead_stop blB l c t (by rw [hb]; exact h)
    simp [lead, this]
theorem head_same {m y : List Int} {k : Nat} (hm : m ≠ []) (hk : 1 ≤ k) : ∃ c r, m.take k ++ y = c :: r ∧ ∃ s, m = c :: s := by
  match m, hm, k, hk with
  | c :: s, _, k + 1, _ => exact ⟨c, s.take k ++ y, rfl, s, rfl⟩
theorem lead_zero {m : List Int} {c : Int} {s : List Int} (hm : m = c :: s) (h : lead blB m = 0) (r : List Int) : lead blB (c :: r) = 0 := by
  subst hm
  simp only [lead] at h ⊢
  split at h
  · omega
  · rename_i hc
    rw [if_neg hc]
theorem no_rem {c : Int} {s r : List Int} (h : (readW (c :: s)).err = 0) : hasP (c :: r) remL = false := by
  cases hh : hasP (c :: r) remL with
  | false => rfl
  | true =>
    exfalso
    have hc : c = 78 := by
      simp [hasP, remL, List.isPrefixOf] at hh
      exact hh.1.symm
    cases hn : numB (c :: s) with
    | false => exact read_no c s (Or.inr hc) hn h
    | true =>
      rw [numB_cons c s (by omega)] at hn
      subst hc
      cases hn
theorem apart (S : List Int) (f : Nat) : ∀ n p, p ≤ S.length → (S.drop p).length < f → (lexB f n p (S.drop p)).2.1 = 0 → NN (lexB f n p (S.drop p)).1 →
    ∀ f', (segO S (lexB f n p (S.drop p)).1).length < f' → (lexB f' n 0 (segO S (lexB f n p (S.drop p)).1)).2.1 = 0 ∧ strip (lexB f' n 0 (segO S (lexB f n p (S.drop p)).1)).1 = strip (lexB f n p (S.drop p)).1 ∧ lead blB (segO S (lexB f n p (S.drop p)).1) = 0 := by
  induction f with
  | zero => intro n p _ h; omega
  | succ f ih =>
    intro n p hp hf h hNN f' hf'
    have hlp : (S.drop p).length = S.length - p := List.length_drop
    have hb := lead_le blB (S.drop p)
    obtain ⟨b, hbb⟩ : ∃ b, lead blB (S.drop p) = b := ⟨_, rfl⟩
    rw [hbb] at hb
    have hdd : (S.drop p).drop b = S.drop (p + b) := by rw [List.drop_drop]
    by_cases h0 : S.drop (p + b) = [] ∨ hasP (S.drop (p + b)) remL = true
    · have hX : lexB (f + 1) n p (S.drop p) = ([], 0, 0) := by rw [lexB, hbb, hdd, if_pos h0]
      rw [hX] at hf' ⊢
      obtain ⟨f', rfl⟩ : ∃ g, f' = g + 1 := ⟨f' - 1, by omega⟩
      have e : lexB (f' + 1) n 0 (segO S []) = ([], 0, 0) := by
        show lexB (f' + 1) n 0 [] = _
        rw [lexB, if_pos (Or.inl (by rfl))]
      refine ⟨by rw [e], by rw [e], rfl⟩
    · have hne : S.drop (p + b) ≠ [] := fun hh => h0 (Or.inl hh)
      have hm0 : lead blB (S.drop (p + b)) = 0 := by rw [← hdd]; exact lead0_of hbb (by rw [hdd]; exact hne)
      obtain ⟨m, hm⟩ : ∃ m, S.drop (p + b) = m := ⟨_, rfl⟩
      rw [hm] at h0 hne hm0
      have hml : m.length = S.length - (p + b) := by rw [← hm, List.length_drop]
      by_cases h1 : ¬ (readW m).kind = 0 ∧ n = 2048
      · have hX : lexB (f + 1) n p (S.drop p) = ([], 14, p + b) := by rw [lexB, hbb, hdd, hm, if_neg h0, if_pos h1]
        rw [hX] at h
        cases h
      · by_cases h2 : ¬ (readW m).err = 0
        · have hX : lexB (f + 1) n p (S.drop p) = ([], (readW m).err, p + b + (readW m).ea) := by rw [lexB, hbb, hdd, hm, if_neg h0, if_neg h1, if_pos h2]
          rw [hX] at h
          exact absurd h h2
        · have h2' : (readW m).err = 0 := Decidable.not_not.1 h2
          obtain ⟨s1, s2, s3⟩ := (readW_end hne).1 h2'
          have hn8 : ¬ n = 2048 := fun hh => h1 ⟨s3, hh⟩
          obtain ⟨st, hst⟩ : ∃ st, (readW m).stop = st := ⟨_, rfl⟩
          rw [hst] at s1 s2
          have hq : m.drop st = S.drop (p + b + st) := by rw [← hm, List.drop_drop]
          obtain ⟨Q, hQ⟩ : ∃ Q, lexB f (n + 1) (p + b + st) (S.drop (p + b + st)) = Q := ⟨_, rfl⟩
          have hQ0 : Q.2.1 = 0 := by
            refine Decidable.byContradiction fun hn => ?_
            have hX : lexB (f + 1) n p (S.drop p) = ([], Q.2) := by rw [lexB, hbb, hdd, hm, if_neg h0, if_neg h1, if_neg h2, hst, hq, hQ, if_pos hn]
            rw [hX] at h
            exact hn h
          have hX : lexB (f + 1) n p (S.drop p) = (⟨(readW m).kind, (readW m).text, (readW m).lit, p + b⟩ :: Q.1, 0, 0) := by rw [lexB, hbb, hdd, hm, if_neg h0, if_neg h1, if_neg h2, hst, hq, hQ, if_neg (by simp [hQ0])]
          have hrec := ih (n + 1) (p + b + st) (by omega) (by rw [List.length_drop]; omega)
          rw [hQ] at hrec
          rw [hX] at hNN hf' ⊢
          obtain ⟨f', rfl⟩ : ∃ g, f' = g + 1 := ⟨f' - 1, by omega⟩
          cases hQ1 : Q.1 with
          | nil =>
            rw [hQ1] at hf'
            have hseg : segO S [⟨(readW m).kind, (readW m).text, (readW m).lit, p + b⟩] = m ++ [32] := by
              show S.drop (p + b) ++ [32] = _
              rw [hm]
            rw [hseg] at hf' ⊢
            have hbe : Beh [32] := Or.inl ⟨1, rfl⟩
            obtain ⟨c, r, hc, s, hcs⟩ := head_same (y := [32]) hne (show 1 ≤ m.length by omega)
            rw [List.take_length] at hc
            have hl0 : lead blB (m ++ [32]) = 0 := by rw [hc]; exact lead_zero hcs hm0 r
            have hr0 : ¬ (m ++ [32] = [] ∨ hasP (m ++ [32]) remL = true) := by
              rintro (hh | hh)
              · simp at hh
              · rw [hc, no_rem (s := s) (by rw [← hcs]; exact h2')] at hh
                cases hh
            have hrd : readW (m ++ [32]) = readW m := read_more hbe hne h2'
            have hdr : (m ++ [32]).drop st = m.drop st ++ [32] := drop_app s2
            have hfl : (m ++ [32]).length = m.length + 1 := by simp
            have hmore := lex_more hbe f f' (n + 1) (p + b + st) (m.drop st) (by rw [List.length_drop]; omega) (by rw [List.length_drop]; omega) (by rw [hq, hQ]; exact hQ0)
            have e0 := lexB_any f' (n + 1) (p + b + st) (m.drop st ++ [32])
            rw [hmore, hq, hQ] at e0
            have e1 : (lexB f' (n + 1) 0 (m.drop st ++ [32])).2.1 = 0 := by
              have := congrArg (fun q => q.2.1) e0
              simp only [shT_err] at this
              rw [hq, ← this]; exact hQ0
            have e2 : (lexB f' (n + 1) 0 (m.drop st ++ [32])).1 = [] := by
              have := congrArg (fun q => q.1) e0
              simp only [hQ1, shT] at this
              rw [hq]
              exact List.map_eq_nil_iff.1 this.symm
            have e3 := lexB_any f' (n + 1) (0 + 0 + st) (m.drop st ++ [32])
            have e4 : (lexB f' (n + 1) (0 + 0 + st) (m.drop st ++ [32])).2.1 = 0 := by rw [e3, shT_err]; exact e1
            have e5 : (lexB f' (n + 1) (0 + 0 + st) (m.drop st ++ [32])).1 = [] := by rw [e3, shT, e2]; rfl
            have hY : lexB (f' + 1) n 0 (m ++ [32]) = ([⟨(readW m).kind, (readW m).text, (readW m).lit, 0⟩], 0, 0) := by
              rw [lexB, hl0, List.drop_zero, if_neg hr0, hrd, if_neg h1, if_neg h2, hst, hdr, if_neg (by rw [e4]; simp), e5]
            rw [hY]
            exact ⟨rfl, rfl, hl0⟩
          | cons t2 r2 =>
            have hrec' := hrec hQ0 (by rw [hQ1] at hNN; rw [hQ1]; exact hNN.2)
            rw [hQ1] at hNN hf' hrec'
            -- where the next word stands
            obtain ⟨b2, hb2⟩ : ∃ b2, lead blB (m.drop st) = b2 := ⟨_, rfl⟩
            have hb2l : b2 ≤ (m.drop st).length := by rw [← hb2]; exact lead_le _ _
            rw [List.length_drop] at hb2l
            have hf0 : ∃ g, f = g + 1 := by
              cases f with
              | zero => rw [lexB] at hQ; rw [← hQ] at hQ1; cases hQ1
              | succ g => exact ⟨g, rfl⟩
            obtain ⟨g, rfl⟩ := hf0
            have hat : t2.at' = p + b + st + b2 := by
              have hQ' := hQ
              rw [lexB, ← hq, hb2] at hQ'
              split at hQ'
              · rw [← hQ'] at hQ1; cases hQ1
              · split at hQ'
                · rw [← hQ'] at hQ1; cases hQ1
                · split at hQ'
                  · rw [← hQ'] at hQ1; cases hQ1
                  · split at hQ'
                    · rw [← hQ'] at hQ1; cases hQ1
                    · rw [← hQ'] at hQ1
                      simp only [List.cons.injEq] at hQ1
                      rw [← hQ1.1]
            obtain ⟨Z, hZ⟩ : ∃ Z, segO S (t2 :: r2) = Z := ⟨_, rfl⟩
            have hblk : (m.drop st).take b2 = List.replicate b2 32 := by
              rw [← hb2]
              clear hb2 hb2l hat hrec hrec' hQ hNN hf' hX hQ0 hQ1
              generalize m.drop st = l
              induction l with
              | nil => rfl
              | cons c t ih2 =>
                simp only [lead]
                split
                · rename_i hc
                  have : c = 32 := by simpa [blB] using hc
                  rw [List.take_succ_cons, ih2, this]
                  rfl
                · rfl
            have hseg : segO S (⟨(readW m).kind, (readW m).text, (readW m).lit, p + b⟩ :: t2 :: r2) = m.take st ++ 32 :: (List.replicate b2 32 ++ Z) := by
              show (S.drop (p + b)).take (t2.at' - (p + b)) ++ 32 :: segO S (t2 :: r2) = _
              rw [hm, hZ, hat, show p + b + st + b2 - (p + b) = st + b2 by omega, List.take_add, hblk, List.append_assoc]
              congr 1
              rw [← List.cons_append, ← List.replicate_succ, List.replicate_succ', List.append_assoc]
              rfl
            rw [hZ] at hrec'
            rw [hseg] at hf' ⊢
            have hlen2 : Z.length < f' := by
              simp only [List.length_append, List.length_cons, List.length_replicate] at hf'
              omega
            obtain ⟨z1, z2, z3⟩ := hrec' f' hlen2
            have hZne : Z ≠ [] := by
              intro hh
              rw [hh] at z2
              obtain ⟨g', rfl⟩ : ∃ g', f' = g' + 1 := ⟨f' - 1, by omega⟩
              have : lexB (g' + 1) (n + 1) 0 [] = ([], 0, 0) := by rw [lexB, if_pos (Or.inl (by rfl))]
              rw [this] at z2
              simp [strip] at z2
            have hyd : (List.replicate b2 32 ++ Z).drop (lead blB (List.replicate b2 32 ++ Z)) = Z := by
              have e : lead blB (List.replicate b2 32 ++ Z) = b2 := by
                clear hseg hf' hblk hb2 hb2l hat hQ hrec hrec' hNN
                induction b2 with
                | zero => simpa using z3
                | succ k ih2 => rw [List.replicate_succ, List.cons_append]; simp only [lead]; rw [ih2]; simp [blB]
              rw [e]
              simp
            have hnum : numB m = true → numB ((List.replicate b2 32 ++ Z).drop (lead blB (List.replicate b2 32 ++ Z))) = false := by
              intro hnm
              rw [hyd]
              have hk1 : (readW m).kind = 1 := by
                unfold readW
                rw [if_pos hnm]
                unfold readN
                split <;> rfl
              cases hz : numB Z with
              | false => rfl
              | true =>
                exfalso
                have hZk : (readW Z).kind = 1 := by
                  unfold readW
                  rw [if_pos hz]
                  unfold readN
                  split <;> rfl
                refine hNN.1 ⟨hk1, ?_⟩
                obtain ⟨g', rfl⟩ : ∃ g', f' = g' + 1 := ⟨f' - 1, by omega⟩
                have hz2 := z2
                rw [lexB, z3, List.drop_zero] at hz2
                split at hz2
                · simp [strip] at hz2
                · split at hz2
                  · simp [strip] at hz2
                  · split at hz2
                    · simp [strip] at hz2
                    · split at hz2
                      · simp [strip] at hz2
                      · simp only [strip, List.map_cons, List.cons.injEq, Prod.mk.injEq] at hz2
                        rw [← hz2.1.1]
                        exact hZk
            have hrd : readW (m.take st ++ 32 :: (List.replicate b2 32 ++ Z)) = readW m := by
              have := own_word (List.replicate b2 32 ++ Z) hne h2' hnum
              rwa [hst] at this
            obtain ⟨c, r, hc, s, hcs⟩ := head_same (y := 32 :: (List.replicate b2 32 ++ Z)) hne s1
            have hl0 : lead blB (m.take st ++ 32 :: (List.replicate b2 32 ++ Z)) = 0 := by rw [hc]; exact lead_zero hcs hm0 r
            have hr0 : ¬ (m.take st ++ 32 :: (List.replicate b2 32 ++ Z) = [] ∨ hasP (m.take st ++ 32 :: (List.replicate b2 32 ++ Z)) remL = true) := by
              rintro (hh | hh)
              · simp at hh
              · rw [hc, no_rem (s := s) (by rw [← hcs]; exact h2')] at hh
                cases hh
            have hdr : (m.take st ++ 32 :: (List.replicate b2 32 ++ Z)).drop st = List.replicate (b2 + 1) 32 ++ Z := by
              rw [drop_take_app (Nat.le_refl _) s2]
              simp [List.replicate_succ]
            have e3 : lexB f' (n + 1) (0 + 0 + st) (List.replicate (b2 + 1) 32 ++ Z) = shT (0 + 0 + st + (b2 + 1)) (lexB f' (n + 1) 0 Z) := by
              rw [lex_ahead, lexB_any]
            have hY : lexB (f' + 1) n 0 (m.take st ++ 32 :: (List.replicate b2 32 ++ Z)) = (⟨(readW m).kind, (readW m).text, (readW m).lit, 0⟩ :: (shT (0 + 0 + st + (b2 + 1)) (lexB f' (n + 1) 0 Z)).1, 0, 0) := by
              rw [lexB, hl0, List.drop_zero, if_neg hr0, hrd, if_neg h1, if_neg h2, hst, hdr, e3, if_neg (by rw [shT_err, z1]; simp)]
            rw [hY]
            refine ⟨rfl, ?_, hl0⟩
            have := strip_shT (0 + 0 + st + (b2 + 1)) (lexB f' (n + 1) 0 Z)
            unfold strip at this z2 ⊢
            simp only [List.map_cons]
            rw [this, z2]
            rfl
/-- How long it is. -/
theorem segO_len (S : List Int) : ∀ (l : List Tk) (lo : Nat), OkT S lo l → (segO S l).length + 2 * lo ≤ 2 * S.length ∨ l = []
  | [], lo, _ => Or.inr rfl
  | [t], lo, h => by
    left
    obtain ⟨h1, h2, -⟩ := h
    simp only [segO, List.length_append, List.length_drop, List.length_singleton]
    omega
  | t :: u :: r, lo, h => by
    left
    obtain ⟨h1, h2, h3, h4, h5⟩ := h
    have h6 := h5.1
    have := segO_len S (u :: r) u.at' ⟨Nat.le_refl _, h5.2⟩
    rcases this with h7 | h7
    · simp only [segO, List.length_append, List.length_take, List.length_drop, List.length_cons]
      have := h5.2.1
      omega
    · cases h7
theorem apartM {S : List Int} (hS : S.length ≤ 2000) (h : (lexM S).2.1 = 0) (hN : NN (lexM S).1) : (lexM (segO S (lexM S).1)).2.1 = 0 ∧ strip (lexM (segO S (lexM S).1)).1 = strip (lexM S).1 := by
  have hM : lexM S = lexB (S.length + 1) 0 0 (S.drop 0) := by
    unfold lexM
    rw [if_neg (by omega)]
    rfl
  rw [hM] at h hN ⊢
  have hok := (lexB_places S (S.length + 1) 0 0 (Nat.zero_le _)).1
  have hl : (segO S (lexB (S.length + 1) 0 0 (S.drop 0)).1).length ≤ 4000 := by
    rcases segO_len S _ 0 hok with h1 | h1
    · omega
    · rw [h1]; simp [segO]
  obtain ⟨a1, a2, -⟩ := apart S (S.length + 1) 0 0 (Nat.zero_le _) (by simp) h hN ((segO S (lexB (S.length + 1) 0 0 (S.drop 0)).1).length + 1) (Nat.lt_succ_self _)
  generalize segO S (lexB (S.length + 1) 0 0 (S.drop 0)).1 = O at *
  have hO : lexM O = lexB (O.length + 1) 0 0 O := by
    unfold lexM
    rw [if_neg (by omega)]
  rw [hO]
  exact ⟨a1, a2⟩
end Go.Proofs.YtnndnjffnkhpdaaDoor
