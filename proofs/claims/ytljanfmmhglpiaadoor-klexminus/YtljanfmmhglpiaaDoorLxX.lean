/-
  The sign of less behind twelve beginnings, ahead of digits, as plain mathematics: which words there are.
-/
import Derived.Test.YtljanfmmhglpiaaDoorLxR
namespace Go.Proofs.YtljanfmmhglpiaaDoor
open Go.ChangeShapes Go.WideShapes Go.ChangeAt Go.RowKit
open Rn
set_option linter.unusedVariables false
set_option linter.unusedSimpArgs false
set_option maxRecDepth 100000
/-- Digits. -/
def Dg (D : List Int) : Prop := ∀ c ∈ D, dgB c = true
theorem lead_dg {D : List Int} (h : Dg D) : lead dgB D = D.length := by
  induction D with
  | nil => rfl
  | cons c t ih => simp only [lead]; rw [if_pos (h c (by simp)), ih (fun z hz => h z (by simp [hz]))]; rfl
theorem dg_ne {c : Int} (h : dgB c = true) : 48 ≤ c ∧ c ≤ 57 := by simpa [dgB] using h
theorem dg_cons {D : List Int} (h : Dg D) (hne : D ≠ []) : ∃ d t, D = d :: t ∧ dgB d = true := by
  cases D with
  | nil => exact absurd rfl hne
  | cons d t => exact ⟨d, t, rfl, h d (by simp)⟩
/-- A number of digits alone, with nothing behind. -/
theorem val_dg {D : List Int} (h : Dg D) (hne : D ≠ []) : numV D = decV D ∧ numE D = D.length ∧ ∀ v, numB v D = true := by
  obtain ⟨d, t, rfl, hd⟩ := dg_cons h hne
  have h45 : ¬ d = 45 := by have := dg_ne hd; omega
  have hp : hasP (d :: t) minL = false := by rw [hasP_min]; exact decide_eq_false h45
  have ho : offM (d :: t) = 0 := by unfold offM; rw [hp]; rfl
  have hl := lead_dg h
  refine ⟨?_, ?_, fun v => ?_⟩
  · unfold numV digL
    rw [hp, ho, List.drop_zero, hl, List.take_length]
    rfl
  · unfold numE
    rw [ho, List.drop_zero, hl, Nat.zero_add]
  · rw [numB_cons, if_neg h45]
    exact hd
theorem val_mn {D : List Int} (h : Dg D) (hne : D ≠ []) : numV (45 :: D) = - decV D ∧ numE (45 :: D) = D.length + 1 ∧ ∀ v, opB v = false → numB v (45 :: D) = true := by
  obtain ⟨d, t, rfl, hd⟩ := dg_cons h hne
  have hp : hasP (45 :: d :: t) minL = true := by rw [hasP_min]; rfl
  have ho : offM (45 :: d :: t) = 1 := by unfold offM; rw [hp]; rfl
  have hl := lead_dg h
  refine ⟨?_, ?_, fun v hv => ?_⟩
  · unfold numV digL
    rw [hp, ho, List.drop_succ_cons, List.drop_zero, hl, List.take_length]
    rfl
  · unfold numE
    rw [ho, List.drop_succ_cons, List.drop_zero, hl, Nat.add_comm]
  · rw [numB_cons, if_pos rfl, hv]
    simpa using hd
theorem str_one {m : List Int} (f : Nat) (hf : fits (numV m) = true) (he : numE m = m.length) : strF (f + 1) m = ([numV m], numE m, none) := by
  rw [strF, if_neg (by rw [hf]; simp), if_pos (Or.inl (by rw [he, List.drop_length]; rfl))]
theorem fits_n {n : Int} (h0 : 0 ≤ n) (h : n < 4294967296) : fits n = true ∧ fits (-n) = true := by
  unfold fits
  simp
  omega
/-- Read as a number. -/
theorem rd_dg {D : List Int} (h : Dg D) (hne : D ≠ []) (h0 : 0 ≤ decV D) (hb : decV D < 4294967296) (v : Int) : readW v D = ⟨1, [], atomA (decV D), D.length, 0, 0⟩ := by
  obtain ⟨h1, h2, h3⟩ := val_dg h hne
  unfold readW
  rw [h3 v, if_pos rfl]
  unfold readN
  rw [str_one _ (by rw [h1]; exact (fits_n h0 hb).1) h2, h1, h2]
  rfl
theorem rd_mn {D : List Int} (h : Dg D) (hne : D ≠ []) (h0 : 0 ≤ decV D) (hb : decV D < 4294967296) {v : Int} (hv : opB v = false) : readW v (45 :: D) = ⟨1, [], atomA (-decV D), D.length + 1, 0, 0⟩ := by
  obtain ⟨h1, h2, h3⟩ := val_mn h hne
  unfold readW
  rw [h3 v hv, if_pos rfl]
  unfold readN
  rw [str_one _ (by rw [h1]; exact (fits_n h0 hb).2) h2, h1, h2]
  rfl
theorem rd_sg (D : List Int) {v : Int} (hv : opB v = true) : readW v (45 :: D) = ⟨4, [45], nilA, 1, 0, 0⟩ := by
  unfold readW
  rw [numB_cons, if_pos rfl, hv]
  rfl
theorem rd_7 (D : List Int) (v : Int) : readW v (55 :: 45 :: D) = ⟨1, [], atomA 7, 1, 0, 0⟩ := by
  have hn : numB v (55 :: 45 :: D) = true := by rw [numB_cons]; rfl
  unfold readW
  rw [hn, if_pos rfl]
  unfold readN
  have e : strF ((55 :: 45 :: D).length + 1) (55 :: 45 :: D) = ([7], 1, none) := by
    have e1 : numV (55 :: 45 :: D) = 7 := rfl
    have e2 : numE (55 :: 45 :: D) = 1 := rfl
    rw [strF, e1, e2, if_neg (by decide), if_pos (Or.inl (show lead blB ((55 :: 45 :: D).drop 1) = 0 from rfl))]
  rw [e]
  rfl
theorem rd_77 {D : List Int} (h : Dg D) (hne : D ≠ []) (h0 : 0 ≤ decV D) (hb : decV D < 4294967296) (v : Int) : readW v (55 :: 32 :: 45 :: D) = ⟨1, [], numsA [7, -decV D], D.length + 3, 0, 0⟩ := by
  obtain ⟨h1, h2, h3⟩ := val_mn h hne
  have hn : numB v (55 :: 32 :: 45 :: D) = true := by rw [numB_cons]; rfl
  unfold readW
  rw [hn, if_pos rfl]
  unfold readN
  have e : strF ((55 :: 32 :: 45 :: D).length + 1) (55 :: 32 :: 45 :: D) = ([7, -decV D], D.length + 3, none) := by
    have e1 : numV (55 :: 32 :: 45 :: D) = 7 := rfl
    have e2 : numE (55 :: 32 :: 45 :: D) = 1 := rfl
    have e3 : (55 :: 32 :: 45 :: D).drop 1 = 32 :: 45 :: D := rfl
    have e4 : lead blB (32 :: 45 :: D) = 1 := rfl
    have e5 : (55 :: 32 :: 45 :: D).drop (1 + 1) = 45 :: D := rfl
    have e6 := str_one (m := 45 :: D) (D.length + 2) (by rw [h1]; exact (fits_n h0 hb).2) h2
    rw [strF, e1, e2, if_neg (by decide), e3, e4, e5, if_neg (by rw [h3 32 rfl]; simp)]
    show (7 :: (strF (D.length + 2 + 1) (45 :: D)).1, 1 + 1 + (strF (D.length + 2 + 1) (45 :: D)).2.1, (strF (D.length + 2 + 1) (45 :: D)).2.2.map (· + (1 + 1))) = _
    rw [e6, h1, h2]
    refine Prod.ext rfl (Prod.ext ?_ rfl)
    show 1 + 1 + (D.length + 1) = D.length + 3
    omega
  rw [e]
  rfl
/-- One word more. -/
theorem lex_word {f n p : Nat} {v : Int} {l : List Int} {r : Rd} {R : List Tk} {v' : Int} {l' : List Int} (hl : lead blB l = 0) (hr : readW v l = r) (hne : l ≠ []) (hrem : remB v l = false) (hk : ¬ r.kind = 0) (hn : n < 2048) (he : r.err = 0) (hv : ahd v l r.stop = v') (hl' : l.drop r.stop = l') (hR : lexB f (n + 1) (p + r.stop) v' l' = (R, 0, 0)) :
    lexB (f + 1) n p v l = (⟨r.kind, r.text, r.lit, p⟩ :: R, 0, 0) := by
  have hw : wrd v l = r := by unfold wrd; rw [hl]; exact hr
  rw [lexB, hw, hl]
  simp only [List.drop_zero, Nat.add_zero, Nat.zero_add, ahd_zero]
  rw [if_neg (fun h => h.elim hne (fun h => by rw [hrem] at h; cases h)), if_neg (fun h => by omega), if_neg (fun h => h he), hv, hl', hR]
  simp
theorem lex_done (f n p : Nat) (v : Int) : lexB (f + 1) n p v [] = ([], 0, 0) := by
  rw [lexB]
  exact if_pos (Or.inl rfl)
theorem lex_blank {f n p : Nat} {v : Int} {l : List Int} {R : List Tk × Int × Nat} (h0 : lead blB l = 0) (hR : lexB (f + 1) n (p + 1) 32 l = R) : lexB (f + 1) n p v (32 :: l) = R := by
  have hle : lead blB (32 :: l) = 1 := by simp [lead, blB]; exact h0
  rw [lexB_skip, hle]
  exact hR
/-- The last word: a number of digits alone, or one below 0. -/
theorem end_dg {D : List Int} (h : Dg D) (hne : D ≠ []) (h0 : 0 ≤ decV D) (hb : decV D < 4294967296) (f n p : Nat) (hn : n < 2048) (v : Int) : lexB (f + 2) n p v D = ([⟨1, [], atomA (decV D), p⟩], 0, 0) := by
  obtain ⟨d, t, hD, hd⟩ := dg_cons h hne
  have hd' := dg_ne hd
  refine lex_word (r := ⟨1, [], atomA (decV D), D.length, 0, 0⟩) ?_ (rd_dg h hne h0 hb v) hne ?_ (by simp) hn rfl rfl (List.drop_length) (lex_done _ _ _ _)
  · rw [hD]; simp only [lead]; rw [if_neg (by simp [blB]; omega)]
  · unfold remB; rw [hD]; simp; omega
theorem end_mn {D : List Int} (h : Dg D) (hne : D ≠ []) (h0 : 0 ≤ decV D) (hb : decV D < 4294967296) (f n p : Nat) (hn : n < 2048) {v : Int} (hv : opB v = false) : lexB (f + 2) n p v (45 :: D) = ([⟨1, [], atomA (-decV D), p⟩], 0, 0) := by
  refine lex_word (r := ⟨1, [], atomA (-decV D), D.length + 1, 0, 0⟩) rfl (rd_mn h hne h0 hb hv) (by simp) rfl (by simp) hn rfl rfl (by simp) (lex_done _ _ _ _)
theorem end_sg {D : List Int} (h : Dg D) (hne : D ≠ []) (h0 : 0 ≤ decV D) (hb : decV D < 4294967296) (f n p : Nat) (hn : n < 2047) {v : Int} (hv : opB v = true) : lexB (f + 3) n p v (45 :: D) = ([⟨4, [45], nilA, p⟩, ⟨1, [], atomA (decV D), p + 1⟩], 0, 0) := by
  refine lex_word (r := ⟨4, [45], nilA, 1, 0, 0⟩) rfl (rd_sg D hv) (by simp) rfl (by simp) (by omega) rfl rfl rfl (end_dg h hne h0 hb f (n + 1) (p + 1) (by omega) 45)
/-- The twelve beginnings. -/
def ahL : Nat → List Int
  | 0 => [97]
  | 1 => [40, 97, 41]
  | 2 => [97, 91, 98, 93]
  | 3 => [123, 120, 125]
  | 4 => [34, 99, 34]
  | 5 => [55]
  | 6 => []
  | 7 => [43]
  | 8 => [40]
  | 9 => [32]
  | 10 => [97, 32]
  | _ => [55, 32]
/-- The value of the last word, and the words ahead of it. -/
def litK (k : Nat) (n : Int) : Ar := if k = 11 then numsA [7, -n] else if k < 6 then atomA n else atomA (-n)
def preK : Nat → List Tk
  | 0 => [⟨3, [97], nilA, 0⟩, ⟨4, [45], nilA, 1⟩]
  | 1 => [⟨5, [40], nilA, 0⟩, ⟨3, [97], nilA, 1⟩, ⟨6, [41], nilA, 2⟩, ⟨4, [45], nilA, 3⟩]
  | 2 => [⟨3, [97], nilA, 0⟩, ⟨5, [91], nilA, 1⟩, ⟨3, [98], nilA, 2⟩, ⟨6, [93], nilA, 3⟩, ⟨4, [45], nilA, 4⟩]
  | 3 => [⟨5, [123], nilA, 0⟩, ⟨3, [120], nilA, 1⟩, ⟨6, [125], nilA, 2⟩, ⟨4, [45], nilA, 3⟩]
  | 4 => [⟨2, [], textA [99], 0⟩, ⟨4, [45], nilA, 3⟩]
  | 5 => [⟨1, [], atomA 7, 0⟩, ⟨4, [45], nilA, 1⟩]
  | 6 => []
  | 7 => [⟨4, [43], nilA, 0⟩]
  | 8 => [⟨5, [40], nilA, 0⟩]
  | 9 => []
  | 10 => [⟨3, [97], nilA, 0⟩]
  | _ => []
def lastP : Nat → Nat
  | 0 => 2
  | 1 => 4
  | 2 => 5
  | 3 => 4
  | 4 => 4
  | 5 => 2
  | 6 => 0
  | 7 => 1
  | 8 => 1
  | 9 => 1
  | 10 => 2
  | _ => 0
theorem lex_minus {D : List Int} (h : Dg D) (hne : D ≠ []) (h0 : 0 ≤ decV D) (hb : decV D < 4294967296) (hl : D.length ≤ 10) (k : Nat) (hk : k < 12) :
    lexM (ahL k ++ (45 :: D)) = (preK k ++ [⟨1, [], litK k (decV D), lastP k⟩], 0, 0) := by
  have hlen : (ahL k ++ (45 :: D)).length ≤ 8192 := by
    have : (ahL k).length ≤ 4 := by
      rcases (by omega : k = 0 ∨ k = 1 ∨ k = 2 ∨ k = 3 ∨ k = 4 ∨ k = 5 ∨ k = 6 ∨ k = 7 ∨ k = 8 ∨ k = 9 ∨ k = 10 ∨ k = 11) with rfl | rfl | rfl | rfl | rfl | rfl | rfl | rfl | rfl | rfl | rfl | rfl <;> decide
    rw [List.length_append, List.length_cons]
    omega
  unfold lexM
  rw [if_neg (by omega)]
  have hd : 1 ≤ D.length := List.length_pos_iff.2 hne
  obtain ⟨f, hf⟩ : ∃ f, D.length = f + 1 := ⟨D.length - 1, by omega⟩
  rw [List.length_append, List.length_cons, hf]
  rcases (by omega : k = 0 ∨ k = 1 ∨ k = 2 ∨ k = 3 ∨ k = 4 ∨ k = 5 ∨ k = 6 ∨ k = 7 ∨ k = 8 ∨ k = 9 ∨ k = 10 ∨ k = 11) with rfl | rfl | rfl | rfl | rfl | rfl | rfl | rfl | rfl | rfl | rfl | rfl
  · show lexB (1 + (f + 1 + 1) + 1) 0 0 32 (97 :: 45 :: D) = ([⟨3, [97], nilA, 0⟩, ⟨4, [45], nilA, 1⟩, ⟨1, [], atomA (decV D), 2⟩], 0, 0)
    rw [show 1 + (f + 1 + 1) + 1 = f + 4 by omega]
    refine lex_word (f := f + 3) (r := ⟨3, [97], nilA, 1, 0, 0⟩) rfl rfl (by simp) rfl (by simp) (by omega) rfl rfl rfl ?_
    exact end_sg h hne h0 hb _ _ _ (by omega) rfl
  · show lexB (3 + (f + 1 + 1) + 1) 0 0 32 (40 :: 97 :: 41 :: 45 :: D) = ([⟨5, [40], nilA, 0⟩, ⟨3, [97], nilA, 1⟩, ⟨6, [41], nilA, 2⟩, ⟨4, [45], nilA, 3⟩, ⟨1, [], atomA (decV D), 4⟩], 0, 0)
    rw [show 3 + (f + 1 + 1) + 1 = f + 6 by omega]
    refine lex_word (f := f + 5) (r := ⟨5, [40], nilA, 1, 0, 0⟩) rfl rfl (by simp) rfl (by simp) (by omega) rfl rfl rfl ?_
    refine lex_word (f := f + 4) (r := ⟨3, [97], nilA, 1, 0, 0⟩) rfl rfl (by simp) rfl (by simp) (by omega) rfl rfl rfl ?_
    refine lex_word (f := f + 3) (r := ⟨6, [41], nilA, 1, 0, 0⟩) rfl rfl (by simp) rfl (by simp) (by omega) rfl rfl rfl ?_
    exact end_sg h hne h0 hb _ _ _ (by omega) rfl
  · show lexB (4 + (f + 1 + 1) + 1) 0 0 32 (97 :: 91 :: 98 :: 93 :: 45 :: D) = ([⟨3, [97], nilA, 0⟩, ⟨5, [91], nilA, 1⟩, ⟨3, [98], nilA, 2⟩, ⟨6, [93], nilA, 3⟩, ⟨4, [45], nilA, 4⟩, ⟨1, [], atomA (decV D), 5⟩], 0, 0)
    rw [show 4 + (f + 1 + 1) + 1 = f + 7 by omega]
    refine lex_word (f := f + 6) (r := ⟨3, [97], nilA, 1, 0, 0⟩) rfl rfl (by simp) rfl (by simp) (by omega) rfl rfl rfl ?_
    refine lex_word (f := f + 5) (r := ⟨5, [91], nilA, 1, 0, 0⟩) rfl rfl (by simp) rfl (by simp) (by omega) rfl rfl rfl ?_
    refine lex_word (f := f + 4) (r := ⟨3, [98], nilA, 1, 0, 0⟩) rfl rfl (by simp) rfl (by simp) (by omega) rfl rfl rfl ?_
    refine lex_word (f := f + 3) (r := ⟨6, [93], nilA, 1, 0, 0⟩) rfl rfl (by simp) rfl (by simp) (by omega) rfl rfl rfl ?_
    exact end_sg h hne h0 hb _ _ _ (by omega) rfl
  · show lexB (3 + (f + 1 + 1) + 1) 0 0 32 (123 :: 120 :: 125 :: 45 :: D) = ([⟨5, [123], nilA, 0⟩, ⟨3, [120], nilA, 1⟩, ⟨6, [125], nilA, 2⟩, ⟨4, [45], nilA, 3⟩, ⟨1, [], atomA (decV D), 4⟩], 0, 0)
    rw [show 3 + (f + 1 + 1) + 1 = f + 6 by omega]
    refine lex_word (f := f + 5) (r := ⟨5, [123], nilA, 1, 0, 0⟩) rfl rfl (by simp) rfl (by simp) (by omega) rfl rfl rfl ?_
    refine lex_word (f := f + 4) (r := ⟨3, [120], nilA, 1, 0, 0⟩) rfl rfl (by simp) rfl (by simp) (by omega) rfl rfl rfl ?_
    refine lex_word (f := f + 3) (r := ⟨6, [125], nilA, 1, 0, 0⟩) rfl rfl (by simp) rfl (by simp) (by omega) rfl rfl rfl ?_
    exact end_sg h hne h0 hb _ _ _ (by omega) rfl
  · show lexB (3 + (f + 1 + 1) + 1) 0 0 32 (34 :: 99 :: 34 :: 45 :: D) = ([⟨2, [], textA [99], 0⟩, ⟨4, [45], nilA, 3⟩, ⟨1, [], atomA (decV D), 4⟩], 0, 0)
    rw [show 3 + (f + 1 + 1) + 1 = f + 6 by omega]
    refine lex_word (f := f + 5) (r := ⟨2, [], textA [99], 3, 0, 0⟩) rfl rfl (by simp) rfl (by simp) (by omega) rfl rfl rfl ?_
    exact end_sg h hne h0 hb _ _ _ (by omega) rfl
  · show lexB (1 + (f + 1 + 1) + 1) 0 0 32 (55 :: 45 :: D) = ([⟨1, [], atomA 7, 0⟩, ⟨4, [45], nilA, 1⟩, ⟨1, [], atomA (decV D), 2⟩], 0, 0)
    rw [show 1 + (f + 1 + 1) + 1 = f + 4 by omega]
    refine lex_word (f := f + 3) (r := ⟨1, [], atomA 7, 1, 0, 0⟩) rfl (rd_7 D 32) (by simp) rfl (by simp) (by omega) rfl rfl rfl ?_
    exact end_sg h hne h0 hb _ _ _ (by omega) rfl
  · show lexB (0 + (f + 1 + 1) + 1) 0 0 32 (45 :: D) = ([⟨1, [], atomA (-decV D), 0⟩], 0, 0)
    rw [show 0 + (f + 1 + 1) + 1 = f + 3 by omega]
    exact end_mn h hne h0 hb _ _ _ (by omega) rfl
  · show lexB (1 + (f + 1 + 1) + 1) 0 0 32 (43 :: 45 :: D) = ([⟨4, [43], nilA, 0⟩, ⟨1, [], atomA (-decV D), 1⟩], 0, 0)
    rw [show 1 + (f + 1 + 1) + 1 = f + 4 by omega]
    refine lex_word (f := f + 3) (r := ⟨4, [43], nilA, 1, 0, 0⟩) rfl rfl (by simp) rfl (by simp) (by omega) rfl rfl rfl ?_
    exact end_mn h hne h0 hb _ _ _ (by omega) rfl
  · show lexB (1 + (f + 1 + 1) + 1) 0 0 32 (40 :: 45 :: D) = ([⟨5, [40], nilA, 0⟩, ⟨1, [], atomA (-decV D), 1⟩], 0, 0)
    rw [show 1 + (f + 1 + 1) + 1 = f + 4 by omega]
    refine lex_word (f := f + 3) (r := ⟨5, [40], nilA, 1, 0, 0⟩) rfl rfl (by simp) rfl (by simp) (by omega) rfl rfl rfl ?_
    exact end_mn h hne h0 hb _ _ _ (by omega) rfl
  · show lexB (1 + (f + 1 + 1) + 1) 0 0 32 (32 :: 45 :: D) = ([⟨1, [], atomA (-decV D), 1⟩], 0, 0)
    rw [show 1 + (f + 1 + 1) + 1 = f + 4 by omega]
    exact lex_blank rfl (end_mn h hne h0 hb _ _ _ (by omega) rfl)
  · show lexB (2 + (f + 1 + 1) + 1) 0 0 32 (97 :: 32 :: 45 :: D) = ([⟨3, [97], nilA, 0⟩, ⟨1, [], atomA (-decV D), 2⟩], 0, 0)
    rw [show 2 + (f + 1 + 1) + 1 = f + 5 by omega]
    refine lex_word (f := f + 4) (r := ⟨3, [97], nilA, 1, 0, 0⟩) rfl rfl (by simp) rfl (by simp) (by omega) rfl rfl rfl ?_
    exact lex_blank rfl (end_mn h hne h0 hb _ _ _ (by omega) rfl)
  · show lexB (2 + (f + 1 + 1) + 1) 0 0 32 (55 :: 32 :: 45 :: D) = ([⟨1, [], numsA [7, -decV D], 0⟩], 0, 0)
    rw [show 2 + (f + 1 + 1) + 1 = f + 5 by omega]
    exact lex_word (f := f + 4) (r := ⟨1, [], numsA [7, -decV D], D.length + 3, 0, 0⟩) rfl (rd_77 h hne h0 hb 32) (by simp) rfl (by simp) (by omega) rfl rfl (by simp) (lex_done _ _ _ _)
/-- How many words the beginning itself has. -/
def mK : Nat → Nat
  | 0 => 1
  | 1 => 3
  | 2 => 4
  | 3 => 3
  | 4 => 1
  | 5 => 1
  | 6 => 0
  | 7 => 1
  | 8 => 1
  | 9 => 0
  | 10 => 1
  | _ => 1
theorem lex_begin (k : Nat) (hk : k < 12) : ∃ ts, lexM (ahL k) = (ts, 0, 0) ∧ ts.length = mK k := by
  rcases (by omega : k = 0 ∨ k = 1 ∨ k = 2 ∨ k = 3 ∨ k = 4 ∨ k = 5 ∨ k = 6 ∨ k = 7 ∨ k = 8 ∨ k = 9 ∨ k = 10 ∨ k = 11) with rfl | rfl | rfl | rfl | rfl | rfl | rfl | rfl | rfl | rfl | rfl | rfl
  · exact ⟨[⟨3, [97], nilA, 0⟩], by kernel_rfl, rfl⟩
  · exact ⟨[⟨5, [40], nilA, 0⟩, ⟨3, [97], nilA, 1⟩, ⟨6, [41], nilA, 2⟩], by kernel_rfl, rfl⟩
  · exact ⟨[⟨3, [97], nilA, 0⟩, ⟨5, [91], nilA, 1⟩, ⟨3, [98], nilA, 2⟩, ⟨6, [93], nilA, 3⟩], by kernel_rfl, rfl⟩
  · exact ⟨[⟨5, [123], nilA, 0⟩, ⟨3, [120], nilA, 1⟩, ⟨6, [125], nilA, 2⟩], by kernel_rfl, rfl⟩
  · exact ⟨[⟨2, [], textA [99], 0⟩], by kernel_rfl, rfl⟩
  · exact ⟨[⟨1, [], atomA 7, 0⟩], by kernel_rfl, rfl⟩
  · exact ⟨[], by kernel_rfl, rfl⟩
  · exact ⟨[⟨4, [43], nilA, 0⟩], by kernel_rfl, rfl⟩
  · exact ⟨[⟨5, [40], nilA, 0⟩], by kernel_rfl, rfl⟩
  · exact ⟨[], by kernel_rfl, rfl⟩
  · exact ⟨[⟨3, [97], nilA, 0⟩], by kernel_rfl, rfl⟩
  · exact ⟨[⟨1, [], atomA 7, 0⟩], by kernel_rfl, rfl⟩
theorem preK_len (k : Nat) (hk : k < 12) : (k < 6 → (preK k).length = mK k + 1 ∧ ∃ t, (preK k)[mK k]? = some t ∧ t.text = [45]) ∧ (6 ≤ k → k < 11 → (preK k).length = mK k) ∧ (k = 11 → (preK k).length = 0) := by
  rcases (by omega : k = 0 ∨ k = 1 ∨ k = 2 ∨ k = 3 ∨ k = 4 ∨ k = 5 ∨ k = 6 ∨ k = 7 ∨ k = 8 ∨ k = 9 ∨ k = 10 ∨ k = 11) with rfl | rfl | rfl | rfl | rfl | rfl | rfl | rfl | rfl | rfl | rfl | rfl
  · exact ⟨fun _ => ⟨rfl, _, rfl, rfl⟩, fun h => by omega, fun h => by omega⟩
  · exact ⟨fun _ => ⟨rfl, _, rfl, rfl⟩, fun h => by omega, fun h => by omega⟩
  · exact ⟨fun _ => ⟨rfl, _, rfl, rfl⟩, fun h => by omega, fun h => by omega⟩
  · exact ⟨fun _ => ⟨rfl, _, rfl, rfl⟩, fun h => by omega, fun h => by omega⟩
  · exact ⟨fun _ => ⟨rfl, _, rfl, rfl⟩, fun h => by omega, fun h => by omega⟩
  · exact ⟨fun _ => ⟨rfl, _, rfl, rfl⟩, fun h => by omega, fun h => by omega⟩
  · exact ⟨fun h => by omega, fun _ _ => rfl, fun h => by omega⟩
  · exact ⟨fun h => by omega, fun _ _ => rfl, fun h => by omega⟩
  · exact ⟨fun h => by omega, fun _ _ => rfl, fun h => by omega⟩
  · exact ⟨fun h => by omega, fun _ _ => rfl, fun h => by omega⟩
  · exact ⟨fun h => by omega, fun _ _ => rfl, fun h => by omega⟩
  · exact ⟨fun h => by omega, fun _ h => by omega, fun _ => rfl⟩
/-- Digits, laid one ahead of the others. -/
theorem decF_eq (D : List Int) : ∀ n : Int, decF n D = n * 10 ^ D.length + decV D := by
  induction D with
  | nil => intro n; simp [decF, decV]
  | cons c t ih =>
    intro n
    have e1 : decF n (c :: t) = decF (n * 10 + (c - 48)) t := rfl
    have e2 : decV (c :: t) = decF (0 * 10 + (c - 48)) t := rfl
    rw [e1, e2, ih, ih, List.length_cons, Int.pow_succ, Int.zero_mul, Int.zero_add, Int.add_mul, Int.mul_assoc, Int.mul_comm 10, Int.add_assoc]
theorem dec_cons (c : Int) (D : List Int) : decV (c :: D) = (c - 48) * 10 ^ D.length + decV D := by
  have e : decV (c :: D) = decF (0 * 10 + (c - 48)) D := rfl
  rw [e, decF_eq, Int.zero_mul, Int.zero_add]
theorem dec_pos {D : List Int} (h : Dg D) : 0 ≤ decV D := decF_ge D 0 (Int.le_refl _) h
/-- What the loop over the digits keeps: k is left, D is laid. -/
structure DS (n k : Nat) (D : List Int) : Prop where
  dg : Dg D
  val : (k : Int) * 10 ^ D.length + decV D = (n : Int)
  len : D.length ≤ 10
theorem DS.step {n k : Nat} {D : List Int} (h : DS n k D) (hn : n < 4294967296) (hgo : 0 < k ∨ D = []) : DS n (k / 10) ((48 + ((k % 10 : Nat) : Int)) :: D) := by
  obtain ⟨h1, h2, h3⟩ := h
  refine ⟨?_, ?_, ?_⟩
  · intro c hc
    rcases List.mem_cons.1 hc with rfl | hc
    · simp [dgB]; omega
    · exact h1 c hc
  · rw [dec_cons, List.length_cons, Int.pow_succ, ← h2]
    have e : (k : Int) = ((k / 10 : Nat) : Int) * 10 + ((k % 10 : Nat) : Int) := by omega
    have e2 : (48 + ((k % 10 : Nat) : Int) - 48) = ((k % 10 : Nat) : Int) := by omega
    rw [e2]
    conv => rhs; rw [e]
    rw [Int.add_mul, Int.mul_assoc, Int.mul_comm 10, Int.add_assoc]
  · rw [List.length_cons]
    rcases hgo with hk | rfl
    · refine Decidable.byContradiction fun hc => ?_
      have hL : D.length = 10 := by omega
      rw [hL] at h2
      have hp := dec_pos h1
      have : (10 : Int) ^ 10 = 10000000000 := by decide
      rw [this] at h2
      omega
    · simp
theorem DS.done {n : Nat} {D : List Int} (h : DS n 0 D) : decV D = (n : Int) := by
  have := h.val
  rw [show ((0 : Nat) : Int) = 0 from rfl, Int.zero_mul, Int.zero_add] at this
  exact this
theorem enc_one (r : Nat) (h : r < 10) : Utf8.encode (48 + (r : Int)) = strOfNums [48 + (r : Int)] := by
  rcases (by omega : r = 0 ∨ r = 1 ∨ r = 2 ∨ r = 3 ∨ r = 4 ∨ r = 5 ∨ r = 6 ∨ r = 7 ∨ r = 8 ∨ r = 9) with rfl | rfl | rfl | rfl | rfl | rfl | rfl | rfl | rfl | rfl <;> decide +kernel
theorem str_cons (c : Int) (D : List Int) : strOfNums [c] ++ strOfNums D = strOfNums (c :: D) := by
  refine str_eq ?_
  rw [ByteArray.data_append, Array.toList_append, str_data, str_data]
  rfl
end Go.Proofs.YtljanfmmhglpiaaDoor
