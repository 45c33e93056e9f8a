/-
  All words of a text, as plain mathematics: how one is read, all of them one behind the other; how far a word goes; where words stand.
-/
import Derived.Test.YtnndnjffnkhpdaaDoorLxA
import Derived.Test.YtnndnjffnkhpdaaDoorOwnP
import Derived.Lib.IndexMore
import Derived.Lib.Bytes
namespace Go.Proofs.YtnndnjffnkhpdaaDoor
open Rn
set_option linter.unusedVariables false
/-- What is read at a place: kind, text, value, how far it goes, the error and its place. -/
structure Rd where
  kind : Int
  text : List Int
  lit : Ar
  stop : Nat
  err : Int
  ea : Nat
/-- A word: kind, text, value, place. -/
structure Tk where
  kind : Int
  text : List Int
  lit : Ar
  at' : Nat
def nilA : Ar := .mk [] []
def litN (l : List Int) : Ar := if l.length = 1 then atomA (l[0]?.getD 0) else numsA l
def readN (l : List Int) : Rd := match (strF (l.length + 1) l).2.2 with
  | some j => ⟨1, [], nilA, 0, 2, j⟩
  | none => ⟨1, [], litN (strF (l.length + 1) l).1, (strF (l.length + 1) l).2.1, 0, 0⟩
def readT (l : List Int) : Rd := match lastQ l.tail with
  | none => ⟨2, [], nilA, 0, 2, 0⟩
  | some q => if (signF (q + 1) (l.tail.take q)).2.1 = 0 then ⟨2, [], textA (signF (q + 1) (l.tail.take q)).1, q + 2, 0, 0⟩ else ⟨2, [], nilA, 0, (signF (q + 1) (l.tail.take q)).2.1, (signF (q + 1) (l.tail.take q)).2.2 + 1⟩
def namK (l : List Int) : Nat := lead nmB l.tail + 1
/-- A sign that makes another word of the letters ahead of it. -/
def infB (c : Int) : Bool := decide (c = 46) || decide (c = 58)
/-- How far a word of letters goes. -/
def letE (l : List Int) : Nat := match l.drop (namK l) with
  | [] => namK l
  | c :: _ => if infB c then namK l + 1 else namK l
/-- Is in no name. -/
def noB (c : Int) : Bool := decide (c = 120) || decide (c = 121) || decide (c = 122) || decide (c = 46) || decide (c = 58)
/-- The kind of a word of letters. -/
def kindL (w : List Int) : Int := if w = [105, 46] ∨ w = [101, 46] then 4 else if w = [120] ∨ w = [121] then 3 else if w.length ≤ 8 ∧ w.any noB = false then 3 else 0
def readM (l : List Int) : Rd := if kindL (l.take (letE l)) = 0 then ⟨3, [], nilA, 0, 2, 0⟩ else ⟨kindL (l.take (letE l)), l.take (letE l), nilA, letE l, 0, 0⟩
/-- Pairs of bytes that are a sign. -/
def pairL : List (Int × Int) := [(45, 46), (124, 46), (124, 58), (60, 46), (60, 58), (62, 46), (62, 58), (126, 46), (126, 58), (44, 58), (47, 58), (92, 58), (123, 46), (125, 46), (94, 58)]
/-- The kind of the word of two bytes. -/
def two (c d : Int) (t : List Int) : Int := if c = 61 ∧ d = 58 then 7 else if c = 123 ∧ d = 123 then 5 else if c = 125 ∧ d = 125 then 6 else if (c, d) ∈ pairL then 4 else
  if c = 34 ∧ d = 49 ∧ dgB (t.headD 0) = false then 4 else 0
def kind2 : List Int → Int
  | c :: d :: t => two c d t
  | _ => 0
def oneL : List Int := [45, 42, 124, 37, 43, 60, 62, 61, 126, 36, 35, 44, 47, 92, 123]
/-- The kind of the word of one byte. -/
def kind1 (c : Int) : Int := if c = 40 then 5 else if c = 41 then 6 else if c ∈ oneL then 4 else 0
def sameF (l : List Int) : Int × Nat := if ¬ kind2 l = 0 then (kind2 l, 2) else if ¬ kind1 (l.headD 0) = 0 then (kind1 (l.headD 0), 1) else (0, 0)
def readS (l : List Int) : Rd := if (sameF l).1 = 0 then ⟨0, [], nilA, 0, if oneF l = none then 3 else 2, 0⟩ else ⟨(sameF l).1, l.take (sameF l).2, nilA, (sameF l).2, 0, 0⟩
def readW (l : List Int) : Rd := if numB l then readN l else if l.headD 0 = 39 then readT l else if ltB (l.headD 0) then readM l else readS l
/-- The words from a place on, so many being read already: which, the error, its place. -/
def lexB : Nat → Nat → Nat → List Int → List Tk × Int × Nat
  | 0, _, _, _ => ([], 0, 0)
  | f + 1, n, p, l =>
    if l.drop (lead blB l) = [] ∨ hasP (l.drop (lead blB l)) remL = true then ([], 0, 0) else
    if ¬ (readW (l.drop (lead blB l))).kind = 0 ∧ n = 2048 then ([], 14, p + lead blB l) else
    if ¬ (readW (l.drop (lead blB l))).err = 0 then ([], (readW (l.drop (lead blB l))).err, p + lead blB l + (readW (l.drop (lead blB l))).ea) else
    if ¬ (lexB f (n + 1) (p + lead blB l + (readW (l.drop (lead blB l))).stop) ((l.drop (lead blB l)).drop (readW (l.drop (lead blB l))).stop)).2.1 = 0 then
      ([], (lexB f (n + 1) (p + lead blB l + (readW (l.drop (lead blB l))).stop) ((l.drop (lead blB l)).drop (readW (l.drop (lead blB l))).stop)).2) else
    (⟨(readW (l.drop (lead blB l))).kind, (readW (l.drop (lead blB l))).text, (readW (l.drop (lead blB l))).lit, p + lead blB l⟩ :: (lexB f (n + 1) (p + lead blB l + (readW (l.drop (lead blB l))).stop) ((l.drop (lead blB l)).drop (readW (l.drop (lead blB l))).stop)).1, 0, 0)
def lexM (s : List Int) : List Tk × Int × Nat := if 8192 < s.length then ([], 14, 0) else lexB (s.length + 1) 0 0 s
theorem letE_le {l : List Int} (hl : l ≠ []) : namK l ≤ letE l ∧ letE l ≤ l.length ∧ namK l ≤ l.length := by
  have hl' : 0 < l.length := List.length_pos_iff.2 hl
  have := lead_le nmB l.tail
  rw [List.length_tail] at this
  have hk : namK l ≤ l.length := by unfold namK; omega
  unfold letE
  split
  · omega
  · rename_i c t h
    have h2 : (l.drop (namK l)).length = t.length + 1 := by rw [h]; rfl
    rw [List.length_drop] at h2
    split <;> omega
/-- How far a word goes. -/
theorem oneF_len {l : List Int} {n : Int} {k : Nat} (h : oneF l = some (n, k)) : 1 ≤ k ∧ k ≤ l.length := by
  cases l with
  | nil => cases h
  | cons c t =>
    simp only [oneF] at h
    split at h
    · cases h
    · split at h
      · cases h
      · split at h
        · simp at h; simp; omega
        · cases h
theorem strF_end (f : Nat) : ∀ l, numB l = true → (strF (f + 1) l).2.1 ≤ l.length ∧ ((strF (f + 1) l).2.2 = none → 1 ≤ (strF (f + 1) l).2.1) ∧ ∀ j, (strF (f + 1) l).2.2 = some j → j ≤ l.length := by
  induction f with
  | zero =>
    intro l hl
    have hk := numE_pos hl
    simp only [strF]
    split
    · simp
    · split
      · simp; omega
      · have := lead_le blB (l.drop (numE l))
        rw [List.length_drop] at this
        simp; omega
  | succ f ih =>
    intro l hl
    have hk := numE_pos hl
    rw [strF]
    split
    · simp
    · split
      · simp; omega
      · rename_i h2
        have hb := lead_le blB (l.drop (numE l))
        rw [List.length_drop] at hb
        have hn : numB (l.drop (numE l + lead blB (l.drop (numE l)))) = true := by
          cases hh : numB (l.drop (numE l + lead blB (l.drop (numE l)))) with
          | true => rfl
          | false => exact absurd (Or.inr hh) h2
        obtain ⟨i1, i2, i3⟩ := ih _ hn
        rw [List.length_drop] at i1 i3
        refine ⟨?_, fun _ => ?_, ?_⟩
        · show numE l + _ + _ ≤ _
          omega
        · show 1 ≤ numE l + _ + _
          omega
        · intro j hj
          simp only [Option.map_eq_some_iff] at hj
          obtain ⟨i, hi, rfl⟩ := hj
          have := i3 i hi
          omega
theorem lastQ_lt : ∀ (t : List Int) (q : Nat), lastQ t = some q → q < t.length
  | [], q, h => by simp [lastQ] at h
  | [c], q, h => by
    simp only [lastQ] at h
    split at h
    · simp at h; simp; omega
    · cases h
  | c :: d :: t, q, h => by
    simp only [lastQ] at h
    split at h
    · simp only [Option.map_eq_some_iff] at h
      obtain ⟨i, hi, rfl⟩ := h
      have := lastQ_lt (d :: t) i hi
      simp at this ⊢; omega
    · split at h
      · simp at h; simp; omega
      · simp only [Option.map_eq_some_iff] at h
        obtain ⟨i, hi, rfl⟩ := h
        have := lastQ_lt t i hi
        simp; omega
theorem signF_place (f : Nat) : ∀ l, ¬ (signF f l).2.1 = 0 → (signF f l).2.2 < l.length := by
  induction f with
  | zero => intro l h; simp [signF] at h
  | succ f ih =>
    intro l h
    rw [signF] at h ⊢
    split at h
    · simp at h
    · rename_i hl
      have hl' : 0 < l.length := List.length_pos_iff.2 hl
      rw [if_neg hl]
      split
      · simpa using hl'
      · rename_i n k hk
        rw [hk] at h
        simp only at h ⊢
        split
        · simpa using hl'
        · rename_i hn
          rw [if_neg hn] at h
          simp only at h
          have := ih _ h
          rw [List.length_drop] at this
          show _ + _ < _
          omega
theorem readW_end {l : List Int} (hl : l ≠ []) : ((readW l).err = 0 → 1 ≤ (readW l).stop ∧ (readW l).stop ≤ l.length ∧ ¬ (readW l).kind = 0) ∧ (readW l).text = l.take (readW l).text.length ∧ (readW l).text.length ≤ l.length ∧ (readW l).ea ≤ l.length := by
  have hl' : 0 < l.length := List.length_pos_iff.2 hl
  unfold readW
  split
  · rename_i hn
    obtain ⟨i1, i2, i3⟩ := strF_end l.length l hn
    unfold readN
    split
    · rename_i j hj
      exact ⟨by simp, by simp, by simp, i3 j hj⟩
    · rename_i hj
      exact ⟨fun _ => ⟨i2 hj, i1, by simp⟩, by simp, by simp, by simp⟩
  · split
    · unfold readT
      split
      · exact ⟨by simp, by simp, by simp, by simp⟩
      · rename_i q hq
        have := lastQ_lt _ _ hq
        rw [List.length_tail] at this
        split
        · exact ⟨fun _ => ⟨by simp, by simp; omega, by simp⟩, by simp, by simp, by simp⟩
        · rename_i he
          have hp := signF_place _ _ he
          rw [List.length_take, List.length_tail] at hp
          exact ⟨fun h => absurd h he, by simp, by simp, by show _ + 1 ≤ _; omega⟩
    · split
      · unfold readM
        obtain ⟨k1, k2, k3⟩ := letE_le hl
        have k0 : 1 ≤ namK l := by simp [namK]
        split
        · exact ⟨by simp, by simp, by simp, by simp⟩
        · rename_i hk
          exact ⟨fun _ => ⟨by show 1 ≤ letE l; omega, k2, hk⟩, by simp, by simp; omega, by simp⟩
      · unfold readS
        split
        · refine ⟨?_, by simp, by simp, by simp⟩
          simp only
          split <;> simp
        · rename_i hk
          have hz : 1 ≤ (sameF l).2 ∧ (sameF l).2 ≤ l.length := by
            revert hk
            unfold sameF
            split
            · rename_i h
              intro _
              refine ⟨by simp, ?_⟩
              match l, h with
              | [], h => exact absurd rfl h
              | [c], h => exact absurd rfl h
              | c :: d :: t, h => simp
            · split
              · intro _; exact ⟨by simp, hl'⟩
              · simp
          exact ⟨fun _ => ⟨hz.1, hz.2, hk⟩, by simp, by simp; omega, by simp⟩
/-- All further on. -/
def shT (d : Nat) (q : List Tk × Int × Nat) : List Tk × Int × Nat := (q.1.map fun t => ⟨t.kind, t.text, t.lit, t.at' + d⟩, q.2.1, if q.2.1 = 0 then q.2.2 else q.2.2 + d)
theorem lexB_zero (f : Nat) : ∀ n p l, (lexB f n p l).2.1 = 0 → (lexB f n p l).2.2 = 0 := by
  cases f with
  | zero => intro n p l _; rfl
  | succ f =>
    intro n p l
    rw [lexB]
    split
    · simp
    · split
      · simp
      · split
        · rename_i h; exact fun h' => absurd h' h
        · split
          · rename_i h; exact fun h' => absurd h' h
          · simp
theorem lexB_shift (d f : Nat) : ∀ n p l, lexB f n (p + d) l = shT d (lexB f n p l) := by
  induction f with
  | zero => intro n p l; rfl
  | succ f ih =>
    intro n p l
    rw [lexB, lexB]
    have e : p + d + lead blB l + (readW (l.drop (lead blB l))).stop = p + lead blB l + (readW (l.drop (lead blB l))).stop + d := by omega
    rw [e, ih]
    generalize lexB f (n + 1) (p + lead blB l + (readW (l.drop (lead blB l))).stop) ((l.drop (lead blB l)).drop (readW (l.drop (lead blB l))).stop) = q
    split
    · rfl
    · split
      · simp [shT]; omega
      · split
        · rename_i h
          simp [shT, h]; omega
        · have e2 : (shT d q).2.1 = q.2.1 := rfl
          rw [e2]
          split
          · rename_i h
            simp [shT, h]
          · simp [shT]; omega
/-- Words that stand in a text, one behind the other. -/
def OkT (S : List Int) : Nat → List Tk → Prop
  | _, [] => True
  | lo, t :: r => lo ≤ t.at' ∧ t.at' < S.length ∧ t.at' + t.text.length ≤ S.length ∧ t.text = (S.drop t.at').take t.text.length ∧ OkT S (t.at' + 1) r
theorem OkT.low {S : List Int} {lo lo' : Nat} {l : List Tk} (h : OkT S lo l) (hl : lo' ≤ lo) : OkT S lo' l := by
  cases l with
  | nil => trivial
  | cons t r => exact ⟨Nat.le_trans hl h.1, h.2⟩
theorem lexB_places (S : List Int) (f : Nat) : ∀ n p, p ≤ S.length → OkT S p (lexB f n p (S.drop p)).1 ∧ (lexB f n p (S.drop p)).2.2 ≤ S.length := by
  induction f with
  | zero => intro n p _; exact ⟨trivial, by simp [lexB]⟩
  | succ f ih =>
    intro n p hp
    have hb := lead_le blB (S.drop p)
    rw [List.length_drop] at hb
    rw [lexB]
    generalize lead blB (S.drop p) = b at *
    rw [List.drop_drop]
    split
    · exact ⟨trivial, by simp⟩
    · rename_i h0
      have hne : S.drop (p + b) ≠ [] := fun h => h0 (Or.inl h)
      have hlen : p + b < S.length := by
        have := List.length_pos_iff.2 hne
        rw [List.length_drop] at this
        omega
      obtain ⟨r1, r2, r3, r4⟩ := readW_end hne
      rw [List.length_drop] at r1 r3 r4
      split
      · exact ⟨trivial, by show p + b ≤ _; omega⟩
      · split
        · exact ⟨trivial, by show p + b + _ ≤ _; omega⟩
        · rename_i he
          obtain ⟨s1, s2, -⟩ := r1 (Decidable.not_not.1 he)
          have ih' := ih (n + 1) (p + b + (readW (S.drop (p + b))).stop) (by omega)
          rw [List.drop_drop]
          split
          · exact ⟨trivial, ih'.2⟩
          · exact ⟨⟨by show p ≤ p + b; omega, hlen, by show p + b + (readW (S.drop (p + b))).text.length ≤ _; omega, r2, ih'.1.low (by show p + b + 1 ≤ _; omega)⟩, by simp⟩
end Go.Proofs.YtnndnjffnkhpdaaDoor
