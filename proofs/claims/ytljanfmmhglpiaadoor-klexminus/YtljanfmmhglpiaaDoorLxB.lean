/-
  All words of a text, as plain mathematics: how one is read, all of them one behind the other; how far a word goes; where words stand.
-/
import Derived.Test.YtljanfmmhglpiaaDoorLxA
import Derived.Test.YtljanfmmhglpiaaDoorOwnP
import Derived.Lib.IndexMore
import Derived.Lib.Bytes
namespace Go.Proofs.YtljanfmmhglpiaaDoor
open Rn
set_option linter.unusedVariables false
/-- What is read at a place: kind, text, value, how far it goes, the error and its place. -/
structure Rd where
  kind : Int
  text : List Int
  lit : Ar
  stop : Nat
  err : Int
  ea : Nat
/-- A word: kind, text, value, place. -/
structure Tk where
  kind : Int
  text : List Int
  lit : Ar
  at' : Nat
def nilA : Ar := .mk [] []
def litN (l : List Int) : Ar := if l.length = 1 then atomA (l[0]?.getD 0) else numsA l
def readN (l : List Int) : Rd := match (strF (l.length + 1) l).2.2 with
  | some j => ⟨1, [], nilA, 0, 2, j⟩
  | none => ⟨1, [], litN (strF (l.length + 1) l).1, (strF (l.length + 1) l).2.1, 0, 0⟩
def readT (l : List Int) : Rd := match lastQ false l.tail with
  | none => ⟨2, [], nilA, 0, 2, 0⟩
  | some q => if (signF (q + 1) (l.tail.take q)).2.1 = 0 then ⟨2, [], textA (signF (q + 1) (l.tail.take q)).1, q + 2, 0, 0⟩ else ⟨2, [], nilA, 0, (signF (q + 1) (l.tail.take q)).2.1, (signF (q + 1) (l.tail.take q)).2.2 + 1⟩
/-- How far a word of letters goes. -/
def namK (l : List Int) : Nat := lead nmB l
/-- Is in no name. -/
def noB (c : Int) : Bool := decide (c = 120) || decide (c = 121) || decide (c = 122)
/-- A name, or that of an argument. -/
def namB (w : List Int) : Bool := decide (w = [120]) || decide (w = [121]) || (decide (w.length ≤ 8) && !w.any noB)
def readM (l : List Int) : Rd := if namB (l.take (namK l)) then ⟨3, l.take (namK l), nilA, namK l, 0, 0⟩ else ⟨3, [], nilA, 0, 2, 0⟩
def oneL : List Int := [43, 45, 42, 37, 38, 124, 60, 62, 61, 126, 33, 35, 95, 44, 94, 63, 64, 47, 92]
/-- The kind of the word of one byte. -/
def kind1 (c : Int) : Int := if c = 58 then 7 else if c = 40 ∨ c = 123 ∨ c = 91 then 5 else if c = 41 ∨ c = 125 ∨ c = 93 then 6 else if c ∈ oneL then 4 else 0
def readS (l : List Int) : Rd := if kind1 (l.headD 0) = 0 then ⟨0, [], nilA, 0, if oneF l = none then 3 else 2, 0⟩ else ⟨kind1 (l.headD 0), l.take 1, nilA, 1, 0, 0⟩
def readW (v : Int) (l : List Int) : Rd := if numB v l then readN l else if l.headD 0 = 34 then readT l else if ltB (l.headD 0) then readM l else readS l
/-- Does a remark begin there, with such a byte ahead? -/
def remB (v : Int) (l : List Int) : Bool := decide (l.headD 0 = 47) && decide (v = 32)
/-- The word that is read behind the blanks. -/
def wrd (v : Int) (l : List Int) : Rd := readW (ahd v l (lead blB l)) (l.drop (lead blB l))
/-- The words from a place on, so many being read already, with such a byte ahead: which, the error, its place. -/
def lexB : Nat → Nat → Nat → Int → List Int → List Tk × Int × Nat
  | 0, _, _, _, _ => ([], 0, 0)
  | f + 1, n, p, v, l =>
    if l.drop (lead blB l) = [] ∨ remB (ahd v l (lead blB l)) (l.drop (lead blB l)) = true then ([], 0, 0) else
    if ¬ (wrd v l).kind = 0 ∧ n = 2048 then ([], 14, p + lead blB l) else
    if ¬ (wrd v l).err = 0 then ([], (wrd v l).err, p + lead blB l + (wrd v l).ea) else
    if ¬ (lexB f (n + 1) (p + lead blB l + (wrd v l).stop) (ahd v l (lead blB l + (wrd v l).stop)) (l.drop (lead blB l + (wrd v l).stop))).2.1 = 0 then
      ([], (lexB f (n + 1) (p + lead blB l + (wrd v l).stop) (ahd v l (lead blB l + (wrd v l).stop)) (l.drop (lead blB l + (wrd v l).stop))).2) else
    (⟨(wrd v l).kind, (wrd v l).text, (wrd v l).lit, p + lead blB l⟩ :: (lexB f (n + 1) (p + lead blB l + (wrd v l).stop) (ahd v l (lead blB l + (wrd v l).stop)) (l.drop (lead blB l + (wrd v l).stop))).1, 0, 0)
def lexM (s : List Int) : List Tk × Int × Nat := if 8192 < s.length then ([], 14, 0) else lexB (s.length + 1) 0 0 32 s
theorem namK_le (l : List Int) : namK l ≤ l.length := lead_le _ _
theorem namK_pos {l : List Int} (h : ltB (l.headD 0) = true) : 1 ≤ namK l := by
  cases l with
  | nil => simp [ltB] at h
  | cons c t =>
    have h' : ltB c = true := h
    unfold namK
    simp only [lead]
    rw [if_pos (by unfold nmB; rw [h']; rfl)]
    omega
/-- How far a word goes. -/
theorem oneF_len {l : List Int} {n : Int} {k : Nat} (h : oneF l = some (n, k)) : 1 ≤ k ∧ k ≤ l.length := by
  cases l with
  | nil => cases h
  | cons c t =>
    simp only [oneF] at h
    split at h
    · cases h
    · split at h
      · cases h
      · split at h
        · simp at h; simp; omega
        · cases h
theorem strF_end (f : Nat) : ∀ v l, numB v l = true → (strF (f + 1) l).2.1 ≤ l.length ∧ ((strF (f + 1) l).2.2 = none → 1 ≤ (strF (f + 1) l).2.1) ∧ ∀ j, (strF (f + 1) l).2.2 = some j → j ≤ l.length := by
  induction f with
  | zero =>
    intro v l hl
    have hk := numE_pos hl
    simp only [strF]
    split
    · simp
    · split
      · simp; omega
      · have := lead_le blB (l.drop (numE l))
        rw [List.length_drop] at this
        simp; omega
  | succ f ih =>
    intro v l hl
    have hk := numE_pos hl
    rw [strF]
    split
    · simp
    · split
      · simp; omega
      · rename_i h2
        have hb := lead_le blB (l.drop (numE l))
        rw [List.length_drop] at hb
        have hn : numB 32 (l.drop (numE l + lead blB (l.drop (numE l)))) = true := by
          cases hh : numB 32 (l.drop (numE l + lead blB (l.drop (numE l)))) with
          | true => rfl
          | false => exact absurd (Or.inr hh) h2
        obtain ⟨i1, i2, i3⟩ := ih _ _ hn
        rw [List.length_drop] at i1 i3
        refine ⟨?_, fun _ => ?_, ?_⟩
        · show numE l + _ + _ ≤ _
          omega
        · show 1 ≤ numE l + _ + _
          omega
        · intro j hj
          simp only [Option.map_eq_some_iff] at hj
          obtain ⟨i, hi, rfl⟩ := hj
          have := i3 i hi
          omega
theorem lastQ_lt (t : List Int) : ∀ (e : Bool) (q : Nat), lastQ e t = some q → q < t.length := by
  induction t with
  | nil => intro e q h; simp [lastQ] at h
  | cons c t ih =>
    intro e q h
    simp only [lastQ] at h
    split at h
    · simp at h; simp; omega
    · simp only [Option.map_eq_some_iff] at h
      obtain ⟨i, hi, rfl⟩ := h
      have := ih _ i hi
      simp; omega
/-- A sign within a text that is none wrong has bytes. -/
theorem sgF_len {l : List Int} (h : (sgF l).2.2 = 0) : 1 ≤ (sgF l).2.1 ∧ (sgF l).2.1 ≤ l.length := by
  unfold sgF at h ⊢
  cases h1 : oneF l with
  | none => rw [h1] at h; simp at h
  | some r =>
    obtain ⟨n, k⟩ := r
    have hk := oneF_len h1
    rw [h1] at h
    simp only at h ⊢
    split
    · rename_i h2; rw [if_pos h2] at h; simp at h
    · rename_i h2
      rw [if_neg h2] at h
      split
      · exact hk
      · rename_i h3
        rw [if_neg h3] at h
        split
        · rename_i h4
          refine ⟨by simp, ?_⟩
          match l, h4 with
          | [], h4 => simp [escB] at h4
          | [c], h4 => simp [escB] at h4
          | c :: d :: t, h4 => simp
        · rename_i h4; rw [if_neg h4] at h; simp at h
theorem signF_place (f : Nat) : ∀ l, ¬ (signF f l).2.1 = 0 → (signF f l).2.2 < l.length := by
  induction f with
  | zero => intro l h; simp [signF] at h
  | succ f ih =>
    intro l h
    rw [signF] at h ⊢
    split at h
    · simp at h
    · rename_i hl
      have hl' : 0 < l.length := List.length_pos_iff.2 hl
      rw [if_neg hl]
      split
      · simpa using hl'
      · rename_i hn
        rw [if_neg hn] at h
        simp only at h
        have := ih _ h
        rw [List.length_drop] at this
        show _ + _ < _
        omega
theorem readW_end {v : Int} {l : List Int} (hl : l ≠ []) : ((readW v l).err = 0 → 1 ≤ (readW v l).stop ∧ (readW v l).stop ≤ l.length ∧ ¬ (readW v l).kind = 0) ∧ (readW v l).text = l.take (readW v l).text.length ∧ (readW v l).text.length ≤ l.length ∧ (readW v l).ea ≤ l.length := by
  have hl' : 0 < l.length := List.length_pos_iff.2 hl
  unfold readW
  split
  · rename_i hn
    obtain ⟨i1, i2, i3⟩ := strF_end l.length v l hn
    unfold readN
    split
    · rename_i j hj
      exact ⟨by simp, by simp, by simp, i3 j hj⟩
    · rename_i hj
      exact ⟨fun _ => ⟨i2 hj, i1, by simp⟩, by simp, by simp, by simp⟩
  · split
    · unfold readT
      split
      · exact ⟨by simp, by simp, by simp, by simp⟩
      · rename_i q hq
        have := lastQ_lt _ _ _ hq
        rw [List.length_tail] at this
        split
        · exact ⟨fun _ => ⟨by simp, by simp; omega, by simp⟩, by simp, by simp, by simp⟩
        · rename_i he
          have hp := signF_place _ _ he
          rw [List.length_take, List.length_tail] at hp
          exact ⟨fun h => absurd h he, by simp, by simp, by show _ + 1 ≤ _; omega⟩
    · split
      · rename_i hlt
        unfold readM
        have k1 := namK_pos hlt
        have k2 := namK_le l
        split
        · exact ⟨fun _ => ⟨k1, k2, by simp⟩, by simp, by simp; omega, by simp⟩
        · exact ⟨by simp, by simp, by simp, by simp⟩
      · unfold readS
        split
        · refine ⟨?_, by simp, by simp, by simp⟩
          simp only
          split <;> simp
        · rename_i hk
          exact ⟨fun _ => ⟨by simp, hl', hk⟩, by simp, by simp; omega, by simp⟩
/-- All further on. -/
def shT (d : Nat) (q : List Tk × Int × Nat) : List Tk × Int × Nat := (q.1.map fun t => ⟨t.kind, t.text, t.lit, t.at' + d⟩, q.2.1, if q.2.1 = 0 then q.2.2 else q.2.2 + d)
theorem lexB_zero (f : Nat) : ∀ n p v l, (lexB f n p v l).2.1 = 0 → (lexB f n p v l).2.2 = 0 := by
  cases f with
  | zero => intro n p v l _; rfl
  | succ f =>
    intro n p v l
    rw [lexB]
    split
    · simp
    · split
      · simp
      · split
        · rename_i h; exact fun h' => absurd h' h
        · split
          · rename_i h; exact fun h' => absurd h' h
          · simp
theorem lexB_shift (d f : Nat) : ∀ n p v l, lexB f n (p + d) v l = shT d (lexB f n p v l) := by
  induction f with
  | zero => intro n p v l; rfl
  | succ f ih =>
    intro n p v l
    rw [lexB, lexB]
    have e : p + d + lead blB l + (wrd v l).stop = p + lead blB l + (wrd v l).stop + d := by omega
    rw [e, ih]
    generalize lexB f (n + 1) (p + lead blB l + (wrd v l).stop) (ahd v l (lead blB l + (wrd v l).stop)) (l.drop (lead blB l + (wrd v l).stop)) = q
    split
    · rfl
    · split
      · simp [shT]; omega
      · split
        · rename_i h
          simp [shT, h]; omega
        · have e2 : (shT d q).2.1 = q.2.1 := rfl
          rw [e2]
          split
          · rename_i h
            simp [shT, h]
          · simp [shT]; omega
/-- Words that stand in a text, one behind the other. -/
def OkT (S : List Int) : Nat → List Tk → Prop
  | _, [] => True
  | lo, t :: r => lo ≤ t.at' ∧ t.at' < S.length ∧ t.at' + t.text.length ≤ S.length ∧ t.text = (S.drop t.at').take t.text.length ∧ OkT S (t.at' + 1) r
theorem OkT.low {S : List Int} {lo lo' : Nat} {l : List Tk} (h : OkT S lo l) (hl : lo' ≤ lo) : OkT S lo' l := by
  cases l with
  | nil => trivial
  | cons t r => exact ⟨Nat.le_trans hl h.1, h.2⟩
theorem lexB_places (S : List Int) (f : Nat) : ∀ n p v, p ≤ S.length → OkT S p (lexB f n p v (S.drop p)).1 ∧ (lexB f n p v (S.drop p)).2.2 ≤ S.length := by
  induction f with
  | zero => intro n p v _; exact ⟨trivial, by simp [lexB]⟩
  | succ f ih =>
    intro n p v hp
    have hb := lead_le blB (S.drop p)
    rw [List.length_drop] at hb
    rw [lexB]
    unfold wrd
    generalize lead blB (S.drop p) = b at *
    simp only [List.drop_drop]
    split
    · exact ⟨trivial, by simp⟩
    · rename_i h0
      have hne : S.drop (p + b) ≠ [] := fun h => h0 (Or.inl h)
      have hlen : p + b < S.length := by
        have := List.length_pos_iff.2 hne
        rw [List.length_drop] at this
        omega
      obtain ⟨r1, r2, r3, r4⟩ := readW_end (v := ahd v (S.drop p) b) hne
      rw [List.length_drop] at r1 r3 r4
      generalize hR : readW (ahd v (S.drop p) b) (S.drop (p + b)) = R at *
      split
      · exact ⟨trivial, by show p + b ≤ _; omega⟩
      · split
        · exact ⟨trivial, by show p + b + _ ≤ _; omega⟩
        · rename_i he
          obtain ⟨s1, s2, -⟩ := r1 (Decidable.not_not.1 he)
          have ih' := ih (n + 1) (p + b + R.stop) (ahd v (S.drop p) (b + R.stop)) (by omega)
          rw [show p + (b + R.stop) = p + b + R.stop by omega]
          split
          · exact ⟨trivial, ih'.2⟩
          · exact ⟨⟨by show p ≤ p + b; omega, hlen, by show p + b + R.text.length ≤ _; omega, r2, ih'.1.low (by show p + b + 1 ≤ _; omega)⟩, by simp⟩
end Go.Proofs.YtljanfmmhglpiaaDoor
