/-
  The words of the third dialect as plain mathematics: what stands at the head of bytes, and all words of a text; no program is named.
-/
import Derived.Test.YtljanfmmhglpiaaDoorRnB
namespace Go.Proofs.YtljanfmmhglpiaaDoor
open Rn
set_option linter.unusedVariables false
/-- The sign at the head of bytes, and how many bytes it has. -/
def oneF : List Int → Option (Int × Nat)
  | [] => none
  | c :: t => if fM c = -1 then none else if t.length < (fM c).toNat then none else
    if ((t.take (fM c).toNat).all fun d => decide (128 ≤ d) && decide (d < 192)) && decide (least (fM c).toNat ≤ acc (fV c) (t.take (fM c).toNat)) && decide (Good (acc (fV c) (t.take (fM c).toNat))) then some (acc (fV c) (t.take (fM c).toNat), (fM c).toNat + 1) else none
theorem oneF_put {m : Int} {r : List Int} (hm : Good m) : oneF (put m ++ r) = some (m, wid m) := by
  obtain ⟨c, t, hct⟩ : ∃ c t, put m ++ r = c :: t := by
    cases h : put m ++ r with
    | nil => exact absurd (List.append_eq_nil_iff.1 h).1 put_ne
    | cons c t => exact ⟨c, t, rfl⟩
  obtain ⟨h1, h2, h3, h4, h5⟩ := yes_facts hm hct.symm
  have hw := wid_pos m
  have e : (fM c).toNat = wid m - 1 := by omega
  have hall : (t.take (wid m - 1)).all (fun d => decide (128 ≤ d) && decide (d < 192)) = true := by
    rw [List.all_eq_true]
    intro d hd
    obtain ⟨j, hj, rfl⟩ := List.getElem_of_mem hd
    have hj' : j < wid m - 1 ∧ j < t.length := by
      have := hj
      simp at this
      omega
    have := h3 j hj'.1
    rw [List.getD_eq_getElem?_getD, List.getElem?_eq_getElem hj'.2] at this
    simp only [List.getElem_take, Option.getD_some] at this ⊢
    have := this
    simp [Cont] at this
    simp [this]
  rw [hct]
  simp only [oneF]
  rw [if_neg (by omega), e, if_neg (by omega), hall, h4]
  simp [h5, hm]
  omega
theorem oneF_none {l : List Int} (hl : ∀ z ∈ l, Byte z) (h : NoSign l) : oneF l = none := by
  cases l with
  | nil => rfl
  | cons c t =>
    have hc := hl c (by simp)
    simp only [oneF]
    split
    · rfl
    · rename_i h1
      split
      · rfl
      · rename_i h2
        split
        · rename_i h3
          exfalso
          simp only [Bool.and_eq_true, List.all_eq_true, decide_eq_true_eq] at h3
          obtain ⟨⟨h3, h4⟩, h5⟩ := h3
          have hr := fM_rng c
          have hM : fM c = ((fM c).toNat : Int) := by omega
          have hcont : ∀ j, j < (fM c).toNat → Cont (t.getD j 0) := by
            intro j hj
            have hjt : j < t.length := by omega
            have := h3 (t.getD j 0) (by
              rw [List.getD_eq_getElem?_getD, List.getElem?_eq_getElem hjt]
              simp only [Option.getD_some]
              exact List.mem_of_getElem? (i := j) (by rw [List.getElem?_take, if_pos hj, List.getElem?_eq_getElem hjt]))
            exact this
          exact h _ _ h5 (yes_of hc.1 hc.2 hM (by omega) hcont h4 h5).1
        · rfl
theorem oneF_some {l : List Int} (hl : ∀ z ∈ l, Byte z) {n : Int} {k : Nat} (h : oneF l = some (n, k)) : Good n ∧ k = wid n ∧ ∃ r, l = put n ++ r := by
  by_cases hs : NoSign l
  · rw [oneF_none hl hs] at h; cases h
  · unfold NoSign at hs
    have hs : ∃ m r, Good m ∧ l = put m ++ r := by
      refine Classical.byContradiction fun hn => hs fun m r hm e => hn ⟨m, r, hm, e⟩
    obtain ⟨m, r, hm, rfl⟩ := hs
    rw [oneF_put hm] at h
    cases h
    exact ⟨hm, rfl, r, rfl⟩
def dgB (c : Int) : Bool := decide (48 ≤ c) && decide (c ≤ 57)
def ltB (c : Int) : Bool := decide (97 ≤ c) && decide (c ≤ 122)
def blB (c : Int) : Bool := decide (c = 32)
def nmB (c : Int) : Bool := ltB c || dgB c
/-- How many at the head are so. -/
def lead (p : Int → Bool) : List Int → Nat
  | [] => 0
  | c :: t => if p c then lead p t + 1 else 0
theorem lead_le (p : Int → Bool) (l : List Int) : lead p l ≤ l.length := by
  induction l with
  | nil => simp [lead]
  | cons c t ih => simp only [lead]; split <;> simp <;> omega
theorem lead_stop (p : Int → Bool) (l : List Int) (c : Int) (t : List Int) (h : l.drop (lead p l) = c :: t) : p c = false := by
  induction l with
  | nil => simp [lead] at h
  | cons d s ih =>
    simp only [lead] at h
    split at h
    · exact ih (by simpa using h)
    · rename_i hd
      simp at h
      rw [← h.1]
      simpa using hd
/-- What is behind them plays no part, if it is not so at once. -/
def headN (p : Int → Bool) : List Int → Prop
  | [] => True
  | c :: _ => p c = false
theorem lead_more (p : Int → Bool) (l x : List Int) (hx : headN p x) : lead p (l ++ x) = lead p l := by
  induction l with
  | nil =>
    cases x with
    | nil => rfl
    | cons c t => simp only [List.nil_append, lead]; rw [if_neg (by simpa [headN] using hx)]
  | cons d s ih => simp only [List.cons_append, lead]; rw [ih]
def minL : List Int := [45]
def hasP (l w : List Int) : Bool := w.isPrefixOf l
theorem hasP_iff {l w : List Int} : hasP l w = true ↔ ∃ r, l = w ++ r := by
  unfold hasP
  rw [List.isPrefixOf_iff_prefix]
  exact ⟨fun ⟨r, h⟩ => ⟨r, h.symm⟩, fun ⟨r, h⟩ => ⟨r, h.symm⟩⟩
theorem hasP_len {l w : List Int} (h : hasP l w = true) : w.length ≤ l.length := by
  obtain ⟨r, rfl⟩ := hasP_iff.1 h
  simp
/-- Does a number begin there? Where do its digits; which is it; where does it end; does it fit? -/
def offM (l : List Int) : Nat := if hasP l minL then 1 else 0
/-- A byte with which an operand may end. -/
def opB (c : Int) : Bool := ltB c || dgB c || decide (c = 41) || decide (c = 93) || decide (c = 125) || decide (c = 34)
/-- The byte ahead of what is left, so many being read: v where none is. -/
def ahd (v : Int) (l : List Int) (k : Nat) : Int := if k = 0 then v else l[k - 1]?.getD 32
theorem ahd_zero (v : Int) (l : List Int) : ahd v l 0 = v := rfl
theorem ahd_drop (v : Int) (l : List Int) (j k : Nat) : ahd (ahd v l j) (l.drop j) k = ahd v l (j + k) := by
  unfold ahd
  by_cases hk : k = 0
  · subst hk; simp
  · rw [if_neg hk, if_neg (by omega), List.getElem?_drop, show j + (k - 1) = j + k - 1 by omega]
theorem ahd_app {v : Int} {l x : List Int} {k : Nat} (h : k ≤ l.length) : ahd v (l ++ x) k = ahd v l k := by
  unfold ahd
  by_cases hk : k = 0
  · rw [if_pos hk, if_pos hk]
  · rw [if_neg hk, if_neg hk, List.getElem?_append_left (by omega)]
/-- Behind blanks stands a blank. -/
theorem lead_at (p : Int → Bool) (l : List Int) (i : Nat) (h : i < lead p l) : p (l[i]?.getD 32) = true := by
  induction l generalizing i with
  | nil => simp [lead] at h
  | cons c t ih =>
    simp only [lead] at h
    split at h
    · rename_i hc
      cases i with
      | zero => simpa using hc
      | succ i => simpa using ih i (by omega)
    · omega
theorem ahd_bl (v : Int) (l : List Int) (h : ¬ lead blB l = 0) : ahd v l (lead blB l) = 32 := by
  unfold ahd
  rw [if_neg h]
  have := lead_at blB l (lead blB l - 1) (by omega)
  simpa [blB] using this
/-- Does a number begin there, with such a byte ahead? -/
def numB (v : Int) (l : List Int) : Bool := match l.drop (offM l) with
  | [] => false
  | c :: _ => dgB c && !(hasP l minL && opB v)
def decV (ds : List Int) : Int := ds.foldl (fun n c => n * 10 + (c - 48)) 0
def digL (l : List Int) : List Int := (l.drop (offM l)).take (lead dgB (l.drop (offM l)))
def numV (l : List Int) : Int := if hasP l minL then - decV (digL l) else decV (digL l)
def numE (l : List Int) : Nat := offM l + lead dgB (l.drop (offM l))
def fits (z : Int) : Bool := decide (-9223372036854775808 ≤ z) && decide (z ≤ 9223372036854775807)
theorem numB_at {v : Int} {l : List Int} (h : numB v l = true) : ∃ c t, l.drop (offM l) = c :: t ∧ dgB c = true := by
  unfold numB at h
  cases hd : l.drop (offM l) with
  | nil => rw [hd] at h; cases h
  | cons c t => rw [hd] at h; simp only [Bool.and_eq_true] at h; exact ⟨c, t, rfl, h.1⟩
theorem numE_pos {v : Int} {l : List Int} (h : numB v l = true) : offM l < numE l ∧ numE l ≤ l.length := by
  obtain ⟨c, t, hd, hc⟩ := numB_at h
  have h1 := lead_le dgB (l.drop (offM l))
  have h2 : (l.drop (offM l)).length = t.length + 1 := by rw [hd]; rfl
  rw [List.length_drop] at h1 h2
  unfold numE
  have h3 : 0 < lead dgB (l.drop (offM l)) := by rw [hd]; simp [lead, hc]
  omega
/-- Numbers that stand together: which, where they end, where one does not fit. -/
def strF : Nat → List Int → List Int × Nat × Option Nat
  | 0, _ => ([], 0, none)
  | f + 1, l =>
    if fits (numV l) = false then ([], 0, some 0) else
    if lead blB (l.drop (numE l)) = 0 ∨ numB 32 (l.drop (numE l + lead blB (l.drop (numE l)))) = false then ([numV l], numE l, none) else
    (numV l :: (strF f (l.drop (numE l + lead blB (l.drop (numE l))))).1, numE l + lead blB (l.drop (numE l)) + (strF f (l.drop (numE l + lead blB (l.drop (numE l))))).2.1,
      (strF f (l.drop (numE l + lead blB (l.drop (numE l))))).2.2.map (· + (numE l + lead blB (l.drop (numE l)))))
/-- Where a text ends, of what stands behind its first sign; e: the byte ahead takes from the next one what that says by itself. -/
def lastQ : Bool → List Int → Option Nat
  | _, [] => none
  | e, c :: t => if e = false ∧ c = 34 then some 0 else (lastQ (!e && decide (c = 92)) t).map (· + 1)
def escB (c : Int) : Bool := decide (c = 34) || decide (c = 92)
/-- The sign that the first bytes within a text stand for, how many these are, the error. -/
def sgF (l : List Int) : Int × Nat × Int := match oneF l with
  | none => (0, 0, 3)
  | some (n, k) => if n < 32 ∨ n = 127 then (0, 0, 2) else if ¬ n = 92 then (n, k, 0) else if escB (l.tail.headD 0) then (l.tail.headD 0, 2, 0) else (0, 0, 2)
/-- The signs of a text: which, the error, its place. -/
def signF : Nat → List Int → List Int × Int × Nat
  | 0, _ => ([], 0, 0)
  | f + 1, l => if l = [] then ([], 0, 0) else if ¬ (sgF l).2.2 = 0 then ([], (sgF l).2.2, 0) else
    ((sgF l).1 :: (signF f (l.drop (sgF l).2.1)).1, (signF f (l.drop (sgF l).2.1)).2.1, (signF f (l.drop (sgF l).2.1)).2.2 + (sgF l).2.1)
end Go.Proofs.YtljanfmmhglpiaaDoor
