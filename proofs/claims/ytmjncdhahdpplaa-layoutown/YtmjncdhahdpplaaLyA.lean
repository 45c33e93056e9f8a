/-
  Layer 5's plain mathematics: steps along axes, places turned round, shapes that may be, arrays made of others' cells; no program is named.
-/
import Derived.Test.YtmjncdhahdpplaaOwnAB
import Derived.Test.YtmjncdhahdpplaaOwnU
import Derived.Test.YtmjncdhahdpplaaOwnZ
namespace Go.Proofs.Ytmjncdhahdpplaa
open Go.ChangeShapes Go.WideShapes Go.ChangeAt Go.RowKit
set_option linter.unusedVariables false
set_option maxRecDepth 100000
def gI (l : List Int) (i : Nat) : Int := l[i]?.getD 0
theorem gI_set (l : List Int) (k i : Nat) (v : Int) (hk : k < l.length) : gI (l.set k v) i = if i = k then v else gI l i := by
  unfold gI
  rw [List.getElem?_set]
  by_cases h : k = i
  · subst h; simp [hk]
  · have h' : ¬ i = k := fun h' => h h'.symm
    rw [if_neg h, if_neg h']
theorem gI_rev (l : List Int) (i : Nat) (hi : i < l.length) : gI l.reverse i = gI l (l.length - 1 - i) := by
  unfold gI
  rw [List.getElem?_reverse hi]
theorem gI_ext {l m : List Int} (h : l.length = m.length) (h2 : ∀ i, i < l.length → gI l i = gI m i) : l = m := by
  refine List.ext_getElem? fun i => ?_
  by_cases hi : i < l.length
  · have := h2 i hi
    unfold gI at this
    rw [List.getElem?_eq_getElem hi, List.getElem?_eq_getElem (by omega)] at this ⊢
    simpa using this
  · rw [List.getElem?_eq_none (by omega), List.getElem?_eq_none (by omega)]
theorem inAxes_gI (l d : List Int) : inAxes l d ↔ d.length = l.length ∧ ∀ i, i < l.length → 0 ≤ gI d i ∧ gI d i < gI l i := inAxes_iff l d
/-- A step along each axis. -/
def strL : List Int → List Int
  | [] => []
  | _ :: l => prodL l :: strL l
def dot : List Int → List Int → Int
  | s :: ss, a :: ta => s * a + dot ss ta
  | _, _ => 0
theorem strL_length (l : List Int) : (strL l).length = l.length := by
  induction l with
  | nil => rfl
  | cons s ss ih => simp [strL, ih]
theorem strL_at (l : List Int) (k : Nat) (hk : k < l.length) : gI (strL l) k = prodL (l.drop (k + 1)) := by
  induction l generalizing k with
  | nil => simp at hk
  | cons s ss ih =>
    cases k with
    | zero => simp [strL, gI]
    | succ k => simpa [strL, gI] using ih k (by simpa using hk)
theorem drop_prod (l : List Int) (k : Nat) (hk : k < l.length) : prodL (l.drop k) = gI l k * prodL (l.drop (k + 1)) := by
  rw [List.drop_eq_getElem_cons hk]
  simp [prodL, gI, hk]
theorem place_dot (l d : List Int) (h : d.length = l.length) : place l d = dot (strL l) d := by
  induction l generalizing d with
  | nil =>
    cases d with
    | nil => rfl
    | cons a ta => simp at h
  | cons s ss ih =>
    cases d with
    | nil => simp at h
    | cons a ta => simp only [place, strL, dot]; rw [ih ta (by simpa using h), Int.mul_comm]
theorem dot_set (s d : List Int) (k : Nat) (v : Int) (hs : k < s.length) (hd : k < d.length) : dot s (d.set k v) = dot s d + gI s k * (v - gI d k) := by
  induction s generalizing d k with
  | nil => simp at hs
  | cons x xs ih =>
    cases d with
    | nil => simp at hd
    | cons a ta =>
      cases k with
      | zero => simp only [List.set_cons_zero, dot, gI, List.getElem?_cons_zero, Option.getD_some, Int.mul_sub]; omega
      | succ k =>
        have := ih ta k (by simpa using hs) (by simpa using hd)
        simp only [List.set_cons_succ, dot, gI, List.getElem?_cons_succ] at this ⊢
        rw [this]; omega
theorem dot_neg (s d : List Int) (k : Nat) (hs : k < s.length) (hd : k < d.length) : dot (s.set k (-gI s k)) d = dot s d - 2 * (gI s k * gI d k) := by
  induction s generalizing d k with
  | nil => simp at hs
  | cons x xs ih =>
    cases d with
    | nil => simp at hd
    | cons a ta =>
      cases k with
      | zero => simp only [List.set_cons_zero, dot, gI, List.getElem?_cons_zero, Option.getD_some, Int.neg_mul]; omega
      | succ k =>
        have := ih ta k (by simpa using hs) (by simpa using hd)
        simp only [List.set_cons_succ, dot, gI, List.getElem?_cons_succ] at this ⊢
        rw [this]; omega
theorem dot_snoc (s d : List Int) (x y : Int) (h : s.length = d.length) : dot (s ++ [x]) (d ++ [y]) = dot s d + x * y := by
  induction s generalizing d with
  | nil =>
    cases d with
    | nil => simp [dot]
    | cons a ta => simp at h
  | cons z zs ih =>
    cases d with
    | nil => simp at h
    | cons a ta =>
      simp only [List.cons_append, dot]
      rw [ih ta (by simpa using h)]; omega
theorem dot_rev (s d : List Int) (h : s.length = d.length) : dot s.reverse d = dot s d.reverse := by
  induction s generalizing d with
  | nil =>
    have : d = [] := List.eq_nil_of_length_eq_zero (by simpa using h.symm)
    subst this; rfl
  | cons x xs ih =>
    obtain ⟨e, y, rfl⟩ : ∃ e y, d = e ++ [y] := by
      refine ⟨d.dropLast, d.getLast (by rintro rfl; simp at h), (List.dropLast_concat_getLast _).symm⟩
    rw [List.reverse_cons, dot_snoc _ _ _ _ (by simp at h ⊢; omega), List.reverse_append]
    simp only [List.reverse_cons, List.reverse_nil, List.nil_append, List.cons_append, dot]
    rw [ih e (by simp at h; omega)]; omega
theorem dot_empty (s : List Int) : dot s [] = 0 := by cases s <;> rfl
theorem dot_zero (s : List Int) (m : Nat) : dot s (List.replicate m 0) = 0 := by
  induction s generalizing m with
  | nil => cases m <;> rfl
  | cons x xs ih =>
    cases m with
    | zero => rfl
    | succ m => simp [List.replicate_succ, dot, ih]
/-- A place turned round along an axis. -/
def turnL (l d : List Int) (k : Nat) : List Int := d.set k (gI l k - 1 - gI d k)
theorem turn_in {l d : List Int} (k : Nat) (hk : k < l.length) (h : inAxes l d) : inAxes l (turnL l d k) := by
  rw [inAxes_gI] at h ⊢
  refine ⟨by simp [turnL, h.1], fun i hi => ?_⟩
  unfold turnL
  rw [gI_set _ _ _ _ (by omega)]
  have := h.2 i hi
  by_cases hik : i = k
  · subst hik; rw [if_pos rfl]; omega
  · rw [if_neg hik]; exact this
theorem turn_turn {l d : List Int} (k : Nat) (hk : k < l.length) (h : d.length = l.length) : turnL l (turnL l d k) k = d := by
  refine gI_ext (by simp [turnL]) fun i hi => ?_
  have hd : k < d.length := by omega
  unfold turnL
  rw [gI_set _ _ _ _ (by simpa using hd), gI_set _ _ _ _ hd, gI_set _ _ _ _ hd, if_pos rfl]
  by_cases hik : i = k
  · subst hik; rw [if_pos rfl]; omega
  · rw [if_neg hik, if_neg hik]
/-- Turned steps lead to the turned place. -/
theorem turn_place {l d : List Int} (k : Nat) (hk : k < l.length) (h : d.length = l.length) : gI (strL l) k * (gI l k - 1) + dot ((strL l).set k (-gI (strL l) k)) d = place l (turnL l d k) := by
  have hs : k < (strL l).length := by rw [strL_length]; exact hk
  rw [place_dot l _ (by simp [turnL, h]), dot_neg _ _ _ hs (by omega)]
  unfold turnL
  rw [dot_set _ _ _ _ hs (by omega)]
  generalize gI (strL l) k = s
  generalize gI d k = x
  generalize dot (strL l) d = D
  have e : s * (gI l k - 1 - x - x) = s * (gI l k - 1) - s * x - s * x := by rw [Int.mul_sub, Int.mul_sub]
  rw [e]
  omega
theorem rev_in {l d : List Int} (h : inAxes l.reverse d) : inAxes l d.reverse := by
  rw [inAxes_gI] at h ⊢
  simp only [List.length_reverse] at h ⊢
  refine ⟨h.1, fun i hi => ?_⟩
  have := h.2 (l.length - 1 - i) (by omega)
  rw [gI_rev d i (by omega), h.1]
  rw [gI_rev l _ (by omega)] at this
  have e : l.length - 1 - (l.length - 1 - i) = i := by omega
  rw [e] at this
  exact this
theorem rev_in' {l d : List Int} (h : inAxes l d) : inAxes l.reverse d.reverse := rev_in (by simpa using h)
theorem rev_place {l d : List Int} (h : d.length = l.length) : dot (strL l).reverse d = place l d.reverse := by
  rw [place_dot l _ (by simpa using h), dot_rev _ _ (by rw [strL_length, h])]
theorem prodL_rev (l : List Int) : prodL l.reverse = prodL l := by
  induction l with
  | nil => rfl
  | cons x xs ih => rw [List.reverse_cons, prodL_append, ih]; simp [prodL, Int.mul_comm]
theorem strL_le {l : List Int} (h : ∀ z ∈ l, 0 < z) (k : Nat) (hk : k < l.length) : 1 ≤ gI (strL l) k ∧ gI (strL l) k ≤ prodL l := by
  rw [strL_at l k hk]
  have h1 := prodL_pos (l := l.drop (k + 1)) fun z hz => h z (List.mem_of_mem_drop hz)
  have h2 := prodL_pos (l := l.take (k + 1)) fun z hz => h z (List.mem_of_mem_take hz)
  refine ⟨h1, ?_⟩
  have e : prodL l = prodL (l.take (k + 1)) * prodL (l.drop (k + 1)) := by rw [← prodL_append, List.take_append_drop]
  rw [e]
  have := Int.mul_le_mul_of_nonneg_right h2 (show 0 ≤ prodL (l.drop (k + 1)) by omega)
  omega
/-- One more: the odometer's steps, from the last axis on. -/
theorem tick_done {l A : List Int} {k : Nat} {i : Int} (hk : k < l.length) (hA : inAxes l A) (hi : place l A + prodL (l.drop (k + 1)) = i + 1) (hlt : gI A k + 1 < gI l k) : inAxes l (A.set k (gI A k + 1)) ∧ A.set k (gI A k + 1) = digits l (i + 1) := by
  have hA' := (inAxes_gI l A).1 hA
  have hin : inAxes l (A.set k (gI A k + 1)) := by
    rw [inAxes_gI]
    refine ⟨by simp [hA'.1], fun j hj => ?_⟩
    rw [gI_set _ _ _ _ (by omega)]
    have := hA'.2 j hj
    by_cases hjk : j = k
    · subst hjk; rw [if_pos rfl]; omega
    · rw [if_neg hjk]; exact this
  refine ⟨hin, ?_⟩
  rw [← digits_place hin]
  congr 1
  rw [place_dot _ _ (by simp [hA'.1]), dot_set _ _ _ _ (by rw [strL_length]; exact hk) (by omega), ← place_dot _ _ hA'.1, strL_at l k hk, ← hi]
  have e : gI A k + 1 - gI A k = 1 := by omega
  rw [e]; omega
theorem tick_on {l A : List Int} {k : Nat} {i : Int} (hk : k < l.length) (hA : inAxes l A) (hi : place l A + prodL (l.drop (k + 1)) = i + 1) (hlt : ¬ gI A k + 1 < gI l k) : inAxes l (A.set k 0) ∧ place l (A.set k 0) + prodL (l.drop k) = i + 1 := by
  have hA' := (inAxes_gI l A).1 hA
  have hAk := hA'.2 k hk
  refine ⟨?_, ?_⟩
  · rw [inAxes_gI]
    refine ⟨by simp [hA'.1], fun j hj => ?_⟩
    rw [gI_set _ _ _ _ (by omega)]
    have := hA'.2 j hj
    by_cases hjk : j = k
    · subst hjk; rw [if_pos rfl]; omega
    · rw [if_neg hjk]; exact this
  · rw [place_dot _ _ (by simp [hA'.1]), dot_set _ _ _ _ (by rw [strL_length]; exact hk) (by omega), ← place_dot _ _ hA'.1, strL_at l k hk, drop_prod l k hk, ← hi]
    have e : gI l k = gI A k + 1 := by omega
    rw [e]
    generalize prodL (l.drop (k + 1)) = P
    generalize gI A k = x
    rw [Int.mul_sub, Int.add_mul, Int.mul_comm P x]
    omega
theorem digits_zero (l : List Int) : digits l 0 = List.replicate l.length 0 := by
  induction l with
  | nil => rfl
  | cons s ss ih => simp [digits, ih, List.replicate_succ]
/-- Shapes that may be. -/
theorem fine_cases {l : List Int} (h : sizeE l = 0) : l.length ≤ 8 ∧ (∀ z ∈ l, 0 ≤ z) ∧ ((hasZero l ∧ sizeV l = 0) ∨ ((∀ z ∈ l, 0 < z) ∧ prodL l ≤ 16384 ∧ sizeV l = prodL l)) := by
  obtain ⟨s1, s2, s3⟩ := sizeE_ok h
  refine ⟨by omega, fun z hz => ?_, ?_⟩
  · rcases Int.lt_or_le z 0 with hlt | hle
    · exact absurd ⟨z, hz, hlt⟩ s2
    · exact hle
  · rcases s3 with s3 | ⟨s3, s4⟩
    · exact Or.inl ⟨s3, (size_zero s1 s2 s3).1⟩
    · exact Or.inr ⟨all_pos s2 s3, by omega, (size_ok s1 s2 s3 (by omega)).1⟩
theorem prodL_zero {l : List Int} (h : hasZero l) : prodL l = 0 := by
  obtain ⟨z, hz, rfl⟩ := h
  induction l with
  | nil => simp at hz
  | cons s ss ih =>
    simp only [prodL]
    rcases List.mem_cons.1 hz with h | h
    · rw [← h]; simp
    · rw [ih h]; simp
theorem fine_mk {l : List Int} (h1 : l.length ≤ 8) (h2 : ∀ z ∈ l, 0 ≤ z) (h3 : hasZero l ∨ prodL l ≤ 16384) : sizeE l = 0 ∧ sizeV l = prodL l := by
  have hn : ¬ hasNeg l := by rintro ⟨z, hz, h⟩; have := h2 z hz; omega
  by_cases h0 : hasZero l
  · have := size_zero (by omega) hn h0
    refine ⟨this.2, ?_⟩
    rw [this.1]
    exact (prodL_zero h0).symm
  · rcases h3 with h3 | h3
    · exact absurd h3 h0
    · have := size_ok (by omega) hn h0 (by omega)
      exact ⟨this.2, this.1⟩
theorem sizeV_prod {l : List Int} (h : sizeE l = 0) : sizeV l = prodL l := by
  obtain ⟨h1, h2, h3⟩ := fine_cases h
  exact (fine_mk h1 h2 (h3.elim (fun h => Or.inl h.1) fun h => Or.inr h.2.1)).2
theorem sizeV_le {l : List Int} (h : sizeE l = 0) : 0 ≤ sizeV l ∧ sizeV l ≤ 16384 := by
  obtain ⟨h1, h2, h3⟩ := fine_cases h
  rcases h3 with ⟨-, h3⟩ | ⟨h3, h4, h5⟩
  · omega
  · have := prodL_pos h3; omega
theorem chkB_iff (f : Ar → Int) (x : Ar) : chkB f x = 0 ↔ sizeE x.shape = 0 ∧ sizeV x.shape = x.cells.length ∧ ¬ hasLong x.shape ∧ ∀ i, i < x.cells.length → chkC f (cAt x.cells i) = 0 := by
  unfold chkB
  constructor
  · intro h
    by_cases h1 : sizeE x.shape = 0
    · rw [if_neg (fun k => k h1)] at h
      by_cases h2 : sizeV x.shape = x.cells.length
      · rw [if_neg (fun k => k h2)] at h
        by_cases h3 : hasLong x.shape
        · rw [if_pos h3] at h; omega
        · rw [if_neg h3] at h; exact ⟨h1, h2, h3, firstUp_none h⟩
      · rw [if_pos h2] at h; omega
    · rw [if_pos h1] at h; exact absurd h h1
  · rintro ⟨h1, h2, h3, h4⟩
    rw [if_neg (fun k => k h1), if_neg (fun k => k h2), if_neg h3]
    exact firstUp_all h4
def inF : Nat → Ar → Int
  | 0, _ => 15
  | r + 1, y => chkA r y
theorem chkA_iff (r : Nat) (x : Ar) : chkA r x = 0 ↔ sizeE x.shape = 0 ∧ sizeV x.shape = x.cells.length ∧ ¬ hasLong x.shape ∧ ∀ i, i < x.cells.length → chkC (inF r) (cAt x.cells i) = 0 := by
  cases r with
  | zero => exact chkB_iff _ x
  | succ r => exact chkB_iff _ x
theorem chkC_iff (f : Ar → Int) (c : Ce) : chkC f c = 0 ↔ (c.1 = 2 ∧ c.2.1 = 0 ∧ c.2.2.length = 1 ∧ f (bAt c.2.2 0) = 0) ∨ (c.2.2.length = 0 ∧ (c.1 = 0 ∨ c.1 = 1 ∧ Good c.2.1)) := by
  unfold chkC
  by_cases h1 : c.1 = 2 ∧ c.2.1 = 0 ∧ c.2.2.length = 1
  · rw [if_pos h1]
    obtain ⟨a, b, d⟩ := h1
    constructor
    · intro h; exact Or.inl ⟨a, b, d, h⟩
    · rintro (⟨-, -, -, h⟩ | ⟨h, -⟩)
      · exact h
      · omega
  · rw [if_neg h1]
    by_cases h2 : c.2.2.length = 0 ∧ (c.1 = 0 ∨ c.1 = 1 ∧ Good c.2.1)
    · rw [if_pos h2]; exact ⟨fun _ => Or.inr h2, fun _ => rfl⟩
    · rw [if_neg h2]
      constructor
      · intro h; omega
      · rintro (⟨a, b, d, -⟩ | h)
        · exact absurd ⟨a, b, d⟩ h1
        · exact absurd h h2
theorem chkC_mono {f g : Ar → Int} {c : Ce} (h : chkC f c = 0) (hfg : ∀ y, f y = 0 → g y = 0) : chkC g c = 0 := by
  rw [chkC_iff] at h ⊢
  rcases h with ⟨a, b, d, h⟩ | h
  · exact Or.inl ⟨a, b, d, hfg _ h⟩
  · exact Or.inr h
theorem chkA_up (r : Nat) : ∀ x, chkA r x = 0 → chkA (r + 1) x = 0 := by
  induction r with
  | zero =>
    intro x h
    rw [chkA_iff] at h ⊢
    exact ⟨h.1, h.2.1, h.2.2.1, fun i hi => chkC_mono (h.2.2.2 i hi) fun y hy => absurd (show (15 : Int) = 0 from hy) (by decide)⟩
  | succ r ih =>
    intro x h
    rw [chkA_iff] at h ⊢
    exact ⟨h.1, h.2.1, h.2.2.1, fun i hi => chkC_mono (h.2.2.2 i hi) fun y hy => ih y hy⟩
/-- An array of another's cells may be, if its shape may. -/
theorem chk_of {r : Nat} {x : Ar} {s : List Int} {cs : List Ce} (h : chkA r x = 0) (h1 : sizeE s = 0) (h2 : sizeV s = cs.length) (h3 : ¬ hasLong s) (h4 : ∀ i, i < cs.length → ∃ j, j < x.cells.length ∧ cAt cs i = cAt x.cells j) : chkA r (.mk s cs) = 0 := by
  rw [chkA_iff] at h ⊢
  refine ⟨h1, h2, h3, fun i hi => ?_⟩
  obtain ⟨j, hj, e⟩ := h4 i hi
  show chkC (inF r) (cAt cs i) = 0
  rw [e]
  exact h.2.2.2 j hj
theorem chk_thin (r : Nat) : ∀ x, chkA r x = 0 → Thin r x := by
  induction r with
  | zero =>
    intro x h i hi k hk
    rw [chkA_iff] at h
    have := (chkC_iff _ _).1 (h.2.2.2 i hi)
    rcases this with ⟨-, -, -, h⟩ | ⟨h, -⟩
    · exact absurd (show (15 : Int) = 0 from h) (by decide)
    · omega
  | succ r ih =>
    intro x h i hi k hk
    rw [chkA_iff] at h
    have := (chkC_iff _ _).1 (h.2.2.2 i hi)
    rcases this with ⟨-, -, h1, h⟩ | ⟨h, -⟩
    · have : k = 0 := by omega
      subst this
      exact ih _ h
    · omega
theorem thin_up (d : Nat) : ∀ x, Thin d x → Thin (d + 1) x := by
  induction d with
  | zero => exact fun x h i hi k hk => (h i hi k hk).elim
  | succ d ih => exact fun x h i hi k hk => ih _ (h i hi k hk)
theorem chk_thin16 {x : Ar} (h : chkA 8 x = 0) : Thin 16 x := by
  have := chk_thin 8 x h
  exact thin_up 15 _ (thin_up 14 _ (thin_up 13 _ (thin_up 12 _ (thin_up 11 _ (thin_up 10 _ (thin_up 9 _ (thin_up 8 _ this)))))))
/-- Cells by their number. -/
def mkCs (m : Nat) (g : Nat → Ce) : List Ce := (List.range m).map g
theorem mkCs_len (m : Nat) (g : Nat → Ce) : (mkCs m g).length = m := by simp [mkCs]
theorem mkCs_at (m : Nat) (g : Nat → Ce) (i : Nat) (hi : i < m) : cAt (mkCs m g) i = g i := by simp [cAt, mkCs, hi]
theorem cs_ext {a b : List Ce} (h : a.length = b.length) (h2 : ∀ i, i < a.length → cAt a i = cAt b i) : a = b := by
  refine List.ext_getElem? fun i => ?_
  by_cases hi : i < a.length
  · have := h2 i hi
    unfold cAt at this
    rw [List.getElem?_eq_getElem hi, List.getElem?_eq_getElem (by omega)] at this ⊢
    simpa using this
  · rw [List.getElem?_eq_none (by omega), List.getElem?_eq_none (by omega)]
theorem mkCs_self (l : List Ce) (g : Nat → Ce) (h : ∀ i, i < l.length → g i = cAt l i) : mkCs l.length g = l :=
  cs_ext (mkCs_len _ _) fun i hi => by rw [mkCs_len] at hi; rw [mkCs_at _ _ _ hi]; exact h i hi
theorem Ar.eta (x : Ar) : Ar.mk x.shape x.cells = x := by cases x; rfl
end Go.Proofs.Ytmjncdhahdpplaa
