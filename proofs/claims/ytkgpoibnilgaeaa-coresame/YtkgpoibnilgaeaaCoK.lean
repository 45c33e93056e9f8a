/-
  The program's walk and the document's words come to the same: the plain mathematics of it, kind by kind.
-/
import Derived.Test.YtkgpoibnilgaeaaCoJ
namespace Go.Proofs.Ytkgpoibnilgaeaa
open Go.ChangeShapes Go.WideShapes Go.ChangeAt Go.RowKit
set_option linter.unusedVariables false
set_option linter.unusedSimpArgs false
theorem sumUp_congr {f g : Nat → Nat} {m : Nat} (h : ∀ i, i < m → f i = g i) : sumUp f m = sumUp g m := by
  induction m with
  | zero => rfl
  | succ m ih => simp only [sumUp]; rw [ih fun i hi => h i (by omega), h m (by omega)]
theorem maxUp_congr {f g : Nat → Int} {m : Nat} (h : ∀ i, i < m → f i = g i) : maxUp f m = maxUp g m := by
  induction m with
  | zero => rfl
  | succ m ih => simp only [maxUp]; rw [ih fun i hi => h i (by omega), h m (by omega)]
theorem fuel_up {m n lo : Nat} {w : World} {x : Nd} {v : Value} (h : NdIn m n lo w x v) : sizeN (m + 1) x = sizeN m x ∧ deepN (m + 1) x = deepN m x := by
  induction m generalizing x v with
  | zero => exact h.elim
  | succ m ih =>
    obtain ⟨m', hm, a1, c1, a2, c2, ak, ck, rfl, hA, hl, hs, hK⟩ := h.form
    obtain rfl : m = m' := by omega
    have hk : ∀ j, j < x.kids.length → sizeN (m + 1) (nAt x.kids j) = sizeN m (nAt x.kids j) ∧ deepN (m + 1) (nAt x.kids j) = deepN m (nAt x.kids j) := by
      intro j hj
      obtain ⟨b, off, d1, e1, d2, e2, dk, ek, -, -, -, hw⟩ := kid_at hK hj
      exact ih (hw w (Below.refl _ _)).2
    constructor
    · show 1 + sumUp (fun i => sizeN (m + 1) (nAt x.kids i)) x.kids.length = 1 + sumUp (fun i => sizeN m (nAt x.kids i)) x.kids.length
      rw [sumUp_congr fun i hi => (hk i hi).1]
    · show maxUp (fun i => 1 + deepN (m + 1) (nAt x.kids i)) x.kids.length = maxUp (fun i => 1 + deepN m (nAt x.kids i)) x.kids.length
      exact maxUp_congr fun i hi => by rw [(hk i hi).2]
def kd (x : Nd) (i : Nat) : Nd := nAt x.kids i
theorem kids0 {m : Nat} {x : Nd} {c d : Int} (h : x.kids.length = 0) : (c + sizeN (m + 1) x ≤ 2048 ∧ d + deepN (m + 1) x ≤ 24) ↔ (c + 1 ≤ 2048 ∧ d ≤ 24) := by
  simp only [sizeN, deepN, h, sumUp, maxUp]
  omega
theorem kids1 {m : Nat} {x : Nd} {c d : Int} (h : x.kids.length = 1) : (c + sizeN (m + 1) x ≤ 2048 ∧ d + deepN (m + 1) x ≤ 24) ↔ (c + 1 ≤ 2048 ∧ d ≤ 24) ∧ ((c + 1) + sizeN m (kd x 0) ≤ 2048 ∧ (d + 1) + deepN m (kd x 0) ≤ 24) := by
  have h0 := deepN_nonneg m (kd x 0)
  simp only [sizeN, deepN, h, sumUp, maxUp]
  unfold kd at *
  omega
theorem kids2 {m : Nat} {x : Nd} {c d : Int} (h : x.kids.length = 2) : (c + sizeN (m + 1) x ≤ 2048 ∧ d + deepN (m + 1) x ≤ 24) ↔ (c + 1 ≤ 2048 ∧ d ≤ 24) ∧ ((c + 1) + sizeN m (kd x 0) ≤ 2048 ∧ (d + 1) + deepN m (kd x 0) ≤ 24) ∧ ((c + 1 + sizeN m (kd x 0)) + sizeN m (kd x 1) ≤ 2048 ∧ (d + 1) + deepN m (kd x 1) ≤ 24) := by
  have h0 := deepN_nonneg m (kd x 0)
  have h1 := deepN_nonneg m (kd x 1)
  simp only [sizeN, deepN, h, sumUp, maxUp]
  unfold kd at *
  omega
theorem kids3 {m : Nat} {x : Nd} {c d : Int} (h : x.kids.length = 3) : (c + sizeN (m + 1) x ≤ 2048 ∧ d + deepN (m + 1) x ≤ 24) ↔ (c + 1 ≤ 2048 ∧ d ≤ 24) ∧ ((c + 1) + sizeN m (kd x 0) ≤ 2048 ∧ (d + 1) + deepN m (kd x 0) ≤ 24) ∧ ((c + 1 + sizeN m (kd x 0)) + sizeN m (kd x 1) ≤ 2048 ∧ (d + 1) + deepN m (kd x 1) ≤ 24) ∧ ((c + 1 + sizeN m (kd x 0) + sizeN m (kd x 1)) + sizeN m (kd x 2) ≤ 2048 ∧ (d + 1) + deepN m (kd x 2) ≤ 24) := by
  have h0 := deepN_nonneg m (kd x 0)
  have h1 := deepN_nonneg m (kd x 1)
  have h2 := deepN_nonneg m (kd x 2)
  simp only [sizeN, deepN, h, sumUp, maxUp]
  unfold kd at *
  omega
theorem size0 {m : Nat} {x : Nd} (h : x.kids.length = 0) : sizeN (m + 1) x = 1 := by simp only [sizeN, h, sumUp]
theorem size1 {m : Nat} {x : Nd} (h : x.kids.length = 1) : sizeN (m + 1) x = 1 + sizeN m (kd x 0) := by simp only [sizeN, h, sumUp, kd]; omega
theorem size2 {m : Nat} {x : Nd} (h : x.kids.length = 2) : sizeN (m + 1) x = 1 + sizeN m (kd x 0) + sizeN m (kd x 1) := by simp only [sizeN, h, sumUp, kd]; omega
theorem size3 {m : Nat} {x : Nd} (h : x.kids.length = 3) : sizeN (m + 1) x = 1 + sizeN m (kd x 0) + sizeN m (kd x 1) + sizeN m (kd x 2) := by simp only [sizeN, h, sumUp, kd]; omega
/-- What is asked of every node. -/
def entX (c d : Int) (x : Nd) : Bool := entL c d x.kind x.kids.length x.op x.name x.lit.shape.length x.lit.cells.length
def entB (x : Nd) : Bool := decide ((x.kids.length : Int) = partsZ x.kind) && nakedL x.kind x.op x.name x.lit.shape.length x.lit.cells.length
theorem entX_iff (c d : Int) (x : Nd) : entX c d x = true ↔ (c + 1 ≤ 2048 ∧ d ≤ 24) ∧ entB x = true := by
  simp only [entX, entL, entB, Bool.and_eq_true, decide_eq_true_eq]
  constructor
  · rintro ⟨⟨⟨h1, h2⟩, h3⟩, h4⟩; exact ⟨⟨h1, h2⟩, h3, h4⟩
  · rintro ⟨⟨h1, h2⟩, h3, h4⟩; exact ⟨⟨⟨h1, h2⟩, h3⟩, h4⟩
theorem entB_kind {x : Nd} {K : Int} (hk : x.kind = K) : entB x = (decide ((x.kids.length : Int) = partsZ K) && nakedL K x.op x.name x.lit.shape.length x.lit.cells.length) := by rw [← hk]; rfl
theorem ent_one {x : Nd} (hk : x.kind = 22 ∨ x.kind = 23 ∨ x.kind = 31 ∨ x.kind = 32 ∨ x.kind = 33 ∨ x.kind = 34 ∨ x.kind = 35 ∨ x.kind = 25) : entB x = bareB x 1 false false false := by
  rcases hk with hk | hk | hk | hk | hk | hk | hk | hk <;> (rw [entB_kind hk]; simp [partsZ, nakedL, bareB, bareL, Bool.and_assoc])
theorem ent_pow {x : Nd} (hk : x.kind = 26) : entB x = bareB x 1 true false false := by rw [entB_kind hk]; simp [partsZ, nakedL, bareB, bareL, Bool.and_assoc]
theorem ent_prim {x : Nd} (hk : x.kind = 21) : entB x = bareB x 0 true false false := by rw [entB_kind hk]; simp [partsZ, nakedL, bareB, bareL, Bool.and_assoc]
theorem ent_lit {x : Nd} (hk : x.kind = 1) : entB x = bareB x 0 false false true := by rw [entB_kind hk]; simp [partsZ, nakedL, bareB, bareL, Bool.and_assoc]
theorem ent_var {x : Nd} (hk : x.kind = 2) : entB x = bareB x 0 false true false := by rw [entB_kind hk]; simp [partsZ, nakedL, bareB, bareL, Bool.and_assoc]
theorem ent_arg {x : Nd} (hk : x.kind = 3 ∨ x.kind = 4) : entB x = bareB x 0 false false false := by
  rcases hk with hk | hk <;> (rw [entB_kind hk]; simp [partsZ, nakedL, bareB, bareL, Bool.and_assoc])
theorem ent_mo {x : Nd} (hk : x.kind = 5) : entB x = bareB x 2 false false false := by rw [entB_kind hk]; simp [partsZ, nakedL, bareB, bareL, Bool.and_assoc]
theorem ent_dy {x : Nd} (hk : x.kind = 6) : entB x = bareB x 3 false false false := by rw [entB_kind hk]; simp [partsZ, nakedL, bareB, bareL, Bool.and_assoc]
theorem bare0 {x : Nd} {a b c : Bool} (h : bareB x 0 a b c = true) : x.kids.length = 0 := bareB_len (k := 0) h
theorem bare1 {x : Nd} {a b c : Bool} (h : bareB x 1 a b c = true) : x.kids.length = 1 := bareB_len (k := 1) h
theorem bare2 {x : Nd} {a b c : Bool} (h : bareB x 2 a b c = true) : x.kids.length = 2 := bareB_len (k := 2) h
theorem bare3 {x : Nd} {a b c : Bool} (h : bareB x 3 a b c = true) : x.kids.length = 3 := bareB_len (k := 3) h
/-- It may be, and is neither too much nor too deep. -/
def Gd (g : Bool) (c d : Int) (m : Nat) (x : Nd) : Prop := g = true ∧ (c + sizeN m x ≤ 2048 ∧ d + deepN m x ≤ 24)
theorem gd0 {g h : Bool} {c d : Int} {m : Nat} {x : Nd} {a b e : Bool} (hb : entB x = bareB x 0 a b e) (hg : g = (bareB x 0 a b e && h)) : Gd g c d (m + 1) x ↔ entX c d x = true ∧ h = true := by
  rw [entX_iff, hb]
  unfold Gd
  subst hg
  rw [Bool.and_eq_true]
  constructor
  · rintro ⟨⟨h1, h2⟩, h3⟩
    exact ⟨⟨(kids0 (bare0 h1)).1 h3, h1⟩, h2⟩
  · rintro ⟨⟨h3, h1⟩, h2⟩
    exact ⟨⟨h1, h2⟩, (kids0 (bare0 h1)).2 h3⟩
theorem gd1 {g h : Bool} {c d : Int} {m : Nat} {x : Nd} {a b e : Bool} (hb : entB x = bareB x 1 a b e) (hg : g = (bareB x 1 a b e && h)) : Gd g c d (m + 1) x ↔ entX c d x = true ∧ Gd h (c + 1) (d + 1) m (kd x 0) := by
  rw [entX_iff, hb]
  unfold Gd
  subst hg
  rw [Bool.and_eq_true]
  constructor
  · rintro ⟨⟨h1, h2⟩, h3⟩
    have := (kids1 (bare1 h1)).1 h3
    exact ⟨⟨this.1, h1⟩, h2, this.2⟩
  · rintro ⟨⟨h3, h1⟩, h2, h4⟩
    exact ⟨⟨h1, h2⟩, (kids1 (bare1 h1)).2 ⟨h3, h4⟩⟩
theorem gd2 {g h k : Bool} {c d : Int} {m : Nat} {x : Nd} {a b e : Bool} (hb : entB x = bareB x 2 a b e) (hg : g = (bareB x 2 a b e && h && k)) : Gd g c d (m + 1) x ↔ entX c d x = true ∧ Gd h (c + 1) (d + 1) m (kd x 0) ∧ Gd k (c + 1 + sizeN m (kd x 0)) (d + 1) m (kd x 1) := by
  rw [entX_iff, hb]
  unfold Gd
  subst hg
  rw [Bool.and_eq_true, Bool.and_eq_true]
  constructor
  · rintro ⟨⟨⟨h1, h2⟩, h2'⟩, h3⟩
    have := (kids2 (bare2 h1)).1 h3
    exact ⟨⟨this.1, h1⟩, ⟨h2, this.2.1⟩, h2', this.2.2⟩
  · rintro ⟨⟨h3, h1⟩, ⟨h2, h4⟩, h2', h5⟩
    exact ⟨⟨⟨h1, h2⟩, h2'⟩, (kids2 (bare2 h1)).2 ⟨h3, h4, h5⟩⟩
theorem gd3 {g h k l : Bool} {c d : Int} {m : Nat} {x : Nd} {a b e : Bool} (hb : entB x = bareB x 3 a b e) (hg : g = (bareB x 3 a b e && h && k && l)) : Gd g c d (m + 1) x ↔ entX c d x = true ∧ Gd h (c + 1) (d + 1) m (kd x 0) ∧ Gd k (c + 1 + sizeN m (kd x 0)) (d + 1) m (kd x 1) ∧ Gd l (c + 1 + sizeN m (kd x 0) + sizeN m (kd x 1)) (d + 1) m (kd x 2) := by
  rw [entX_iff, hb]
  unfold Gd
  subst hg
  rw [Bool.and_eq_true, Bool.and_eq_true, Bool.and_eq_true]
  constructor
  · rintro ⟨⟨⟨⟨h1, h2⟩, h2'⟩, h2''⟩, h3⟩
    have := (kids3 (bare3 h1)).1 h3
    exact ⟨⟨this.1, h1⟩, ⟨h2, this.2.1⟩, ⟨h2', this.2.2.1⟩, h2'', this.2.2.2⟩
  · rintro ⟨⟨h3, h1⟩, ⟨h2, h4⟩, ⟨h2', h5⟩, h2'', h6⟩
    exact ⟨⟨⟨⟨h1, h2⟩, h2'⟩, h2''⟩, (kids3 (bare3 h1)).2 ⟨h3, h4, h5, h6⟩⟩
theorem not_gd {g : Bool} {c d : Int} {m : Nat} {x : Nd} (h : g = false) : ¬ Gd g c d m x := fun hh => by rw [h] at hh; cases hh.1
/-- A primitive. -/
theorem prim_eq {x : Nd} (a b : Int) (hk : x.kind = 21) : primB x a b = (bareB x 0 true false false && frm x.op a b) := by
  simp only [primB, primL, hk, decide_true, Bool.true_and, bareB, frm, Bool.and_assoc]
  congr 1
  rw [Bool.eq_iff_iff]
  simp
theorem prim_no {x : Nd} (a b : Int) (hk : ¬ x.kind = 21) : primB x a b = false := by simp [primB, primL, hk]
theorem two_prim {e : Nd → Bool} {u : Int → Nd → Bool} {x : Nd} (hk : x.kind = 21) : twoB e u x = (bareB x 0 true false false && (frm x.op 21 32 || frm x.op 41 54)) := by
  unfold twoB
  rw [if_neg (by omega), prim_eq _ _ hk, prim_eq _ _ hk, Bool.and_or_distrib_left]
theorem two_no {e : Nd → Bool} {u : Int → Nd → Bool} {x : Nd} (hk : ¬ x.kind = 21) (hk' : ¬ x.kind = 23) : twoB e u x = false := by
  unfold twoB
  rw [if_neg hk', prim_no _ _ hk, prim_no _ _ hk]
  rfl
/-- The text of a function. -/
def txB (e : Nd → Bool) (u : Int → Nd → Bool) (k : Int) (y : Nd) : Bool := e y && (if k = 22 then !u 3 y else (u 3 y && u 4 y))
theorem lam_eq (e : Nd → Bool) (u : Int → Nd → Bool) (x : Nd) : lamB e u x = (bareB x 1 false false false && txB e u x.kind (kd x 0)) := by
  unfold lamB txB kd
  rw [Bool.and_assoc]
/-- The part of one that turns. -/
def tnB (e : Nd → Bool) (u : Int → Nd → Bool) (y : Nd) : Bool := twoB e u y && (decide (y.kind = 23) || (!decide (y.op = 52) && !decide (y.op = 53)))
theorem tur_eq (e : Nd → Bool) (u : Int → Nd → Bool) (x : Nd) : turB e u x = (bareB x 1 false false false && tnB e u (kd x 0)) := by
  unfold turB tnB kd
  rw [Bool.and_assoc]
theorem tn_bad {e : Nd → Bool} {u : Int → Nd → Bool} {y : Nd} (hk : y.kind = 21) (ho : y.op = 52 ∨ y.op = 53) : tnB e u y = false := by
  unfold tnB
  rw [show decide (y.kind = 23) = false by simp; omega]
  rcases ho with ho | ho <;> simp [ho]
theorem tn_ok {e : Nd → Bool} {u : Int → Nd → Bool} {y : Nd} (h : ¬ (y.kind = 21 ∧ (y.op = 52 ∨ y.op = 53))) : tnB e u y = twoB e u y := by
  unfold tnB
  by_cases h1 : y.kind = 23
  · simp [h1]
  · by_cases h2 : y.kind = 21
    · have : ¬ y.op = 52 ∧ ¬ y.op = 53 := ⟨fun h' => h ⟨h2, Or.inl h'⟩, fun h' => h ⟨h2, Or.inr h'⟩⟩
      simp [this]
    · rw [two_no h2 h1]; rfl
/-- How many times an expression names an argument. -/
def cntN : Nat → Int → Nd → Nat
  | 0, _, _ => 0
  | m + 1, k, x => if x.kind = k then 1 else if x.kind = 5 then cntN m k (kd x 1) else if x.kind = 6 then cntN m k (kd x 1) + cntN m k (kd x 2) else 0
theorem prim_uses {m : Nat} {k a b : Int} {x : Nd} (hk : k = 3 ∨ k = 4) (h : primB x a b = true) : usesN m k x = false := by
  cases m with
  | zero => rfl
  | succ m =>
    by_cases h1 : x.kind = 21
    · rw [prim_eq _ _ h1, Bool.and_eq_true] at h
      have h0 := bare0 h.1
      simp only [usesN]
      rw [if_neg (by omega), if_neg (by omega), h0]
      rfl
    · rw [prim_no _ _ h1] at h; cases h
theorem uses1 {m : Nat} {k : Int} {x : Nd} (h1 : ¬ x.kind = k) (h2 : ¬ (x.kind = 22 ∨ x.kind = 23)) (hl : x.kids.length = 1) : usesN (m + 1) k x = usesN m k (kd x 0) := by
  simp only [usesN]
  rw [if_neg h1, if_neg h2, hl]
  simp [anyUp, kd]
theorem bet_uses {m : Nat} {k : Int} {x : Nd} (hk : k = 3 ∨ k = 4) (h : betB x = true) : usesN m k x = false := by
  cases m with
  | zero => rfl
  | succ m =>
    unfold betB at h
    by_cases h1 : x.kind = 35
    · rw [if_pos h1, Bool.and_eq_true] at h
      rw [uses1 (by omega) (by omega) (bare1 h.1)]
      exact prim_uses hk h.2
    · rw [if_neg h1] at h
      exact prim_uses hk h
theorem lam_uses {m : Nat} {k : Int} {x : Nd} (hk : k = 3 ∨ k = 4) (h : x.kind = 22 ∨ x.kind = 23) : usesN m k x = false := by
  cases m with
  | zero => rfl
  | succ m =>
    simp only [usesN]
    rw [if_neg (by omega), if_pos h]
theorem two_uses {m : Nat} {k : Int} {x : Nd} {e : Nd → Bool} {u : Int → Nd → Bool} (hk : k = 3 ∨ k = 4) (h : twoB e u x = true) : usesN m k x = false := by
  unfold twoB at h
  by_cases h1 : x.kind = 23
  · exact lam_uses hk (Or.inr h1)
  · rw [if_neg h1, Bool.or_eq_true] at h
    rcases h with h | h <;> exact prim_uses hk h
theorem tur_uses {m : Nat} {k : Int} {x : Nd} {e : Nd → Bool} {u : Int → Nd → Bool} (hk : k = 3 ∨ k = 4) (hx : x.kind = 35) (h : turB e u x = true) : usesN m k x = false := by
  cases m with
  | zero => rfl
  | succ m =>
    unfold turB at h
    rw [Bool.and_eq_true, Bool.and_eq_true] at h
    rw [uses1 (by omega) (by omega) (bare1 h.1.1)]
    exact two_uses hk h.1.2
theorem mo_uses {m : Nat} {k : Int} {x : Nd} {e : Nd → Bool} {u : Int → Nd → Bool} (hk : k = 3 ∨ k = 4) (h : moB e u x = true) : usesN m k x = false := by
  unfold moB at h
  split at h
  · exact prim_uses hk h
  split at h
  · rename_i h1; exact lam_uses hk (Or.inl h1)
  split at h
  · rename_i h1
    rw [Bool.and_eq_true] at h
    cases m with
    | zero => rfl
    | succ m =>
      rw [uses1 (by omega) (by omega) (bare1 h.1)]
      exact bet_uses hk h.2
  split at h
  · rename_i h1; exact tur_uses hk h1 h
  split at h
  · rename_i h1
    simp only [Bool.and_eq_true, decide_eq_true_eq] at h
    cases m with
    | zero => rfl
    | succ m =>
      rw [uses1 (by omega) (by omega) (bare1 h.1.1.1.1)]
      exact lam_uses hk (Or.inl h.1.2)
  · cases h
theorem dy_uses {m : Nat} {k : Int} {x : Nd} {e : Nd → Bool} {u : Int → Nd → Bool} (hk : k = 3 ∨ k = 4) (h : dyB e u x = true) : usesN m k x = false := by
  unfold dyB at h
  split at h
  · rename_i h1
    rw [Bool.and_eq_true] at h
    cases m with
    | zero => rfl
    | succ m =>
      rw [uses1 (by omega) (by omega) (bare1 h.1)]
      exact bet_uses hk h.2
  split at h
  · rename_i h1; exact tur_uses hk h1 h
  · exact two_uses hk h
/-- What is named is counted. -/
theorem cnt_uses {m : Nat} {i : Bool} {k : Int} {x : Nd} (hk : k = 3 ∨ k = 4) (h : exprN m i x = true) : 0 < cntN m k x ↔ usesN m k x = true := by
  induction m generalizing i x with
  | zero => simp [exprN] at h
  | succ m ih =>
    simp only [exprN] at h
    simp only [cntN, usesN]
    by_cases h0 : x.kind = k
    · simp [h0]
    rw [if_neg h0, if_neg h0]
    split at h
    · rename_i h1
      rw [Bool.and_eq_true] at h
      rw [if_neg (by omega), if_neg (by omega), if_neg (by omega), bare0 h.1]
      simp [anyUp]
    split at h
    · rename_i h1 h2
      rw [Bool.and_eq_true] at h
      rw [if_neg (by omega), if_neg (by omega), if_neg (by omega), bare0 h.1]
      simp [anyUp]
    split at h
    · rename_i h1 h2 h3
      rw [Bool.and_eq_true] at h
      rw [if_neg (by omega), if_neg (by omega), if_neg (by omega), bare0 h.2]
      simp [anyUp]
    split at h
    · rename_i h1 h2 h3 h5
      simp only [Bool.and_eq_true] at h
      rw [if_pos h5, if_neg (by omega), bare2 h.1.1]
      have a := mo_uses (m := m) hk h.1.2
      have b := ih h.2
      simp [anyUp, kd, a] at b ⊢
      exact b
    split at h
    · rename_i h1 h2 h3 h5 h6
      simp only [Bool.and_eq_true] at h
      rw [if_neg h5, if_pos h6, if_neg (by omega), bare3 h.1.1.1]
      have a := dy_uses (m := m) hk h.1.1.2
      have b1 := ih h.1.2
      have b2 := ih h.2
      simp only [anyUp, kd, a, Bool.false_or, Bool.or_eq_true] at b1 b2 ⊢
      rw [← b1, ← b2]
      omega
    · cases h
theorem kid_ne : True := trivial
end Go.Proofs.Ytkgpoibnilgaeaa
