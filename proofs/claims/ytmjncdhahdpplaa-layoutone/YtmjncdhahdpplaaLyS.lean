/-
  What follows of layer 5's answers: turned twice an array is what it was, what is put in a box comes out of it, an array is its cells laid in its shape, what comes of arrays that may be may be; no program is named.
-/
import Derived.Test.YtmjncdhahdpplaaLyR
namespace Go.Proofs.Ytmjncdhahdpplaa
open Go.ChangeShapes Go.WideShapes Go.ChangeAt Go.RowKit
set_option linter.unusedVariables false
set_option maxRecDepth 100000
theorem maxUp_ge {f : Nat → Int} {m i : Nat} (hi : i < m) : f i ≤ maxUp f m := by
  induction m with
  | zero => omega
  | succ m ih =>
    simp only [maxUp]
    rcases Nat.lt_succ_iff_lt_or_eq.1 hi with h | rfl
    · have := ih h; omega
    · omega
theorem deepA_nonneg (n : Nat) (x : Ar) : 0 ≤ deepA n x := by
  cases n with
  | zero => exact Int.le_refl _
  | succ n =>
    simp only [deepA]
    generalize x.cells.length = m
    induction m with
    | zero => exact Int.le_refl _
    | succ m ih => simp only [maxUp]; omega
theorem deep_le (r : Nat) : ∀ (n : Nat) (x : Ar), chkA r x = 0 → deepA n x ≤ r := by
  induction r with
  | zero =>
    intro n x h
    cases n with
    | zero => exact Int.le_refl _
    | succ n =>
      rw [chkA_iff] at h
      refine maxUp_le (by omega) fun i hi => ?_
      unfold deepF
      rcases (chkC_iff _ _).1 (h.2.2.2 i hi) with ⟨-, -, -, hf⟩ | ⟨hl, -⟩
      · exact absurd (show (15 : Int) = 0 from hf) (by decide)
      · rw [if_neg (by omega)]; omega
  | succ r ih =>
    intro n x h
    cases n with
    | zero => show (0 : Int) ≤ _; omega
    | succ n =>
      rw [chkA_iff] at h
      refine maxUp_le (by omega) fun i hi => ?_
      unfold deepF
      rcases (chkC_iff _ _).1 (h.2.2.2 i hi) with ⟨-, -, hl, hf⟩ | ⟨hl, -⟩
      · rw [if_pos (by omega)]
        have := ih n _ (show chkA r _ = 0 from hf)
        omega
      · rw [if_neg (by omega)]; omega
/-- An array with fewer boxes within one another may be where fewer may. -/
theorem chk_down (r : Nat) : ∀ (n lo : Nat) (w : World) (x : Ar) (v : Value), ArIn n lo w x v → chkA (r + 1) x = 0 → deepA n x ≤ r → chkA r x = 0 := by
  induction r with
  | zero =>
    intro n lo w x v hx h hd
    cases n with
    | zero => exact hx.elim
    | succ n =>
      rw [chkA_iff] at h ⊢
      refine ⟨h.1, h.2.1, h.2.2.1, fun i hi => ?_⟩
      rw [chkC_iff]
      rcases (chkC_iff _ _).1 (h.2.2.2 i hi) with ⟨-, -, hl, -⟩ | h'
      · exfalso
        have := maxUp_ge (f := deepF (deepA n) x) hi
        unfold deepF at this
        rw [if_pos (by omega)] at this
        have h2 := deepA_nonneg n (bAt (cAt x.cells i).2.2 0)
        have h3 : maxUp (deepF (deepA n) x) x.cells.length ≤ ((0 : Nat) : Int) := hd
        unfold deepF at h3
        omega
      · exact Or.inr h'
  | succ r ih =>
    intro n lo w x v hx h hd
    cases n with
    | zero => exact hx.elim
    | succ n =>
      obtain ⟨a1, c1, a2, c2, rfl, R, hc⟩ := hx.form
      rw [chkA_iff] at h ⊢
      refine ⟨h.1, h.2.1, h.2.2.1, fun i hi => ?_⟩
      rw [chkC_iff]
      rcases (chkC_iff _ _).1 (h.2.2.2 i hi) with ⟨k1, k2, hl, hf⟩ | h'
      · refine Or.inl ⟨k1, k2, hl, ?_⟩
        obtain ⟨ab, cb, hcf⟩ := cells_fn hc
        obtain ⟨b, off, -, -, -, hcells⟩ := hcf (by omega)
        obtain ⟨-, -, -, hce⟩ := hcells i hi
        obtain ⟨bb, ob, cap, u0, u1, -, -, -, -, -, hin, -⟩ := box_of (inF (r + 2)) hce (h.2.2.2 i hi) k1
        refine ih n lo w _ _ hin hf ?_
        have := maxUp_ge (f := deepF (deepA n) x) hi
        unfold deepF at this
        rw [if_pos (by omega)] at this
        have h3 : maxUp (deepF (deepA n) x) x.cells.length ≤ ((r + 1 : Nat) : Int) := hd
        unfold deepF at h3
        omega
      · exact Or.inr h'
/-- Cells by places: two rules that undo one another. -/
theorem perm_back {l s : List Int} {cs : List Ce} (h1 : 0 < cs.length → (∀ z ∈ l, 0 < z) ∧ prodL l = cs.length) (hs : 0 < cs.length → (∀ z ∈ s, 0 < z) ∧ prodL s = cs.length) (f g : List Int → List Int) (hf : ∀ d, inAxes s d → inAxes l (f d)) (hg : ∀ d, inAxes l d → inAxes s (g d)) (hfg : ∀ d, inAxes l d → f (g d) = d) :
    mkCs (mkCs cs.length fun i => cAt cs (place l (f (digits s i))).toNat).length (fun i => cAt (mkCs cs.length fun i => cAt cs (place l (f (digits s i))).toNat) (place s (g (digits l i))).toNat) = cs := by
  rw [mkCs_len]
  refine mkCs_self cs _ fun i hi => ?_
  obtain ⟨p1, p2⟩ := h1 (by omega)
  obtain ⟨p3, p4⟩ := hs (by omega)
  obtain ⟨d1, d2⟩ := digits_in (l := l) p1 (n := (i : Int)) (by omega) (by omega)
  have hb := place_bound (hg _ d1)
  rw [mkCs_at _ _ _ (by omega), Int.toNat_of_nonneg (by omega), digits_place (hg _ d1), hfg _ d1, d2]
  simp
theorem perm_chk {r : Nat} {x : Ar} {s : List Int} (h : chkA r x = 0) (e1 : sizeE s = 0) (e2 : sizeV s = x.cells.length) (e3 : ¬ hasLong s) (f : List Int → List Int) (hf : 0 < x.cells.length → ∀ d, inAxes s d → inAxes x.shape (f d)) :
    chkA r (.mk s (mkCs x.cells.length fun i => cAt x.cells (place x.shape (f (digits s i))).toNat)) = 0 := by
  refine chk_of h e1 (by rw [mkCs_len]; exact e2) e3 fun i hi => ?_
  rw [mkCs_len] at hi
  obtain ⟨g1, g2, g3⟩ := fine_cases e1
  rw [mkCs_at _ _ _ hi]
  rcases g3 with ⟨-, g3⟩ | ⟨g3, -, g4⟩
  · omega
  · obtain ⟨d1, -⟩ := digits_in (l := s) g3 (n := (i : Int)) (by omega) (by omega)
    have hb := place_bound (hf (by omega) _ d1)
    have hp := ((chk_axes h).2.1 (by omega)).2
    exact ⟨_, by omega, rfl⟩
theorem rev_chk {r : Nat} {x : Ar} {k : Nat} (h : chkA r x = 0) (hk : 0 < x.shape.length → k < x.shape.length) : chkA r (revR x k) = 0 := by
  unfold revR
  by_cases h0 : x.shape.length = 0
  · rw [if_pos h0]; exact h
  · rw [if_neg h0]
    obtain ⟨e1, e2, e3, -⟩ := (chkA_iff r x).1 h
    exact perm_chk h e1 e2 e3 (fun d => turnL x.shape d k) fun _ d hd => turn_in k (hk (by omega)) hd
theorem rev_mk {k : Nat} (s : List Int) (c : List Ce) (h0 : ¬ s.length = 0) : revR (.mk s c) k = .mk s (mkCs c.length fun i => cAt c (place s (turnL s (digits s i) k)).toNat) := by
  unfold revR
  exact if_neg h0
theorem rev_rev {r : Nat} {x : Ar} {k : Nat} (h : chkA r x = 0) (hk : 0 < x.shape.length → k < x.shape.length) : revR (revR x k) k = x := by
  by_cases h0 : x.shape.length = 0
  · have e : revR x k = x := by unfold revR; rw [if_pos h0]
    rw [e, e]
  · have hk' := hk (by omega)
    have ha := (chk_axes h).2.1
    have e : revR x k = .mk x.shape (mkCs x.cells.length fun i => cAt x.cells (place x.shape (turnL x.shape (digits x.shape i) k)).toNat) := by unfold revR; rw [if_neg h0]
    rw [e, rev_mk _ _ h0]
    have := perm_back (l := x.shape) (s := x.shape) (cs := x.cells) ha ha (fun d => turnL x.shape d k) (fun d => turnL x.shape d k) (fun d hd => turn_in k hk' hd) (fun d hd => turn_in k hk' hd) (fun d hd => turn_turn k hk' ((inAxes_gI _ _).1 hd).1)
    rw [this]
    exact Ar.eta x
theorem rev_fine {l : List Int} (h : sizeE l = 0) : sizeE l.reverse = 0 ∧ sizeV l.reverse = sizeV l := by
  obtain ⟨h1, h2, h3⟩ := fine_cases h
  have := fine_mk (l := l.reverse) (by simpa using h1) (fun z hz => h2 z (by simpa using hz)) (h3.elim (fun h => Or.inl (by obtain ⟨z, hz, e⟩ := h.1; exact ⟨z, by simpa using hz, e⟩)) fun h => Or.inr (by rw [prodL_rev]; exact h.2.1))
  exact ⟨this.1, by rw [this.2, prodL_rev, sizeV_prod h]⟩
theorem flip_chk {r : Nat} {x : Ar} (h : chkA r x = 0) : chkA r (flipR x) = 0 := by
  obtain ⟨e1, e2, e3, -⟩ := (chkA_iff r x).1 h
  have hr := rev_fine e1
  exact perm_chk h hr.1 (by rw [hr.2]; exact e2) (fun ⟨z, hz, hl⟩ => e3 ⟨z, by simpa using hz, hl⟩) (fun d => d.reverse) fun _ d hd => rev_in hd
theorem flip_flip {r : Nat} {x : Ar} (h : chkA r x = 0) : flipR (flipR x) = x := by
  have ha := (chk_axes h).2.1
  have hs : 0 < x.cells.length → (∀ z ∈ x.shape.reverse, 0 < z) ∧ prodL x.shape.reverse = x.cells.length := fun h0 => ⟨fun z hz => (ha h0).1 z (by simpa using hz), by rw [prodL_rev]; exact (ha h0).2⟩
  have := perm_back (l := x.shape) (s := x.shape.reverse) (cs := x.cells) ha hs (fun d => d.reverse) (fun d => d.reverse) (fun d hd => rev_in hd) (fun d hd => rev_in' hd) (fun d hd => List.reverse_reverse d)
  unfold flipR
  show Ar.mk x.shape.reverse.reverse (mkCs (mkCs x.cells.length fun i => cAt x.cells (place x.shape (digits x.shape.reverse i).reverse).toNat).length fun i => cAt (mkCs x.cells.length fun i => cAt x.cells (place x.shape (digits x.shape.reverse i).reverse).toNat) (place x.shape.reverse (digits x.shape.reverse.reverse i).reverse).toNat) = x
  rw [List.reverse_reverse, this]
  exact Ar.eta x
/-- Turned twice. -/
theorem turn_back {x : Ar} (h : chkA 8 x = 0) (n m : Nat) (op : Int) (hop : op = 9 ∨ op = 10 ∨ op = 11) : ∃ y, moR n op x = (y, 0) ∧ moR m op y = (x, 0) := by
  rcases hop with rfl | rfl | rfl
  · have hc := rev_chk (k := 0) h fun h => h
    exact ⟨_, by rw [moR_ok h]; rfl, by rw [moR_ok hc]; show (revR (revR x 0) 0, (0 : Int)) = _; rw [rev_rev h fun h => h]⟩
  · have hk : 0 < x.shape.length → x.shape.length - 1 < x.shape.length := fun h => by omega
    have hc := rev_chk h hk
    have hs : (revR x (x.shape.length - 1)).shape = x.shape := by unfold revR; split <;> rfl
    exact ⟨_, by rw [moR_ok h]; rfl, by rw [moR_ok hc]; show (revR (revR x _) _, (0 : Int)) = _; rw [hs, rev_rev h hk]⟩
  · have hc := flip_chk h
    exact ⟨_, by rw [moR_ok h]; rfl, by rw [moR_ok hc]; show (flipR (flipR x), (0 : Int)) = _; rw [flip_flip h]⟩
theorem box_chk {r : Nat} {x : Ar} (h : chkA r x = 0) : chkA (r + 1) (.mk [] [(2, 0, [x])]) = 0 := one_chk (c := (2, 0, [x])) (by rw [chkC_iff]; exact Or.inl ⟨rfl, rfl, rfl, h⟩)
theorem disc_back {x : Ar} (h : chkA 7 x = 0) (m : Nat) : moR m 16 (.mk [] [(2, 0, [x])]) = (x, 0) := by
  rw [moR_ok (box_chk h)]
  rfl
end Go.Proofs.Ytmjncdhahdpplaa
