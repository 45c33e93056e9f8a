/-
  Cmp of arrays is an order: turned round it is turned, it leads from one to the next, and what is the same stands alike to all: the plain mathematics of it.
-/
import Derived.Test.YtljanfmmhglpiaaDoorOwnI
import Derived.Test.YtljanfmmhglpiaaDoorRows
import Derived.WalkKit
import Derived.ProofKit
import Derived.Below
import Derived.Deep.OwnRows
import Derived.Deep.QuietTactic
import Derived.BigQuiet
import Derived.Deep.RegionWith
import Derived.Laws.MakeOwn
import Derived.Deep.RegionHeld3
import Derived.OpenShut
import Derived.ChangeOld
import Derived.SizedLaws
import Derived.Deep.Slices
import Derived.Deep.Strs
import Derived.Deep.LoopGhost
namespace Go.Proofs.YtljanfmmhglpiaaDoor
set_option linter.unusedVariables false
structure Ord {α : Type} (f : α → α → Int) : Prop where
  anti : ∀ x y, f y x = - f x y
  trans : ∀ x y z, f x y ≤ 0 → f y z ≤ 0 → f x z ≤ 0
  rng : ∀ x y, f x y = -1 ∨ f x y = 0 ∨ f x y = 1
theorem Ord.self {α : Type} {f : α → α → Int} (h : Ord f) (x : α) : f x x = 0 := by
  have := h.anti x x
  omega
theorem Ord.pull {α β : Type} {f : α → α → Int} (h : Ord f) (k : β → α) : Ord fun x y => f (k x) (k y) :=
  ⟨fun x y => h.anti _ _, fun x y z => h.trans _ _ _, fun x y => h.rng _ _⟩
theorem ord3 : Ord cmp3 := by
  refine ⟨?_, ?_, ?_⟩
  · intro x y; unfold cmp3; split <;> split <;> (try split) <;> omega
  · intro x y z; unfold cmp3; split <;> split <;> (try split) <;> (try split) <;> (try split) <;> omega
  · intro x y; unfold cmp3; split <;> (try split) <;> omega
theorem Ord.lex {α : Type} {f h : α → α → Int} (F : Ord f) (H : Ord h) : Ord fun x y => if f x y ≠ 0 then f x y else h x y := by
  refine ⟨?_, ?_, ?_⟩
  · intro x y
    have := F.anti x y
    have := H.anti x y
    by_cases e : f x y = 0
    · rw [if_neg (by omega), if_neg (by omega)]; omega
    · rw [if_pos (by omega), if_pos e]; omega
  · intro x y z
    have a1 := F.anti x y
    have a2 := F.anti y z
    have a3 := F.anti x z
    have t1 := F.trans x y z
    have t2 := F.trans z x y
    have t3 := F.trans y z x
    have t4 := F.trans z y x
    have t5 := H.trans x y z
    intro h1 h2
    by_cases e1 : f x y = 0
    · rw [if_neg (by omega)] at h1
      by_cases e2 : f y z = 0
      · rw [if_neg (by omega)] at h2
        by_cases e3 : f x z = 0
        · rw [if_neg (by omega)]; exact t5 h1 h2
        · rw [if_pos e3]; exact t1 (by omega) (by omega)
      · rw [if_pos e2] at h2
        by_cases e3 : f x z = 0
        · exfalso; have := t2 (by omega) (by omega); omega
        · rw [if_pos e3]; exact t1 (by omega) (by omega)
    · rw [if_pos e1] at h1
      by_cases e2 : f y z = 0
      · by_cases e3 : f x z = 0
        · exfalso; have := t3 (by omega) (by omega); omega
        · rw [if_pos e3]; exact t1 (by omega) (by omega)
      · rw [if_pos e2] at h2
        by_cases e3 : f x z = 0
        · exfalso; have := t3 (by omega) (by omega); omega
        · rw [if_pos e3]; exact t1 (by omega) (by omega)
  · intro x y
    by_cases e : f x y = 0
    · rw [if_neg (by omega)]; exact H.rng x y
    · rw [if_pos e]; exact F.rng x y
/-- Two lists, one by one, then how many. -/
def listCmp {α : Type} (g : α → α → Int) : List α → List α → Int
  | [], [] => 0
  | [], _ :: _ => -1
  | _ :: _, [] => 1
  | a :: l, b :: m => if g a b ≠ 0 then g a b else listCmp g l m
theorem ord_list {α : Type} {g : α → α → Int} (G : Ord g) : Ord (listCmp g) := by
  refine ⟨?_, ?_, ?_⟩
  · intro x
    induction x with
    | nil => intro y; cases y <;> simp [listCmp]
    | cons a l ih =>
      intro y
      cases y with
      | nil => simp [listCmp]
      | cons b m =>
        have h1 := G.anti a b
        have h2 := ih m
        simp only [listCmp]
        by_cases e : g a b = 0
        · rw [if_neg (by omega), if_neg (by omega)]; exact h2
        · rw [if_pos (by omega), if_pos e]; exact h1
  · intro x
    induction x with
    | nil =>
      intro y z
      cases z with
      | nil => simp [listCmp]
      | cons c p => intros; simp [listCmp]
    | cons a l ih =>
      intro y z
      cases y with
      | nil => simp [listCmp]
      | cons b m =>
        cases z with
        | nil => simp [listCmp]
        | cons c p =>
          have a1 := G.anti a b
          have a2 := G.anti b c
          have a3 := G.anti a c
          have t1 := G.trans a b c
          have t2 := G.trans c a b
          have t3 := G.trans b c a
          have t5 := ih m p
          simp only [listCmp]
          intro h1 h2
          by_cases e1 : g a b = 0
          · rw [if_neg (by omega)] at h1
            by_cases e2 : g b c = 0
            · rw [if_neg (by omega)] at h2
              by_cases e3 : g a c = 0
              · rw [if_neg (by omega)]; exact t5 h1 h2
              · rw [if_pos e3]; exact t1 (by omega) (by omega)
            · rw [if_pos e2] at h2
              by_cases e3 : g a c = 0
              · exfalso; have := t2 (by omega) (by omega); omega
              · rw [if_pos e3]; exact t1 (by omega) (by omega)
          · rw [if_pos e1] at h1
            by_cases e2 : g b c = 0
            · by_cases e3 : g a c = 0
              · exfalso; have := t3 (by omega) (by omega); omega
              · rw [if_pos e3]; exact t1 (by omega) (by omega)
            · rw [if_pos e2] at h2
              by_cases e3 : g a c = 0
              · exfalso; have := t3 (by omega) (by omega); omega
              · rw [if_pos e3]; exact t1 (by omega) (by omega)
  · intro x
    induction x with
    | nil => intro y; cases y <;> simp [listCmp]
    | cons a l ih =>
      intro y
      cases y with
      | nil => simp [listCmp]
      | cons b m =>
        simp only [listCmp]
        by_cases e : g a b = 0
        · rw [if_neg (by omega)]; exact ih m
        · rw [if_pos e]; exact G.rng a b
theorem firstUp_cons (f : Nat → Int) (m : Nat) : firstUp f (m + 1) = if f 0 ≠ 0 then f 0 else firstUp (fun i => f (i + 1)) m := by
  induction m with
  | zero => simp only [firstUp]; by_cases h : f 0 = 0 <;> simp [h]
  | succ m ih =>
    have e : firstUp f (m + 1 + 1) = if firstUp f (m + 1) = 0 then f (m + 1) else firstUp f (m + 1) := rfl
    rw [e, ih]
    by_cases h : f 0 = 0
    · simp only [h, ne_eq, not_true_eq_false, if_false]
      rfl
    · simp [h]
theorem list_first {α : Type} (g : α → α → Int) (d : α) (l m : List α) : listCmp g l m = if firstUp (fun i => g (l[i]?.getD d) (m[i]?.getD d)) (min l.length m.length) ≠ 0 then firstUp (fun i => g (l[i]?.getD d) (m[i]?.getD d)) (min l.length m.length) else cmp3 l.length m.length := by
  induction l generalizing m with
  | nil =>
    cases m with
    | nil => simp [listCmp, firstUp, cmp3]
    | cons b m =>
      have h : min ([] : List α).length (b :: m).length = 0 := by simp
      rw [h]
      have : (0 : Int) < ((b :: m).length : Int) := by simp only [List.length_cons]; omega
      simp only [listCmp, firstUp, ne_eq, not_true_eq_false, if_false, cmp3, List.length_nil]
      rw [if_pos (by omega)]
  | cons a l ih =>
    cases m with
    | nil =>
      have h : min (a :: l).length ([] : List α).length = 0 := by simp
      rw [h]
      have : (0 : Int) < ((a :: l).length : Int) := by simp only [List.length_cons]; omega
      simp only [listCmp, firstUp, ne_eq, not_true_eq_false, if_false, cmp3, List.length_nil]
      rw [if_neg (by omega), if_pos (by omega)]
    | cons b m =>
      have h : min (a :: l).length (b :: m).length = min l.length m.length + 1 := by simp only [List.length_cons]; omega
      rw [h, firstUp_cons]
      simp only [listCmp, List.getElem?_cons_zero, Option.getD_some, List.getElem?_cons_succ]
      have hc : cmp3 ((a :: l).length : Int) ((b :: m).length : Int) = cmp3 l.length m.length := by
        unfold cmp3
        simp only [List.length_cons]
        by_cases h1 : (l.length : Int) < m.length
        · rw [if_pos (by omega), if_pos h1]
        · rw [if_neg (by omega), if_neg h1]
          by_cases h2 : (m.length : Int) < l.length
          · rw [if_pos (by omega), if_pos h2]
          · rw [if_neg (by omega), if_neg h2]
      rw [hc]
      by_cases e : g a b = 0
      · simp only [e, ne_eq, not_true_eq_false, if_false]
        exact ih m
      · simp [e]
/-- What is in a box. -/
def boxCmp (f : Ar → Ar → Int) (l m : List Ar) : Int := if 0 < l.length ∧ 0 < m.length then f (bAt l 0) (bAt m 0) else cmp3 l.length m.length
theorem ord_box {f : Ar → Ar → Int} (F : Ord f) : Ord (boxCmp f) := by
  refine ⟨?_, ?_, ?_⟩
  · intro x y
    have := F.anti (bAt x 0) (bAt y 0)
    have := ord3.anti x.length y.length
    unfold boxCmp
    by_cases h : 0 < x.length ∧ 0 < y.length
    · rw [if_pos h, if_pos ⟨h.2, h.1⟩]; omega
    · rw [if_neg h, if_neg (fun k => h ⟨k.2, k.1⟩)]; omega
  · intro x y z
    have t := F.trans (bAt x 0) (bAt y 0) (bAt z 0)
    unfold boxCmp
    intro h1 h2
    by_cases hx : 0 < x.length
    · by_cases hy : 0 < y.length
      · by_cases hz : 0 < z.length
        · rw [if_pos ⟨hx, hy⟩] at h1
          rw [if_pos ⟨hy, hz⟩] at h2
          rw [if_pos ⟨hx, hz⟩]
          exact t h1 h2
        · rw [if_neg (fun k => hz k.2)] at h2
          unfold cmp3 at h2
          rw [if_neg (by omega), if_pos (by omega)] at h2
          omega
      · rw [if_neg (fun k => hy k.2)] at h1
        unfold cmp3 at h1
        rw [if_neg (by omega), if_pos (by omega)] at h1
        omega
    · rw [if_neg (fun k => hx k.1)]
      unfold cmp3
      by_cases hz : 0 < z.length
      · rw [if_pos (by omega)]; omega
      · rw [if_neg (by omega), if_neg (by omega)]; omega
  · intro x y
    unfold boxCmp
    by_cases h : 0 < x.length ∧ 0 < y.length
    · rw [if_pos h]; exact F.rng _ _
    · rw [if_neg h]; exact ord3.rng _ _
theorem ord_cell {f : Ar → Ar → Int} (F : Ord f) : Ord (cmpC f) := by
  have h := ((ord3.pull (fun c : Ce => c.1)).lex ((ord3.pull (fun c : Ce => c.2.1)).lex ((ord_box F).pull (fun c : Ce => c.2.2))))
  have e : cmpC f = fun c d => if cmp3 c.1 d.1 ≠ 0 then cmp3 c.1 d.1 else if cmp3 c.2.1 d.2.1 ≠ 0 then cmp3 c.2.1 d.2.1 else boxCmp f c.2.2 d.2.2 := rfl
  rw [e]
  exact h
theorem cmpA_lex (n : Nat) (x y : Ar) : cmpA (n + 1) x y = if cmp3 x.shape.length y.shape.length ≠ 0 then cmp3 x.shape.length y.shape.length else if listCmp cmp3 x.shape y.shape ≠ 0 then listCmp cmp3 x.shape y.shape else listCmp (cmpC (cmpA n)) x.cells y.cells := by
  simp only [cmpA]
  by_cases h1 : cmp3 x.shape.length y.shape.length ≠ 0
  · rw [if_pos h1, if_pos h1]
  · rw [if_neg h1, if_neg h1]
    have hl : x.shape.length = y.shape.length := Decidable.byContradiction fun h => h1 (cmp3_ne.2 (by omega))
    have e1 : listCmp cmp3 x.shape y.shape = firstUp (axF x y) x.shape.length := by
      rw [list_first cmp3 0 x.shape y.shape, ← hl, Nat.min_self, cmp3_self]
      show (if firstUp (axF x y) x.shape.length ≠ 0 then firstUp (axF x y) x.shape.length else 0) = _
      by_cases h : firstUp (axF x y) x.shape.length = 0 <;> simp [h]
    have e2 : listCmp (cmpC (cmpA n)) x.cells y.cells = if firstUp (ceF (cmpA n) x y) (min x.cells.length y.cells.length) ≠ 0 then firstUp (ceF (cmpA n) x y) (min x.cells.length y.cells.length) else cmp3 x.cells.length y.cells.length := list_first (cmpC (cmpA n)) (0, 0, []) x.cells y.cells
    rw [e1, e2]
theorem ord_arr (n : Nat) : Ord (cmpA n) := by
  induction n with
  | zero => exact ⟨fun _ _ => rfl, fun _ _ _ _ _ => Int.le_refl _, fun _ _ => Or.inr (Or.inl rfl)⟩
  | succ n ih =>
    have h := (ord3.pull (fun x : Ar => (x.shape.length : Int))).lex (((ord_list ord3).pull Ar.shape).lex ((ord_list (ord_cell ih)).pull Ar.cells))
    have e : cmpA (n + 1) = fun x y => if cmp3 x.shape.length y.shape.length ≠ 0 then cmp3 x.shape.length y.shape.length else if listCmp cmp3 x.shape y.shape ≠ 0 then listCmp cmp3 x.shape y.shape else listCmp (cmpC (cmpA n)) x.cells y.cells := by
      funext x y
      exact cmpA_lex n x y
    rw [e]
    exact h
/-- What is the same stands alike to all. -/
theorem Ord.alike {α : Type} {f : α → α → Int} (h : Ord f) {x y z : α} (e : f x y = 0) : f x z = f y z := by
  have a1 := h.anti x y
  have a2 := h.anti x z
  have a3 := h.anti y z
  have t1 := h.trans x y z
  have t2 := h.trans y x z
  have t3 := h.trans z x y
  have t4 := h.trans z y x
  have r1 := h.rng x z
  have r2 := h.rng y z
  rcases r1 with r1 | r1 | r1 <;> rcases r2 with r2 | r2 | r2 <;> omega
end Go.Proofs.YtljanfmmhglpiaaDoor
