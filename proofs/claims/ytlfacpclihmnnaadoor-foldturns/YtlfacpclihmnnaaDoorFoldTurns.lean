/-
  For all int, arrays and bool the statement FoldTurns holds: sums, products, the least and the greatest are the same whichever way round the items stand; no condition (the given row speaks of what a machine of 64 bits can hold, and of the table of layer 4 as its text lays it).
-/
import Derived.Test.YtlfacpclihmnnaaDoorM8
import Derived.WalkKit
import Derived.Test.YtlfacpclihmnnaaDoorChecked
import GoSem.Claim
import GoSem.ClaimJoined
import GoSem.ClaimMapViews
import Derived.JoinedTies
import Derived.KernelRfl
import Derived.ProofKit
import Derived.Below
import Derived.Deep.OwnRows
import Derived.Deep.QuietTactic
import Derived.BigQuiet
import Derived.Deep.RegionWith
import Derived.Laws.MakeOwn
import Derived.Deep.RegionHeld3
import Derived.OpenShut
import Derived.Lib.Mul64
import Derived.Laws.Bits64b
import Derived.ChangeOld
import Derived.SizedLaws
import Derived.Deep.Slices
import Derived.Deep.Strs
import Derived.Deep.LoopGhost
import Derived.Laws.IdiomCopy
import Derived.Deep.Cut
import Derived.Deep.RegionLaw
import Derived.Laws.AppendOwnNone
import Derived.BigFrame
import Derived.Laws.OwnMore
import Derived.OwnWalk
import Derived.Lib.SliceRun
import Derived.Deep.CutRange
import Derived.Laws.EntriesVeiled
import GoSem.ClaimSeven
import Derived.LaidByTextLater
import Derived.SevenTiedAt
import Derived.LaidSub
import Derived.LaidOnce
import Derived.Deep.DeepHandedRow
import Derived.Lib.LaidTab
namespace Go.Proofs.YtlfacpclihmnnaaDoor
open Go.ChangeShapes Go.WideShapes Go.ChangeAt Go.RowKit
open Num (resV resE In64 sgnI absI)
set_option linter.unusedVariables false
set_option linter.unusedSimpArgs false
theorem chk_of {r : Nat} {x : Ar} {s : List Int} {cs : List Ce} (h : chkA r x = 0) (h1 : sizeE s = 0) (h2 : sizeV s = cs.length) (h3 : ¬ hasLong s) (h4 : ∀ i, i < cs.length → ∃ j, j < x.cells.length ∧ cAt cs i = cAt x.cells j) : chkA r (.mk s cs) = 0 := by
  rw [chkA_iff] at h ⊢
  refine ⟨h1, h2, h3, fun i hi => ?_⟩
  obtain ⟨j, hj, e⟩ := h4 i hi
  show chkC (inF r) (cAt cs i) = 0
  rw [e]
  exact h.2.2.2 j hj
theorem firstUp_congr {f g : Nat → Int} {m : Nat} (h : ∀ i, i < m → f i = g i) : firstUp f m = firstUp g m := by
  induction m with
  | zero => rfl
  | succ m ih => simp only [firstUp]; rw [ih fun i hi => h i (by omega), h m (by omega)]
end Go.Proofs.YtlfacpclihmnnaaDoor
namespace Go.Proofs.YtlfacpclihmnnaaDoor
open Go.ChangeShapes Go.WideShapes Go.ChangeAt Go.RowKit
open Num (resV resE In64 sgnI absI)
set_option linter.unusedVariables false
set_option linter.unusedSimpArgs false
theorem frI_min (t : Bool) : ∀ l : List Int, l ≠ [] → (frI 24 t l).2 = 0 ∧ (frI 24 t l).1 ∈ l ∧ ∀ z ∈ l, (frI 24 t l).1 ≤ z
  | [], h => absurd rfl h
  | [a], _ => by simp [frI]
  | a :: b :: r, _ => by
    obtain ⟨h1, h2, h3⟩ := frI_min t (b :: r) (by simp)
    rw [frI, if_pos h1]
    generalize (frI 24 t (b :: r)).1 = m at *
    have e : tvI 24 t a m = min a m := by unfold tvI twoV; cases t <;> simp [Int.min_comm]
    have e2 : teI 24 t a m = 0 := by unfold teI twoE; cases t <;> simp
    refine ⟨e2, ?_, fun z hz => ?_⟩
    · show tvI 24 t a m ∈ _
      rw [e]
      rcases Int.le_total a m with h | h
      · rw [Int.min_eq_left h]; simp
      · rw [Int.min_eq_right h]; exact List.mem_cons_of_mem _ h2
    · show tvI 24 t a m ≤ z
      rw [e]
      rcases List.mem_cons.1 hz with rfl | hz
      · omega
      · have := h3 z hz; omega
theorem frI_max (t : Bool) : ∀ l : List Int, l ≠ [] → (frI 25 t l).2 = 0 ∧ (frI 25 t l).1 ∈ l ∧ ∀ z ∈ l, z ≤ (frI 25 t l).1
  | [], h => absurd rfl h
  | [a], _ => by simp [frI]
  | a :: b :: r, _ => by
    obtain ⟨h1, h2, h3⟩ := frI_max t (b :: r) (by simp)
    rw [frI, if_pos h1]
    generalize (frI 25 t (b :: r)).1 = m at *
    have e : tvI 25 t a m = max a m := by unfold tvI twoV; cases t <;> simp [Int.max_comm]
    have e2 : teI 25 t a m = 0 := by unfold teI twoE; cases t <;> simp
    refine ⟨e2, ?_, fun z hz => ?_⟩
    · show tvI 25 t a m ∈ _
      rw [e]
      rcases Int.le_total a m with h | h
      · rw [Int.max_eq_right h]; exact List.mem_cons_of_mem _ h2
      · rw [Int.max_eq_left h]; simp
    · show z ≤ tvI 25 t a m
      rw [e]
      rcases List.mem_cons.1 hz with rfl | hz
      · omega
      · have := h3 z hz; omega
theorem frI_turn {op : Int} (h : op = 24 ∨ op = 25) (l : List Int) (hl : l ≠ []) : frI op true l.reverse = frI op false l := by
  have hr : l.reverse ≠ [] := by simpa using hl
  rcases h with rfl | rfl
  · obtain ⟨a1, a2, a3⟩ := frI_min true l.reverse hr
    obtain ⟨b1, b2, b3⟩ := frI_min false l hl
    refine Prod.ext ?_ (a1.trans b1.symm)
    exact Int.le_antisymm (a3 _ (by simpa using b2)) (b3 _ (by simpa using a2))
  · obtain ⟨a1, a2, a3⟩ := frI_max true l.reverse hr
    obtain ⟨b1, b2, b3⟩ := frI_max false l hl
    refine Prod.ext ?_ (a1.trans b1.symm)
    exact Int.le_antisymm (b3 _ (by simpa using a2)) (a3 _ (by simpa using b2))
theorem frI_fine {op : Int} (h : op = 24 ∨ op = 25) (t : Bool) (l : List Int) (hl : l ≠ []) : (frI op t l).2 = 0 := by
  rcases h with rfl | rfl
  · exact (frI_min t l hl).1
  · exact (frI_max t l hl).1
theorem t_bad {op : Int} (h : op = 24 ∨ op = 25) (t : Bool) (c d : Ce) (hc : c.1 ≠ 0 ∨ d.1 ≠ 0) : tV op t c d = 0 ∧ tE op t c d = 5 := by
  have ho : isOp op = true := isOp_in (by omega) (by omega)
  have h27 : ¬ (op = 27 ∨ op = 28) := by omega
  have n1 : ¬ (c.1 = 0 ∧ d.1 = 0) := by omega
  have n2 : ¬ (d.1 = 0 ∧ c.1 = 0) := by omega
  unfold tV tE c2V c2E
  rw [ho]
  cases t <;> simp [h27, n1, n2]
theorem frL_bad {op : Int} (h : op = 24 ∨ op = 25) (t : Bool) : ∀ cs : List Ce, 2 ≤ cs.length → (∃ c ∈ cs, c.1 ≠ 0) → frL op t cs = ((0, 0, []), 5)
  | [], hl, _ => by simp at hl
  | [c], hl, _ => by simp at hl
  | [c, d], _, hb => by
    obtain ⟨e, he, hne⟩ := hb
    have hk := t_bad h t c d (by simp at he; rcases he with rfl | rfl; exact Or.inl hne; exact Or.inr hne)
    rw [frL, frL, if_pos rfl, hk.1, hk.2]
  | c :: d :: f :: r, _, hb => by
    rw [frL]
    by_cases hx : ∃ e ∈ d :: f :: r, e.1 ≠ 0
    · rw [frL_bad h t (d :: f :: r) (by simp) hx]
      simp
    · have hall : ∀ e ∈ d :: f :: r, e.1 = 0 := fun e he => Classical.byContradiction fun hn => hx ⟨e, he, hn⟩
      have hc : c.1 ≠ 0 := by
        obtain ⟨e, he, hne⟩ := hb
        rcases List.mem_cons.1 he with rfl | he
        · exact hne
        · exact absurd (hall e he) hne
      have hn := frL_nums t (isOp_in (op := op) (by omega) (by omega)) (by omega) (by omega) (d :: f :: r) (by simp) hall
      have h0 : (frL op t (d :: f :: r)).2 = 0 := by rw [hn]; exact frI_fine h t _ (by simp [valsL])
      rw [if_pos h0]
      have hk := t_bad h t c (frL op t (d :: f :: r)).1 (Or.inl hc)
      rw [hk.1, hk.2]
theorem nprod_append (a b : List Int) : Num.prodL (a ++ b) = Num.prodL a * Num.prodL b := by
  induction a with
  | nil => simp [Num.prodL]
  | cons x a ih => simp only [List.cons_append, Num.prodL, ih, Int.mul_assoc]
theorem nprod_turn (l : List Int) : Num.prodL l.reverse = Num.prodL l := by
  induction l with
  | nil => rfl
  | cons x l ih => rw [List.reverse_cons, nprod_append, ih]; simp only [Num.prodL, Int.mul_one]; exact Int.mul_comm _ _
theorem onceR_turn {X : List Int → Int} (hX : ∀ l, X l.reverse = X l) (cs : List Ce) : onceR X cs.reverse = onceR X cs := by
  unfold onceR
  by_cases h : ∀ c ∈ cs, c.1 = 0
  · have h' : ∀ c ∈ cs.reverse, c.1 = 0 := fun c hc => h c (by simpa using hc)
    rw [preN_full h, preN_full h', preL_full h, preL_full h', if_neg (by omega), if_neg (by omega)]
    have e : valsL cs.reverse = (valsL cs).reverse := by simp [valsL]
    rw [e, hX]
  · have key : ∀ ds : List Ce, (¬ ∀ c ∈ ds, c.1 = 0) → preN ds < ds.length := by
      intro ds hd
      refine Classical.byContradiction fun hn => hd ?_
      have h1 := preN_le ds
      have h2 : preN ds = ds.length := by omega
      unfold preN at h2
      have h3 : ds.takeWhile (fun c : Ce => c.1 == 0) = ds := (List.takeWhile_sublist _).eq_of_length h2
      intro c hc
      rw [← h3] at hc
      have := List.all_takeWhile (l := ds) (p := fun c : Ce => c.1 == 0)
      rw [List.all_eq_true] at this
      simpa using this c hc
    rw [if_pos (key cs h), if_pos (key cs.reverse (by simpa using h))]
theorem rowR_turn {op : Int} (h : op = 21 ∨ op = 23 ∨ op = 24 ∨ op = 25) (cs : List Ce) : rowR op true cs.reverse = rowR op false cs := by
  unfold rowR
  rw [List.length_reverse]
  by_cases h0 : cs.length = 0
  · rw [if_pos h0, if_pos h0]
  rw [if_neg h0, if_neg h0]
  by_cases h1 : cs.length = 1
  · rw [if_pos h1, if_pos h1]
    obtain ⟨c, rfl⟩ := List.length_eq_one_iff.1 h1
    rfl
  rw [if_neg h1, if_neg h1]
  by_cases h21 : op = 21
  · rw [if_pos h21, if_pos h21]; exact onceR_turn (fun l => List.sum_reverse l) cs
  rw [if_neg h21, if_neg h21]
  by_cases h23 : op = 23
  · rw [if_pos h23, if_pos h23]; exact onceR_turn nprod_turn cs
  rw [if_neg h23, if_neg h23]
  have ho : op = 24 ∨ op = 25 := by omega
  by_cases hb : ∃ c ∈ cs, c.1 ≠ 0
  · rw [frL_bad ho false cs (by omega) hb, frL_bad ho true cs.reverse (by rw [List.length_reverse]; omega) (by obtain ⟨c, hc, hn⟩ := hb; exact ⟨c, by simpa using hc, hn⟩)]
  · have hall : ∀ e ∈ cs, e.1 = 0 := fun e he => Classical.byContradiction fun hn => hb ⟨e, he, hn⟩
    have i1 := isOp_in (op := op) (by omega) (by omega)
    rw [frL_nums false i1 (by omega) (by omega) cs (by omega) hall, frL_nums true i1 (by omega) (by omega) cs.reverse (by rw [List.length_reverse]; omega) (fun e he => hall e (by simpa using he))]
    have e : valsL cs.reverse = (valsL cs).reverse := by simp [valsL]
    rw [e, frI_turn ho _ (by intro hn; have := congrArg List.length hn; simp [valsL] at this; simp [this] at h0)]
def rN (last : Bool) : Nat := if last then 1 else 0
theorem rule_ax (last : Bool) (s d : List Int) : ruleL (rN last) s d = turnL s d (axN last s.length) := by cases last <;> simp [ruleL, rN, axN]
theorem turn_at {last : Bool} {s : List Int} {C i j : Nat} (h1 : 0 < s.length) (hs : sizeE s = 0) (hC : sizeV s = (C : Int)) (h0 : 0 < C) (hi : i < mN last s) (hj : j < lgN last s) :
    i * nxN last s + j * stN last (mN last s) < C ∧ (place s (ruleL (rN last) s (digits s ((i * nxN last s + j * stN last (mN last s) : Nat) : Int)))).toNat = i * nxN last s + (lgN last s - 1 - j) * stN last (mN last s) := by
  obtain ⟨e1, e2, e3, e4, e5, -⟩ := lines_all (last := last) h1 hs hC h0
  obtain ⟨-, hlt⟩ := lines_in (last := last) h1 hs hC e1 e2 e3
  have hP := hlt i j hi hj
  refine ⟨hP, ?_⟩
  have hps : psO last (lgN last s) (mN last s) (i * nxN last s + j * stN last (mN last s)) = j := by
    cases last
    · simp only [psO, nxN, stN, Bool.false_eq_true, if_false, Nat.mul_one]
      rw [Nat.add_mul_div_right i j e3, Nat.div_eq_of_lt hi, Nat.zero_add]
    · show (i * lgN true s + j * 1) % lgN true s = j
      rw [Nat.mul_one, Nat.mul_comm, Nat.mul_add_mod, Nat.mod_eq_of_lt hj]
  obtain ⟨P, hPe⟩ : ∃ P, i * nxN last s + j * stN last (mN last s) = P := ⟨_, rfl⟩
  rw [hPe] at hP hps ⊢
  have hax := digit_ax (last := last) h1 hs hC hP
  rw [hps] at hax
  obtain ⟨-, hpos, hpr, -⟩ := sizeV_in (l := s) (n := (P : Int)) hs (by omega) (by omega)
  have hk := axN_lt (last := last) h1
  obtain ⟨hd, hpl⟩ := digits_in hpos (n := (P : Int)) (by omega) (by omega)
  have hdl := digits_length s (P : Int)
  have hlg : gI s (axN last s.length) = (lgN last s : Int) := by rw [← lgI_ax]; unfold lgN at e4 ⊢; omega
  have hst : prodL (s.drop (axN last s.length + 1)) = (stN last (mN last s) : Int) := by
    cases last with
    | true =>
      have ea : axN true s.length + 1 = s.length := by unfold axN; simp; omega
      rw [ea, List.drop_length]
      rfl
    | false =>
      show prodL (s.drop (axN false s.length + 1)) = (mN false s : Int)
      rw [← e2, sizeV_prod e1]
      simp [axN, outS]
  rw [rule_ax]
  unfold turnL
  rw [place_dot _ _ (by simp [hdl]), dot_set _ _ _ _ (by rw [strL_length]; exact hk) (by rw [hdl]; exact hk), ← place_dot _ _ hdl, hpl, hax, hlg, strL_at s _ hk, hst]
  obtain ⟨N, hN⟩ : ∃ N, lgN last s - 1 - j = N := ⟨_, rfl⟩
  rw [hN]
  have hNl : (lgN last s : Int) - 1 - (j : Int) - (j : Int) = (N : Int) - (j : Int) := by omega
  rw [hNl, Int.mul_sub]
  generalize stN last (mN last s) = st at *
  generalize nxN last s = nx at *
  have c0 : ((i * nx + j * st : Nat) : Int) = (P : Int) := by rw [hPe]
  have c1 : (st : Int) * (N : Int) = ((N * st : Nat) : Int) := by rw [Int.natCast_mul, Int.mul_comm]
  have c2 : (st : Int) * (j : Int) = ((j * st : Nat) : Int) := by rw [Int.natCast_mul, Int.mul_comm]
  rw [c1, c2]
  generalize N * st = X at *
  generalize j * st = Y at *
  generalize i * nx = Z at *
  omega
theorem turned_in {last : Bool} {s d : List Int} {C : Nat} (hs : sizeE s = 0) (hC : sizeV s = (C : Int)) (h : inAxes s d) : inAxes s (ruleL (rN last) s d) ∧ place s (ruleL (rN last) s d) < (C : Int) := by
  have hi : inAxes s (ruleL (rN last) s d) := by
    rw [rule_ax]
    by_cases h1 : 0 < s.length
    · exact turn_in _ (axN_lt (last := last) h1) h
    · have e : s = [] := List.length_eq_zero_iff.1 (by omega)
      subst e
      cases d with
      | nil => simpa [turnL] using h
      | cons a b => simp [inAxes] at h
  refine ⟨hi, ?_⟩
  rw [← hC, sizeV_prod hs]
  exact (place_bound hi).2.2.1
theorem turned_from {last : Bool} {x : Ar} (h : chkA 8 x = 0) (i : Nat) (hi : i < x.cells.length) : (place x.shape (ruleL (rN last) x.shape (digits x.shape (i : Int)))).toNat < x.cells.length := by
  obtain ⟨hs, hC⟩ := chk_size h
  obtain ⟨-, hpos, hpr, -⟩ := sizeV_in (l := x.shape) (n := (i : Int)) hs (by omega) (by omega)
  obtain ⟨hd, -⟩ := digits_in hpos (n := (i : Int)) (by omega) (by omega)
  have h1 := turned_in (last := last) hs hC hd
  have h2 := (place_bound h1.1).2.1
  omega
theorem turned_len {last : Bool} {x : Ar} (h : chkA 8 x = 0) : (byR (rN last) x.shape x).cells.length = x.cells.length := by
  obtain ⟨hs, hC⟩ := chk_size h
  show (mkCs (sizeV x.shape).toNat _).length = _
  rw [mkCs_len, hC]; simp
theorem turned_cell {last : Bool} {x : Ar} (h : chkA 8 x = 0) (i : Nat) (hi : i < x.cells.length) : cAt (byR (rN last) x.shape x).cells i = cAt x.cells (place x.shape (ruleL (rN last) x.shape (digits x.shape (i : Int)))).toNat := by
  obtain ⟨hs, hC⟩ := chk_size h
  show cAt (mkCs (sizeV x.shape).toNat _) i = _
  rw [mkCs_at _ _ _ (by omega)]
theorem turned_chk {last : Bool} {x : Ar} (h : chkA 8 x = 0) : chkA 8 (byR (rN last) x.shape x) = 0 := by
  obtain ⟨hs, hC⟩ := chk_size h
  have hlen := turned_len (last := last) h
  refine chk_of (s := x.shape) (cs := (byR (rN last) x.shape x).cells) h hs (by rw [hlen]; exact hC) ((chkA_iff 8 x).1 h).2.2.1 fun i hi => ?_
  rw [hlen] at hi
  exact ⟨_, turned_from h i hi, turned_cell h i hi⟩
theorem mkCs_turn (m : Nat) (g : Nat → Ce) : (mkCs m g).reverse = mkCs m fun i => g (m - 1 - i) := by
  unfold mkCs
  refine List.ext_getElem (by simp) fun i h1 h2 => ?_
  simp at h1
  simp [List.getElem_reverse]
theorem line_turn {last : Bool} {x : Ar} (h : chkA 8 x = 0) (h1 : 0 < x.shape.length) (h0 : 0 < x.cells.length) (i : Nat) (hi : i < mN last x.shape) :
    lnC (byR (rN last) x.shape x).cells (lgN last x.shape) (stN last (mN last x.shape)) (nxN last x.shape) i = (lnC x.cells (lgN last x.shape) (stN last (mN last x.shape)) (nxN last x.shape) i).reverse := by
  obtain ⟨hs, hC⟩ := chk_size h
  unfold lnC
  rw [mkCs_turn]
  refine cs_ext (by rw [mkCs_len, mkCs_len]) fun j hj => ?_
  rw [mkCs_len] at hj
  rw [mkCs_at _ _ _ hj, mkCs_at _ _ _ hj]
  obtain ⟨t1, t2⟩ := turn_at (last := last) h1 hs hC h0 hi hj
  rw [turned_cell h _ t1, t2]
theorem red_turn {op : Int} {last : Bool} {x : Ar} (ho : op = 21 ∨ op = 23 ∨ op = 24 ∨ op = 25) (h : chkA 8 x = 0) : redR op true last (byR (rN last) x.shape x) = redR op false last x := by
  obtain ⟨hs, hC⟩ := chk_size h
  have hy := turned_chk (last := last) h
  have hsh : (byR (rN last) x.shape x).shape = x.shape := rfl
  unfold redR
  have e1 : (fun _ : Nat => chkA 8 (byR (rN last) x.shape x)) = fun _ => chkA 8 x := by rw [hy, h]
  rw [e1, hsh]
  split
  · rfl
  split
  · rename_i hz
    have e : x.shape = [] := List.length_eq_zero_iff.1 hz
    refine Prod.ext ?_ rfl
    cases x with
    | mk s cs =>
      have hlen := turned_len (last := last) h
      have e' : s = [] := e
      show Ar.mk s _ = Ar.mk s cs
      congr 1
      refine cs_ext hlen fun i hi => ?_
      have hi' : i < cs.length := by rw [← show _ = cs.length from hlen]; exact hi
      have hc := turned_cell (last := last) h i hi'
      refine hc.trans ?_
      have hc1 : cs.length = 1 := by
        have : sizeV s = (cs.length : Int) := hC
        rw [e', size_nil.2] at this
        omega
      have hf := turned_from (last := last) h i hi'
      have i0 : i = 0 := by omega
      have p0 : (place s (ruleL (rN last) s (digits s (i : Int)))).toNat = 0 := by
        have : (place s (ruleL (rN last) s (digits s (i : Int)))).toNat < cs.length := hf
        omega
      show cAt cs (place s (ruleL (rN last) s (digits s (i : Int)))).toNat = cAt cs i
      rw [p0, i0]
  split
  · rfl
  rename_i h1 h2
  have h1' : 0 < x.shape.length := by omega
  have h2' := Classical.not_not.1 h2
  have key : ∀ i, i < mN last x.shape → redG op true last (byR (rN last) x.shape x) i = redG op false last x i := by
    intro i hi
    unfold redG
    rw [hsh]
    show rowR op true (lnC _ _ (stN last (mN last x.shape)) _ i) = rowR op false (lnC _ _ (stN last (mN last x.shape)) _ i)
    by_cases h0 : 0 < x.cells.length
    · rw [line_turn h h1' h0 i hi]
      exact rowR_turn ho _
    · have hm : sizeV (outS last x.shape) = (mN last x.shape : Int) := by unfold mN at hi ⊢; omega
      obtain ⟨-, hlt⟩ := lines_in (last := last) h1' hs hC h2' hm (by omega)
      have hlg : lgN last x.shape = 0 := by
        rcases Nat.eq_zero_or_pos (lgN last x.shape) with hz | hz
        · exact hz
        · have := hlt i 0 hi hz; omega
      rw [hlg]
      have e2 : ∀ cs : List Ce, lnC cs 0 (stN last (mN last x.shape)) (nxN last x.shape) i = [] := fun cs => rfl
      rw [e2, e2]
      simp [rowR]
  show filR _ (mN last x.shape) _ = filR _ (mN last x.shape) _
  unfold filR
  rw [firstUp_congr (fun i hi => congrArg Prod.snd (key i hi))]
  split
  · have e : mkCs (mN last x.shape) (fun i => (redG op true last (byR (rN last) x.shape x) i).1) = mkCs (mN last x.shape) fun i => (redG op false last x i).1 := by
      refine cs_ext (by rw [mkCs_len, mkCs_len]) fun i hi => ?_
      rw [mkCs_len] at hi
      rw [mkCs_at _ _ _ hi, mkCs_at _ _ _ hi, key i hi]
    rw [e]
  · rfl
end Go.Proofs.YtlfacpclihmnnaaDoor
namespace Go.Proofs.YtlfacpclihmnnaaDoor.foldTurns
open Go.ChangeShapes Go.WideShapes Go.ChangeAt Go.RowKit
open Num (resV resE In64 sgnI absI)
set_option linter.unusedVariables false
set_option linter.unusedSimpArgs false
set_option maxRecDepth 100000 in
set_option maxHeartbeats 32000000 in
theorem walkF (op : Int) (n : Nat) (x : Ar) (c0 c1 : Value) (w : World) (T : Tab w) (hx : ArIn (n + 1) 0 w x (.agg #[c0, c1])) (sx : Snd x) :
    Calls Tryd.prog 7 #[.int .i64 op, .agg #[c0, c1], .bool false] w fun e w' => e = .returned (.bool true) ∧ Below w.heap.size w w' := by
  obtain ⟨a1, k1, a2, k2, hv, R1, -⟩ := hx.formC
  simp only [Value.agg.injEq, Array.mk.injEq, List.cons.injEq, and_true] at hv
  obtain ⟨rfl, rfl⟩ := hv
  have hin : ∀ k, k < x.cells.length → In64 (cAt x.cells k).2.1 := fun k hk => (sx.cell (cAt_mem hk)).2.1
  obtain ⟨W0, eW⟩ : ∃ W0, w.alloc (.cells #[.slice a1 x.shape.length k1, .slice a2 x.cells.length k2] 25) = W0 := ⟨_, rfl⟩
  have B0 : Below w.heap.size w W0 := by rw [← eW]; exact one_alloc _ _
  have KS : Hid (∀ W, Below W0.heap.size W0 W → W.cell? ⟨w.heap.size, 0, none⟩ = some (.slice a1 x.shape.length k1) ∧ W.cell? ⟨w.heap.size, 1, none⟩ = some (.slice a2 x.cells.length k2)) := fun W h => by
    rw [← eW] at h
    exact ⟨(h.cell (p := ⟨w.heap.size, 0, none⟩) (by simp)).trans (cell_new0 w _ 25 0 _ rfl), (h.cell (p := ⟨w.heap.size, 1, none⟩) (by simp)).trans (cell_new0 w _ 25 1 _ rfl)⟩
  have HX : Hid (∀ W, Below W0.heap.size W0 W → ArIn (n + 1) 0 W x (.agg #[.slice a1 x.shape.length k1, .slice a2 x.cells.length k2])) := fun W h => hx.next (B0.trans (h.mono B0.size))
  have HT : Hid (∀ W, Below W0.heap.size W0 W → Tab W) := fun W h => T.next (B0.trans (h.mono B0.size))
  have HB : Hid (∀ W, Below W0.heap.size W0 W → Below w.heap.size w W) := fun W h => B0.trans (h.mono B0.size)
  have HR : Hid (∀ W, Below W0.heap.size W0 W → Row 0 W a1 x.shape) := fun W h => R1.next (B0.trans (h.mono B0.size))
  have HIN := hide hin
  have hS : x.shape.length ≤ 140737488355328 := R1.1
  have HC1 : Hid (∀ W, Below W0.heap.size W0 W → Calls Tryd.prog 12 #[.agg #[.int .i64 op, .bool false], .agg #[.slice a1 x.shape.length k1, .slice a2 x.cells.length k2], .bool false] W fun e w' => (∃ g1 m1 g2 m2 g3 m3, e = .returned (.tuple #[.agg #[.slice g1 m1 g2, .slice m2 g3 m3], .int .i64 (redR op false false x).2]) ∧ ∀ W', Below w'.heap.size w' W' → ArIn (n + 1) 0 W' (redR op false false x).1 (.agg #[.slice g1 m1 g2, .slice m2 g3 m3])) ∧ Below W.heap.size W w') := fun W h => by
    refine (red12 (HX.out W h) HIN.out (HT.out W h)).mono ?_
    rintro e w' ⟨⟨v, rfl, hv⟩, hb⟩
    obtain ⟨g1, g2, m2, m3, rfl⟩ := hv.form
    exact ⟨⟨_, _, _, _, _, _, rfl, fun W' hW => hv.mono (Nat.zero_le _) hW⟩, hb⟩
  have HCY : Hid (chkA 8 x = 0 → ∀ W, Below W0.heap.size W0 W → Calls Tryd.prog 22 #[.slice a1 x.shape.length k1, .agg #[.slice a1 x.shape.length k1, .slice a2 x.cells.length k2], .int .i64 0] W fun e w' => (∃ g1 m1 g2 m2 g3 m3, e = .returned (.agg #[.slice g1 m1 g2, .slice m2 g3 m3]) ∧ ∀ W', Below w'.heap.size w' W' → ArIn (n + 1) 0 W' (byR (rN false) x.shape x) (.agg #[.slice g1 m1 g2, .slice m2 g3 m3])) ∧ Below W.heap.size W w') := fun hk W h => by
    obtain ⟨hs, hC⟩ := chk_size hk
    have hc16 : x.cells.length ≤ 16384 := by
      by_cases h0 : x.cells.length = 0
      · omega
      · obtain ⟨-, -, hp, hq⟩ := sizeV_in (l := x.shape) (n := 0) hs (by omega) (by omega)
        omega
    have C := rby0_any (cs := k1) (HR.out W h) (HX.out W h) (Below.refl W.heap.size W) hs hs hc16 (fun d hd => turned_in (last := false) hs hC hd)
    refine C.mono ?_
    rintro e w' ⟨⟨v, rfl, hv⟩, hb⟩
    have hv' := hv w' hb (Keeps.refl _ _)
    obtain ⟨g1, g2, m2, m3, rfl⟩ := hv'.form
    exact ⟨⟨_, _, _, _, _, _, rfl, fun W' hW => hv'.next hW⟩, hb⟩
  have HC2 : Hid (∀ g1 m1 g2 m2 g3 m3 W, chkA 8 x = 0 → (op = 21 ∨ op = 23 ∨ op = 24 ∨ op = 25) → Below W0.heap.size W0 W → ArIn (n + 1) 0 W (byR (rN false) x.shape x) (.agg #[.slice g1 m1 g2, .slice m2 g3 m3]) → Calls Tryd.prog 12 #[.agg #[.int .i64 op, .bool true], .agg #[.slice g1 m1 g2, .slice m2 g3 m3], .bool false] W fun e w' => (∃ g1 m1 g2 m2 g3 m3, e = .returned (.tuple #[.agg #[.slice g1 m1 g2, .slice m2 g3 m3], .int .i64 (redR op false false x).2]) ∧ ∀ W', Below w'.heap.size w' W' → ArIn (n + 1) 0 W' (redR op false false x).1 (.agg #[.slice g1 m1 g2, .slice m2 g3 m3])) ∧ Below W.heap.size W w') := fun g1 m1 g2 m2 g3 m3 W hk ho h hy => by
    rw [← red_turn (last := false) ho hk]
    refine (red12 hy (fun k hk2 => by rw [turned_len hk] at hk2; rw [turned_cell hk k hk2]; exact HIN.out _ (turned_from hk k hk2)) (HT.out W h)).mono ?_
    rintro e w' ⟨⟨v, rfl, hv⟩, hb⟩
    obtain ⟨g1, g2, m2, m3, rfl⟩ := hv.form
    exact ⟨⟨_, _, _, _, _, _, rfl, fun W' hW => hv.mono (Nat.zero_le _) hW⟩, hb⟩
  obtain ⟨RA, hRA⟩ : ∃ RA, (redR op false false x).1 = RA := ⟨_, rfl⟩
  obtain ⟨E, hE⟩ : ∃ E, (redR op false false x).2 = E := ⟨_, rfl⟩
  obtain ⟨Y, hY⟩ : ∃ Y, byR (rN false) x.shape x = Y := ⟨_, rfl⟩
  rw [hRA, hE] at HC1 HC2
  rw [hY] at HCY HC2
  have HLI : Hid (∀ W, Below W0.heap.size W0 W → Calls Tryd.prog 9 #[.agg #[.slice a1 x.shape.length k1, .slice a2 x.cells.length k2]] W fun e w' => GivesB W e w') := fun W h => light9 (HX.out W h)
  have HNA : Hid (∀ W, Below W0.heap.size W0 W → Calls Tryd.prog 10 #[.agg #[.slice a1 x.shape.length k1, .slice a2 x.cells.length k2]] W fun e w' => GivesB W e w') := fun W h => narrow10 (HR.out W h) rfl hS
  have HK1 : Hid (∀ W, Below W0.heap.size W0 W → Calls Tryd.prog 21 #[.agg #[.slice a1 x.shape.length k1, .slice a2 x.cells.length k2]] W fun e w' => e = .returned (.int .i64 (chkA 8 x)) ∧ Below W.heap.size W w') := fun W h => rcheck_any (n + 1) x 0 _ W (HX.out W h)
  obtain ⟨EX, hEX⟩ : ∃ EX, chkA 8 x = EX := ⟨_, rfl⟩
  rw [hEX] at HK1 HCY HC2
  clear hx T B0 sx hin R1 HX HR HIN hRA hE hS hY hEX
  generalize x.shape.length = SA at *
  generalize x.cells.length = CA at *
  have J := Below.refl W0.heap.size W0
  obtain ⟨q0, q1⟩ := KS.out W0 J
  have HE := hide eW
  clear eW
  go_enter Tryd.func7, Tryd.ntmps7
  go_upto_region 1 with fail
  rw [HE.out]
  clear HE
  go_wp2_with fail
  clear q0 q1
  refine (HLI.out _ J).mono ?_
  rintro e t0 ⟨⟨rb0, rfl⟩, hb⟩
  replace J := J.trans (hb.mono J.size)
  clear hb
  cases rb0 with
  | false =>
    have B := HB.out _ J
    have CW := works11 t0 (HT.out _ J)
    go_wp2_with fail
    refine CW.mono ?_
    rintro e w9 ⟨rfl, hb9⟩
    go_wp2
    go_ret
    exact ⟨rfl, B.trans (hb9.mono B.size)⟩
  | true =>
  obtain ⟨q0, q1⟩ := KS.out _ J
  go_wp2_with fail
  clear q0 q1
  refine (HNA.out _ J).mono ?_
  rintro e t1 ⟨⟨rb1, rfl⟩, hb⟩
  replace J := J.trans (hb.mono J.size)
  clear hb
  cases rb1 with
  | false =>
    have B := HB.out _ J
    have CW := works11 t1 (HT.out _ J)
    go_wp2_with fail
    refine CW.mono ?_
    rintro e w9 ⟨rfl, hb9⟩
    go_wp2
    go_ret
    exact ⟨rfl, B.trans (hb9.mono B.size)⟩
  | true =>
  obtain ⟨q0, q1⟩ := KS.out _ J
  go_wp2_with fail
  clear q0 q1
  refine (HK1.out _ J).mono ?_
  rintro e t2 ⟨rfl, hb⟩
  replace J := J.trans (hb.mono J.size)
  clear hb
  by_cases hx0 : ¬ EX = 0
  · have gX : (EX == 0) = false := beq_eq_false_iff_ne.2 hx0
    have B := HB.out _ J
    have CW := works11 t2 (HT.out _ J)
    go_wp2_with fail
    refine CW.mono ?_
    rintro e w9 ⟨rfl, hb9⟩
    go_wp2
    go_ret
    exact ⟨rfl, B.trans (hb9.mono B.size)⟩
  have hx0 : EX = 0 := Classical.not_not.1 hx0
  subst hx0
  by_cases hA : op < 21
  · clear HCY HC2 HC1
    have B := HB.out _ J
    have CW := works11 t2 (HT.out _ J)
    go_wp2_with fail
    refine CW.mono ?_
    rintro e w9 ⟨rfl, hb9⟩
    go_wp2
    go_ret
    exact ⟨rfl, B.trans (hb9.mono B.size)⟩
  by_cases hBB : 25 < op
  · clear HCY HC2 HC1
    have B := HB.out _ J
    have CW := works11 t2 (HT.out _ J)
    go_wp2_with fail
    refine CW.mono ?_
    rintro e w9 ⟨rfl, hb9⟩
    go_wp2
    go_ret
    exact ⟨rfl, B.trans (hb9.mono B.size)⟩
  by_cases h22 : op = 22
  · have g22 : (op == 22) = true := beq_iff_eq.2 h22
    clear HCY HC2 HC1
    subst h22
    have B := HB.out _ J
    have CW := works11 t2 (HT.out _ J)
    go_wp2_with fail
    refine CW.mono ?_
    rintro e w9 ⟨rfl, hb9⟩
    go_wp2
    go_ret
    exact ⟨rfl, B.trans (hb9.mono B.size)⟩
  have g22 : (op == 22) = false := beq_eq_false_iff_ne.2 h22
  have hfour : op = 21 ∨ op = 23 ∨ op = 24 ∨ op = 25 := by omega
  have HFOUR := hide hfour
  clear hfour HLI HNA HK1
  obtain ⟨q0, q1⟩ := KS.out _ J
  go_wp2_with fail
  clear q0 q1
  refine (HCY.out (by first | trivial | rfl) _ J).mono ?_
  rintro e w3 ⟨⟨y1, o1, y2, o2, y3, o3, rfl, hv3⟩, hb3⟩
  obtain ⟨W4, e4⟩ : ∃ W4, w3.alloc (.cells #[.slice y1 o1 y2, .slice o2 y3 o3] 25) = W4 := ⟨_, rfl⟩
  have b4 : Below w3.heap.size w3 W4 := by rw [← e4]; exact one_alloc _ _
  have J3 := J.trans (hb3.mono J.size)
  have J4 := J3.trans (b4.mono J3.size)
  have HPY : Hid (∀ W, Below W4.heap.size W4 W → W.cell? ⟨w3.heap.size, 0, none⟩ = some (.slice y1 o1 y2) ∧ W.cell? ⟨w3.heap.size, 1, none⟩ = some (.slice o2 y3 o3)) := fun W h => by
    rw [← e4] at h
    exact ⟨(h.cell (p := ⟨w3.heap.size, 0, none⟩) (by simp)).trans (cell_new0 w3 _ 25 0 _ rfl), (h.cell (p := ⟨w3.heap.size, 1, none⟩) (by simp)).trans (cell_new0 w3 _ 25 1 _ rfl)⟩
  have HYI : Hid (∀ W, Below W4.heap.size W4 W → ArIn (n + 1) 0 W Y (.agg #[.slice y1 o1 y2, .slice o2 y3 o3])) := fun W h => hv3 W (b4.trans (h.mono b4.size))
  obtain ⟨q0, q1⟩ := KS.out _ J4
  have HE4 := hide e4
  obtain ⟨yb, hyb⟩ : ∃ yb, w3.heap.size = yb := ⟨_, rfl⟩
  rw [hyb] at HPY
  have HYB := hide hyb
  clear e4 hv3 hb3 b4 J3 J hyb HCY
  go_upto_region 7 with fail
  rw [HE4.out, HYB.out]
  clear HE4 HYB
  go_wp2_with fail
  clear q0 q1
  refine (HC1.out _ J4).mono ?_
  rintro e w4 ⟨⟨g1, m1, g2, m2, g3, m3, rfl, hv4⟩, hb4⟩
  obtain ⟨W5, e5⟩ : ∃ W5, w4.alloc (.cells #[.slice g1 m1 g2, .slice m2 g3 m3] 25) = W5 := ⟨_, rfl⟩
  have b5 : Below w4.heap.size w4 W5 := by rw [← e5]; exact one_alloc _ _
  have b45 := hb4.trans (b5.mono hb4.size)
  have J5 := J4.trans (b45.mono J4.size)
  have HP : Hid (∀ W, Below W5.heap.size W5 W → W.cell? ⟨w4.heap.size, 0, none⟩ = some (.slice g1 m1 g2) ∧ W.cell? ⟨w4.heap.size, 1, none⟩ = some (.slice m2 g3 m3)) := fun W h => by
    rw [← e5] at h
    exact ⟨(h.cell (p := ⟨w4.heap.size, 0, none⟩) (by simp)).trans (cell_new0 w4 _ 25 0 _ rfl), (h.cell (p := ⟨w4.heap.size, 1, none⟩) (by simp)).trans (cell_new0 w4 _ 25 1 _ rfl)⟩
  obtain ⟨q0, q1⟩ := HPY.out _ b45
  have C2 := HC2.out _ _ _ _ _ _ _ (by first | trivial | rfl) HFOUR.out J5 (HYI.out _ b45)
  have HE5 := hide e5
  obtain ⟨xb, hxb⟩ : ∃ xb, w4.heap.size = xb := ⟨_, rfl⟩
  rw [hxb] at HP
  have HXB := hide hxb
  have HC2' := hide C2
  have HV4 : Hid (∀ W, Below W5.heap.size W5 W → ArIn (n + 1) 0 W RA (.agg #[.slice g1 m1 g2, .slice m2 g3 m3])) := fun W h => hv4 W (b5.trans (h.mono b5.size))
  clear e5 hv4 hb4 b5 b45 J4 hxb HC1 HC2 C2 HYI HPY KS
  go_upto_region 8 with fail
  rw [HE5.out, HXB.out]
  clear HE5 HXB
  go_wp2_with fail
  clear q0 q1
  refine HC2'.out.mono ?_
  rintro e w6 ⟨⟨h1, i1, h2, i2, h3, i3, rfl, hv6⟩, hb6⟩
  obtain ⟨W7, e7⟩ : ∃ W7, w6.alloc (.cells #[.slice h1 i1 h2, .slice i2 h3 i3] 25) = W7 := ⟨_, rfl⟩
  have b7 : Below w6.heap.size w6 W7 := by rw [← e7]; exact one_alloc _ _
  have b67 := hb6.trans (b7.mono hb6.size)
  have J7 := J5.trans (b67.mono J5.size)
  have z0 : W7.cell? ⟨w6.heap.size, 0, none⟩ = some (.slice h1 i1 h2) := by rw [← e7]; exact cell_new0 w6 _ 25 0 _ rfl
  have z1 : W7.cell? ⟨w6.heap.size, 1, none⟩ = some (.slice i2 h3 i3) := by rw [← e7]; exact cell_new0 w6 _ 25 1 _ rfl
  obtain ⟨x0, x1⟩ := HP.out _ b67
  have C5 := rsame_any (HV4.out _ b67) (hv6 _ b7)
  rw [decide_eq_true (cmpA_self (n + 1) RA)] at C5
  have HC5 := hide C5
  have HB7 := hide (HB.out _ J7)
  have HT7 : Hid (∀ W, Below W7.heap.size W7 W → Tab W) := fun W h => HT.out W (J7.trans (h.mono J7.size))
  have HE7 := hide e7
  obtain ⟨vb, hvb⟩ : ∃ vb, w6.heap.size = vb := ⟨_, rfl⟩
  rw [hvb] at z0 z1
  have HVB := hide hvb
  clear C5 HP hv6 b67 hb6 b7 J5 J7 HB HT e7 hvb HC2' HV4
  by_cases hE0 : ¬ E = 0
  · have gE : (E == 0) = false := beq_eq_false_iff_ne.2 hE0
    have gEE : (E == E) = true := beq_iff_eq.2 rfl
    have CW := hide (works11 W7 (HT7.out _ (Below.refl _ _)))
    clear HC5 HT7
    go_upto_region 9 with fail
    rw [HE7.out]
    clear HE7
    go_wp2_with fail
    refine CW.out.mono ?_
    rintro e w9 ⟨rfl, hb9⟩
    go_wp2
    go_ret
    exact ⟨rfl, HB7.out.trans (hb9.mono HB7.out.size)⟩
  have hE1 : E = 0 := Classical.not_not.1 hE0
  clear hE0
  subst hE1
  go_upto_region 9 with fail
  rw [HE7.out, HVB.out]
  clear HE7 HVB
  go_wp2_with fail
  clear x0 x1 z0 z1
  refine HC5.out.mono ?_
  rintro e w8 ⟨rfl, hb8⟩
  have B8 := HB7.out.trans (hb8.mono HB7.out.size)
  have CW := works11 w8 (HT7.out _ hb8)
  clear HT7 HC5
  go_wp2_with fail
  refine CW.mono ?_
  rintro e w9 ⟨rfl, hb9⟩
  go_wp2
  go_ret
  exact ⟨rfl, B8.trans (hb9.mono B8.size)⟩
set_option maxRecDepth 100000 in
set_option maxHeartbeats 32000000 in
theorem walkT (op : Int) (n : Nat) (x : Ar) (c0 c1 : Value) (w : World) (T : Tab w) (hx : ArIn (n + 1) 0 w x (.agg #[c0, c1])) (sx : Snd x) :
    Calls Tryd.prog 7 #[.int .i64 op, .agg #[c0, c1], .bool true] w fun e w' => e = .returned (.bool true) ∧ Below w.heap.size w w' := by
  obtain ⟨a1, k1, a2, k2, hv, R1, -⟩ := hx.formC
  simp only [Value.agg.injEq, Array.mk.injEq, List.cons.injEq, and_true] at hv
  obtain ⟨rfl, rfl⟩ := hv
  have hin : ∀ k, k < x.cells.length → In64 (cAt x.cells k).2.1 := fun k hk => (sx.cell (cAt_mem hk)).2.1
  obtain ⟨W0, eW⟩ : ∃ W0, w.alloc (.cells #[.slice a1 x.shape.length k1, .slice a2 x.cells.length k2] 25) = W0 := ⟨_, rfl⟩
  have B0 : Below w.heap.size w W0 := by rw [← eW]; exact one_alloc _ _
  have KS : Hid (∀ W, Below W0.heap.size W0 W → W.cell? ⟨w.heap.size, 0, none⟩ = some (.slice a1 x.shape.length k1) ∧ W.cell? ⟨w.heap.size, 1, none⟩ = some (.slice a2 x.cells.length k2)) := fun W h => by
    rw [← eW] at h
    exact ⟨(h.cell (p := ⟨w.heap.size, 0, none⟩) (by simp)).trans (cell_new0 w _ 25 0 _ rfl), (h.cell (p := ⟨w.heap.size, 1, none⟩) (by simp)).trans (cell_new0 w _ 25 1 _ rfl)⟩
  have HX : Hid (∀ W, Below W0.heap.size W0 W → ArIn (n + 1) 0 W x (.agg #[.slice a1 x.shape.length k1, .slice a2 x.cells.length k2])) := fun W h => hx.next (B0.trans (h.mono B0.size))
  have HT : Hid (∀ W, Below W0.heap.size W0 W → Tab W) := fun W h => T.next (B0.trans (h.mono B0.size))
  have HB : Hid (∀ W, Below W0.heap.size W0 W → Below w.heap.size w W) := fun W h => B0.trans (h.mono B0.size)
  have HR : Hid (∀ W, Below W0.heap.size W0 W → Row 0 W a1 x.shape) := fun W h => R1.next (B0.trans (h.mono B0.size))
  have HIN := hide hin
  have hS : x.shape.length ≤ 140737488355328 := R1.1
  have HC1 : Hid (∀ W, Below W0.heap.size W0 W → Calls Tryd.prog 12 #[.agg #[.int .i64 op, .bool false], .agg #[.slice a1 x.shape.length k1, .slice a2 x.cells.length k2], .bool true] W fun e w' => (∃ g1 m1 g2 m2 g3 m3, e = .returned (.tuple #[.agg #[.slice g1 m1 g2, .slice m2 g3 m3], .int .i64 (redR op false true x).2]) ∧ ∀ W', Below w'.heap.size w' W' → ArIn (n + 1) 0 W' (redR op false true x).1 (.agg #[.slice g1 m1 g2, .slice m2 g3 m3])) ∧ Below W.heap.size W w') := fun W h => by
    refine (red12 (HX.out W h) HIN.out (HT.out W h)).mono ?_
    rintro e w' ⟨⟨v, rfl, hv⟩, hb⟩
    obtain ⟨g1, g2, m2, m3, rfl⟩ := hv.form
    exact ⟨⟨_, _, _, _, _, _, rfl, fun W' hW => hv.mono (Nat.zero_le _) hW⟩, hb⟩
  have HCY : Hid (chkA 8 x = 0 → ∀ W, Below W0.heap.size W0 W → Calls Tryd.prog 22 #[.slice a1 x.shape.length k1, .agg #[.slice a1 x.shape.length k1, .slice a2 x.cells.length k2], .int .i64 1] W fun e w' => (∃ g1 m1 g2 m2 g3 m3, e = .returned (.agg #[.slice g1 m1 g2, .slice m2 g3 m3]) ∧ ∀ W', Below w'.heap.size w' W' → ArIn (n + 1) 0 W' (byR (rN true) x.shape x) (.agg #[.slice g1 m1 g2, .slice m2 g3 m3])) ∧ Below W.heap.size W w') := fun hk W h => by
    obtain ⟨hs, hC⟩ := chk_size hk
    have hc16 : x.cells.length ≤ 16384 := by
      by_cases h0 : x.cells.length = 0
      · omega
      · obtain ⟨-, -, hp, hq⟩ := sizeV_in (l := x.shape) (n := 0) hs (by omega) (by omega)
        omega
    have C := rby1_any (cs := k1) (HR.out W h) (HX.out W h) (Below.refl W.heap.size W) hs hs hc16 (fun d hd => turned_in (last := true) hs hC hd)
    refine C.mono ?_
    rintro e w' ⟨⟨v, rfl, hv⟩, hb⟩
    have hv' := hv w' hb (Keeps.refl _ _)
    obtain ⟨g1, g2, m2, m3, rfl⟩ := hv'.form
    exact ⟨⟨_, _, _, _, _, _, rfl, fun W' hW => hv'.next hW⟩, hb⟩
  have HC2 : Hid (∀ g1 m1 g2 m2 g3 m3 W, chkA 8 x = 0 → (op = 21 ∨ op = 23 ∨ op = 24 ∨ op = 25) → Below W0.heap.size W0 W → ArIn (n + 1) 0 W (byR (rN true) x.shape x) (.agg #[.slice g1 m1 g2, .slice m2 g3 m3]) → Calls Tryd.prog 12 #[.agg #[.int .i64 op, .bool true], .agg #[.slice g1 m1 g2, .slice m2 g3 m3], .bool true] W fun e w' => (∃ g1 m1 g2 m2 g3 m3, e = .returned (.tuple #[.agg #[.slice g1 m1 g2, .slice m2 g3 m3], .int .i64 (redR op false true x).2]) ∧ ∀ W', Below w'.heap.size w' W' → ArIn (n + 1) 0 W' (redR op false true x).1 (.agg #[.slice g1 m1 g2, .slice m2 g3 m3])) ∧ Below W.heap.size W w') := fun g1 m1 g2 m2 g3 m3 W hk ho h hy => by
    rw [← red_turn (last := true) ho hk]
    refine (red12 hy (fun k hk2 => by rw [turned_len hk] at hk2; rw [turned_cell hk k hk2]; exact HIN.out _ (turned_from hk k hk2)) (HT.out W h)).mono ?_
    rintro e w' ⟨⟨v, rfl, hv⟩, hb⟩
    obtain ⟨g1, g2, m2, m3, rfl⟩ := hv.form
    exact ⟨⟨_, _, _, _, _, _, rfl, fun W' hW => hv.mono (Nat.zero_le _) hW⟩, hb⟩
  obtain ⟨RA, hRA⟩ : ∃ RA, (redR op false true x).1 = RA := ⟨_, rfl⟩
  obtain ⟨E, hE⟩ : ∃ E, (redR op false true x).2 = E := ⟨_, rfl⟩
  obtain ⟨Y, hY⟩ : ∃ Y, byR (rN true) x.shape x = Y := ⟨_, rfl⟩
  rw [hRA, hE] at HC1 HC2
  rw [hY] at HCY HC2
  have HLI : Hid (∀ W, Below W0.heap.size W0 W → Calls Tryd.prog 9 #[.agg #[.slice a1 x.shape.length k1, .slice a2 x.cells.length k2]] W fun e w' => GivesB W e w') := fun W h => light9 (HX.out W h)
  have HNA : Hid (∀ W, Below W0.heap.size W0 W → Calls Tryd.prog 10 #[.agg #[.slice a1 x.shape.length k1, .slice a2 x.cells.length k2]] W fun e w' => GivesB W e w') := fun W h => narrow10 (HR.out W h) rfl hS
  have HK1 : Hid (∀ W, Below W0.heap.size W0 W → Calls Tryd.prog 21 #[.agg #[.slice a1 x.shape.length k1, .slice a2 x.cells.length k2]] W fun e w' => e = .returned (.int .i64 (chkA 8 x)) ∧ Below W.heap.size W w') := fun W h => rcheck_any (n + 1) x 0 _ W (HX.out W h)
  obtain ⟨EX, hEX⟩ : ∃ EX, chkA 8 x = EX := ⟨_, rfl⟩
  rw [hEX] at HK1 HCY HC2
  clear hx T B0 sx hin R1 HX HR HIN hRA hE hS hY hEX
  generalize x.shape.length = SA at *
  generalize x.cells.length = CA at *
  have J := Below.refl W0.heap.size W0
  obtain ⟨q0, q1⟩ := KS.out W0 J
  have HE := hide eW
  clear eW
  go_enter Tryd.func7, Tryd.ntmps7
  go_upto_region 1 with fail
  rw [HE.out]
  clear HE
  go_wp2_with fail
  clear q0 q1
  refine (HLI.out _ J).mono ?_
  rintro e t0 ⟨⟨rb0, rfl⟩, hb⟩
  replace J := J.trans (hb.mono J.size)
  clear hb
  cases rb0 with
  | false =>
    have B := HB.out _ J
    have CW := works11 t0 (HT.out _ J)
    go_wp2_with fail
    refine CW.mono ?_
    rintro e w9 ⟨rfl, hb9⟩
    go_wp2
    go_ret
    exact ⟨rfl, B.trans (hb9.mono B.size)⟩
  | true =>
  obtain ⟨q0, q1⟩ := KS.out _ J
  go_wp2_with fail
  clear q0 q1
  refine (HNA.out _ J).mono ?_
  rintro e t1 ⟨⟨rb1, rfl⟩, hb⟩
  replace J := J.trans (hb.mono J.size)
  clear hb
  cases rb1 with
  | false =>
    have B := HB.out _ J
    have CW := works11 t1 (HT.out _ J)
    go_wp2_with fail
    refine CW.mono ?_
    rintro e w9 ⟨rfl, hb9⟩
    go_wp2
    go_ret
    exact ⟨rfl, B.trans (hb9.mono B.size)⟩
  | true =>
  obtain ⟨q0, q1⟩ := KS.out _ J
  go_wp2_with fail
  clear q0 q1
  refine (HK1.out _ J).mono ?_
  rintro e t2 ⟨rfl, hb⟩
  replace J := J.trans (hb.mono J.size)
  clear hb
  by_cases hx0 : ¬ EX = 0
  · have gX : (EX == 0) = false := beq_eq_false_iff_ne.2 hx0
    have B := HB.out _ J
    have CW := works11 t2 (HT.out _ J)
    go_wp2_with fail
    refine CW.mono ?_
    rintro e w9 ⟨rfl, hb9⟩
    go_wp2
    go_ret
    exact ⟨rfl, B.trans (hb9.mono B.size)⟩
  have hx0 : EX = 0 := Classical.not_not.1 hx0
  subst hx0
  by_cases hA : op < 21
  · clear HCY HC2 HC1
    have B := HB.out _ J
    have CW := works11 t2 (HT.out _ J)
    go_wp2_with fail
    refine CW.mono ?_
    rintro e w9 ⟨rfl, hb9⟩
    go_wp2
    go_ret
    exact ⟨rfl, B.trans (hb9.mono B.size)⟩
  by_cases hBB : 25 < op
  · clear HCY HC2 HC1
    have B := HB.out _ J
    have CW := works11 t2 (HT.out _ J)
    go_wp2_with fail
    refine CW.mono ?_
    rintro e w9 ⟨rfl, hb9⟩
    go_wp2
    go_ret
    exact ⟨rfl, B.trans (hb9.mono B.size)⟩
  by_cases h22 : op = 22
  · have g22 : (op == 22) = true := beq_iff_eq.2 h22
    clear HCY HC2 HC1
    subst h22
    have B := HB.out _ J
    have CW := works11 t2 (HT.out _ J)
    go_wp2_with fail
    refine CW.mono ?_
    rintro e w9 ⟨rfl, hb9⟩
    go_wp2
    go_ret
    exact ⟨rfl, B.trans (hb9.mono B.size)⟩
  have g22 : (op == 22) = false := beq_eq_false_iff_ne.2 h22
  have hfour : op = 21 ∨ op = 23 ∨ op = 24 ∨ op = 25 := by omega
  have HFOUR := hide hfour
  clear hfour HLI HNA HK1
  obtain ⟨q0, q1⟩ := KS.out _ J
  go_wp2_with fail
  clear q0 q1
  refine (HCY.out (by first | trivial | rfl) _ J).mono ?_
  rintro e w3 ⟨⟨y1, o1, y2, o2, y3, o3, rfl, hv3⟩, hb3⟩
  obtain ⟨W4, e4⟩ : ∃ W4, w3.alloc (.cells #[.slice y1 o1 y2, .slice o2 y3 o3] 25) = W4 := ⟨_, rfl⟩
  have b4 : Below w3.heap.size w3 W4 := by rw [← e4]; exact one_alloc _ _
  have J3 := J.trans (hb3.mono J.size)
  have J4 := J3.trans (b4.mono J3.size)
  have HPY : Hid (∀ W, Below W4.heap.size W4 W → W.cell? ⟨w3.heap.size, 0, none⟩ = some (.slice y1 o1 y2) ∧ W.cell? ⟨w3.heap.size, 1, none⟩ = some (.slice o2 y3 o3)) := fun W h => by
    rw [← e4] at h
    exact ⟨(h.cell (p := ⟨w3.heap.size, 0, none⟩) (by simp)).trans (cell_new0 w3 _ 25 0 _ rfl), (h.cell (p := ⟨w3.heap.size, 1, none⟩) (by simp)).trans (cell_new0 w3 _ 25 1 _ rfl)⟩
  have HYI : Hid (∀ W, Below W4.heap.size W4 W → ArIn (n + 1) 0 W Y (.agg #[.slice y1 o1 y2, .slice o2 y3 o3])) := fun W h => hv3 W (b4.trans (h.mono b4.size))
  obtain ⟨q0, q1⟩ := KS.out _ J4
  have HE4 := hide e4
  obtain ⟨yb, hyb⟩ : ∃ yb, w3.heap.size = yb := ⟨_, rfl⟩
  rw [hyb] at HPY
  have HYB := hide hyb
  clear e4 hv3 hb3 b4 J3 J hyb HCY
  go_upto_region 7 with fail
  rw [HE4.out, HYB.out]
  clear HE4 HYB
  go_wp2_with fail
  clear q0 q1
  refine (HC1.out _ J4).mono ?_
  rintro e w4 ⟨⟨g1, m1, g2, m2, g3, m3, rfl, hv4⟩, hb4⟩
  obtain ⟨W5, e5⟩ : ∃ W5, w4.alloc (.cells #[.slice g1 m1 g2, .slice m2 g3 m3] 25) = W5 := ⟨_, rfl⟩
  have b5 : Below w4.heap.size w4 W5 := by rw [← e5]; exact one_alloc _ _
  have b45 := hb4.trans (b5.mono hb4.size)
  have J5 := J4.trans (b45.mono J4.size)
  have HP : Hid (∀ W, Below W5.heap.size W5 W → W.cell? ⟨w4.heap.size, 0, none⟩ = some (.slice g1 m1 g2) ∧ W.cell? ⟨w4.heap.size, 1, none⟩ = some (.slice m2 g3 m3)) := fun W h => by
    rw [← e5] at h
    exact ⟨(h.cell (p := ⟨w4.heap.size, 0, none⟩) (by simp)).trans (cell_new0 w4 _ 25 0 _ rfl), (h.cell (p := ⟨w4.heap.size, 1, none⟩) (by simp)).trans (cell_new0 w4 _ 25 1 _ rfl)⟩
  obtain ⟨q0, q1⟩ := HPY.out _ b45
  have C2 := HC2.out _ _ _ _ _ _ _ (by first | trivial | rfl) HFOUR.out J5 (HYI.out _ b45)
  have HE5 := hide e5
  obtain ⟨xb, hxb⟩ : ∃ xb, w4.heap.size = xb := ⟨_, rfl⟩
  rw [hxb] at HP
  have HXB := hide hxb
  have HC2' := hide C2
  have HV4 : Hid (∀ W, Below W5.heap.size W5 W → ArIn (n + 1) 0 W RA (.agg #[.slice g1 m1 g2, .slice m2 g3 m3])) := fun W h => hv4 W (b5.trans (h.mono b5.size))
  clear e5 hv4 hb4 b5 b45 J4 hxb HC1 HC2 C2 HYI HPY KS
  go_upto_region 8 with fail
  rw [HE5.out, HXB.out]
  clear HE5 HXB
  go_wp2_with fail
  clear q0 q1
  refine HC2'.out.mono ?_
  rintro e w6 ⟨⟨h1, i1, h2, i2, h3, i3, rfl, hv6⟩, hb6⟩
  obtain ⟨W7, e7⟩ : ∃ W7, w6.alloc (.cells #[.slice h1 i1 h2, .slice i2 h3 i3] 25) = W7 := ⟨_, rfl⟩
  have b7 : Below w6.heap.size w6 W7 := by rw [← e7]; exact one_alloc _ _
  have b67 := hb6.trans (b7.mono hb6.size)
  have J7 := J5.trans (b67.mono J5.size)
  have z0 : W7.cell? ⟨w6.heap.size, 0, none⟩ = some (.slice h1 i1 h2) := by rw [← e7]; exact cell_new0 w6 _ 25 0 _ rfl
  have z1 : W7.cell? ⟨w6.heap.size, 1, none⟩ = some (.slice i2 h3 i3) := by rw [← e7]; exact cell_new0 w6 _ 25 1 _ rfl
  obtain ⟨x0, x1⟩ := HP.out _ b67
  have C5 := rsame_any (HV4.out _ b67) (hv6 _ b7)
  rw [decide_eq_true (cmpA_self (n + 1) RA)] at C5
  have HC5 := hide C5
  have HB7 := hide (HB.out _ J7)
  have HT7 : Hid (∀ W, Below W7.heap.size W7 W → Tab W) := fun W h => HT.out W (J7.trans (h.mono J7.size))
  have HE7 := hide e7
  obtain ⟨vb, hvb⟩ : ∃ vb, w6.heap.size = vb := ⟨_, rfl⟩
  rw [hvb] at z0 z1
  have HVB := hide hvb
  clear C5 HP hv6 b67 hb6 b7 J5 J7 HB HT e7 hvb HC2' HV4
  by_cases hE0 : ¬ E = 0
  · have gE : (E == 0) = false := beq_eq_false_iff_ne.2 hE0
    have gEE : (E == E) = true := beq_iff_eq.2 rfl
    have CW := hide (works11 W7 (HT7.out _ (Below.refl _ _)))
    clear HC5 HT7
    go_upto_region 9 with fail
    rw [HE7.out]
    clear HE7
    go_wp2_with fail
    refine CW.out.mono ?_
    rintro e w9 ⟨rfl, hb9⟩
    go_wp2
    go_ret
    exact ⟨rfl, HB7.out.trans (hb9.mono HB7.out.size)⟩
  have hE1 : E = 0 := Classical.not_not.1 hE0
  clear hE0
  subst hE1
  go_upto_region 9 with fail
  rw [HE7.out, HVB.out]
  clear HE7 HVB
  go_wp2_with fail
  clear x0 x1 z0 z1
  refine HC5.out.mono ?_
  rintro e w8 ⟨rfl, hb8⟩
  have B8 := HB7.out.trans (hb8.mono HB7.out.size)
  have CW := works11 w8 (HT7.out _ hb8)
  clear HT7 HC5
  go_wp2_with fail
  refine CW.mono ?_
  rintro e w9 ⟨rfl, hb9⟩
  go_wp2
  go_ret
  exact ⟨rfl, B8.trans (hb9.mono B8.size)⟩
theorem walk (op : Int) (n0 : Nat) (x : Ar) (c0 c1 : Value) (last : Bool) (w : World) (T : Tab w) (ho : I64 op) (hx : ArIn n0 0 w x (.agg #[c0, c1])) (sx : Snd x) :
    Calls Tryd.prog 7 #[.int .i64 op, .agg #[c0, c1], .bool last] w fun e w' => e = .returned (.bool true) ∧ Below w.heap.size w w' := by
  cases last with
  | false => exact walkF op n0 x c0 c1 w T (hx.deep (by omega)) sx
  | true => exact walkT op n0 x c0 c1 w T (hx.deep (by omega)) sx
theorem laid_met (os : Os) : laidMet Tryd.prog Rows.foldTurnsRow.laid ((laidWorld os).forCall (fun _ _ => 0) ⟨#[], #[.int .i64 0, .agg #[.slice none 0 0, .slice none 0 0], .bool false], []⟩).memory :=
  laidMet_of_run' 8 (by kernel_rfl) (by kernel_rfl)
theorem reads (os : Os) {H : Type} (enc : TypeId × Value → H) : ∃ places, DataW.whole enc Tryd.prog ((laidWorld os).forCall (fun _ _ => 0) ⟨#[], #[.int .i64 0, .agg #[.slice none 0 0, .slice none 0 0], .bool false], []⟩).memory Tryd.f7.params.toList Rows.foldTurnsSpec.vars false #[Value.int .i64 0, Value.agg #[.slice none 0 0, .slice none 0 0], Value.bool false].toList 8 = some ([.lit (.int .i64 0), .agg [.nil, .nil], .lit (.bool false)], [], places) :=
  ⟨[], by kernel_rfl⟩
set_option maxRecDepth 100000 in
theorem lifted (os : Os) (started : os.Started) (H : Type) (enc : TypeId × Value → H) (F : Stop.Interp) :
    ReturnsInHanded {} Tryd.checked os 7 .any ((OpenSpec.ofChange Rows.foldTurnsSpec).preRow enc Tryd.prog Tryd.f7 Rows.foldTurnsRow.domain false Rows.foldTurnsRow.laid) (((OpenSpec.ofChange Rows.foldTurnsSpec).at F).post enc Tryd.prog Tryd.f7 false true false false) := by
  obtain ⟨places, hx⟩ := reads os enc
  refine returnsInHanded_of_row (C := Tryd.checked) (s := OpenSpec.ofChange Rows.foldTurnsSpec) own started (by kernel_rfl) Tryd.func7
    (witness_row_at (enc := enc) (C := Tryd.checked) false (laidWorld os) #[.int .i64 0, .agg #[.slice none 0 0, .slice none 0 0], .bool false] rfl (by kernel_rfl) (by kernel_rfl) (by kernel_rfl)
      (OpenSpec.preRow_of_cond 8 hx (by kernel_rfl) (fun k hk => by cases hk) (by kernel_rfl) (laid_met os))) ?_
  intro W base args ds gs before hval0 hW _ hcond hsz0 hL _ _
  have hsz : (DataW.weightsEach Tryd.prog (Tryd.f7.params.toList ++ Rows.foldTurnsSpec.plain.varTypes Tryd.prog) (ds ++ gs)).all (· ≤ reachBytes) = true := hsz0
  clear hsz0
  have hval : ∀ (j : Nat) t v, Tryd.f7.params[j]? = some t → args[j]? = some v → Value.okWide Tryd.prog W .any base t v := hval0
  have hW' := hW
  obtain ⟨p, q, hA0, hV, rfl, hfz, hnd⟩ := hW
  have hA : DataW.TrodAll enc Tryd.prog W 0 (fun _ => true) true Tryd.f7.params.toList args.toList ds p := hA0
  rw [Tryd.params7] at hA hval hsz
  obtain ⟨v0, vs0, d0, ds0, p0, q0, hargs, rfl, rfl, h0, r0⟩ := trodAll_cons hA
  obtain ⟨v1, vs1, d1, ds1, p1, q1, rfl, rfl, rfl, h1, r1⟩ := trodAll_cons r0
  obtain ⟨v2, vs2, d2, ds2, p2, q2, rfl, rfl, rfl, h2, r2⟩ := trodAll_cons r1
  obtain ⟨rfl, rfl, rfl⟩ := trodAll_nil r2
  obtain rfl : args = #[v0, v1, v2] := by cases args; simp_all
  obtain ⟨rfl, rfl⟩ := trodVars_none hV
  obtain ⟨x0, rfl, rfl, rfl, w0⟩ := open_int Tryd.underlying3 (hval 0 3 v0 rfl rfl) h0
  have k1 := h1
  have lt1 : ∀ x ∈ p1, x.block < W.heap.size := by obtain ⟨m, hm⟩ := k1; exact DataW.trod_lt m _ _ _ hm
  obtain ⟨n1, y1, c10, c11, hc1, w1, s1⟩ := arr_of hsz (j := 1) rfl rfl h1
  obtain rfl := agg_two hc1
  obtain ⟨x2, rfl, rfl, rfl⟩ := open_bool Tryd.underlying4 (hval 2 4 v2 rfl rfl) h2
  clear hA0 hval0
  refine (walk x0 n1 y1 c10 c11 x2 W (tab_of hL) (bounds_i64 w0) w1 s1).mono fun e W' ⟨he, bel⟩ => ?_
  subst he
  exact ⟨_, rfl, _, _, _, [], _, [], hW', trodAll_mk1 (shut_bool Tryd.underlying4 _), (trodAll_cons_mk (shut_int Tryd.underlying3 w0) (trodAll_cons_mk (Below.trod laidOut (by kernel_rfl) (of_decide_eq_true (by kernel_rfl)) k1 bel lt1) (trodAll_cons_mk (shut_bool Tryd.underlying4 _) trodAll_mk0))), rfl, bel.frame _, fun h => by cases h⟩
theorem said : Rows.FoldTurnsSaid :=
  OpenClaim.holds_of_cond 7 Tryd.f7 rfl rfl rfl rfl rfl rfl rfl ⟨rfl, rfl, rfl, rfl, rfl⟩ rfl rfl rfl rfl rfl (by kernel_rfl) Tryd.func7 (by kernel_rfl)
    (of_decide_eq_true (by kernel_rfl)) (by unfold Func.isWrapper; first | (rw [if_pos (by decide +kernel)]; kernel_rfl) | (rw [if_neg (by decide +kernel)]; exact ⟨rfl, rfl⟩))
    (fun os started H enc _ F => by rw [OpenClaim.pre_eq_preRow]; exact lifted os started H enc F)
theorem plain (f : FuncId) (fn : Func) (hf : Tryd.pinned.checked.prog.funcNamed "triglyph/triglyphlaw08.FoldTurns" = some f) (hfn : Tryd.pinned.checked.prog.funcs[f]? = some fn) :
    false = Tryd.pinned.checked.prog.looks [] ∧ ∀ (j : Nat) t, fn.params[j]? = some t → Tryd.pinned.checked.prog.wantsStandIn t = false := by
  obtain rfl : f = 7 := Option.some.inj ((show Tryd.prog.funcNamed "triglyph/triglyphlaw08.FoldTurns" = some 7 by kernel_rfl).symm.trans hf) |>.symm
  obtain rfl : fn = Tryd.f7 := (Option.some.inj (Tryd.func7.symm.trans hfn)).symm
  refine ⟨by kernel_rfl, fun j t ht => ?_⟩
  rw [Tryd.params7] at ht
  have hm : t = 3 ∨ t = 25 ∨ t = 4 := by simpa using Array.mem_of_getElem? ht
  rcases hm with rfl | rfl | rfl
  · exact (show Tryd.prog.wantsStandIn 3 = false by kernel_rfl)
  · exact (show Tryd.prog.wantsStandIn 25 = false by kernel_rfl)
  · exact (show Tryd.prog.wantsStandIn 4 = false by kernel_rfl)
theorem proved : Rows.FoldTurnsCardSaid :=
  Claim7.holds_tied_plain_at .later [] _ _ _ _ said (fun _ h => by cases h) (by kernel_rfl) (fun _ h => by cases h) foldTurns_row_tie rfl ⟨rfl, rfl⟩ (by kernel_rfl) rfl plain (by kernel_rfl)
end Go.Proofs.YtlfacpclihmnnaaDoor.foldTurns
namespace Go.Proofs.YtlfacpclihmnnaaDoor
theorem foldTurns_holds : Rows.FoldTurnsCardSaid := foldTurns.proved
#print axioms foldTurns_holds
end Go.Proofs.YtlfacpclihmnnaaDoor
