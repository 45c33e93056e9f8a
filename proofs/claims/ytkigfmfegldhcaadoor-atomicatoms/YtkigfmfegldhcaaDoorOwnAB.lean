/-
  The contract of layer 3's Copy: the same array in memory of its own; for all arrays that may be.
-/
import Derived.Test.YtkigfmfegldhcaaDoorOwnAA
import Derived.Laws.IdiomCopy
import Derived.Deep.Cut
namespace Go.Proofs.YtkigfmfegldhcaaDoor
open Go.ChangeShapes Go.WideShapes Go.ChangeAt Go.RowKit
set_option linter.unusedVariables false
theorem firstUp_none {f : Nat → Int} {m : Nat} (h : firstUp f m = 0) : ∀ i, i < m → f i = 0 := fun i hi => by
  rw [← firstUp_step (firstUp_zero h i (by omega))]
  exact firstUp_zero h (i + 1) hi
/-- What is known of an array that may be. -/
theorem chk_ok {r : Nat} {x : Ar} (h : chkA r x = 0) : ∃ f : Ar → Int, (∀ y, f y = 0 → ∃ r, chkA r y = 0) ∧ x.shape.length ≤ 8 ∧ x.cells.length ≤ 16384 ∧ ∀ i, i < x.cells.length → chkC f (cAt x.cells i) = 0 := by
  have key : ∀ f : Ar → Int, chkB f x = 0 → x.shape.length ≤ 8 ∧ x.cells.length ≤ 16384 ∧ ∀ i, i < x.cells.length → chkC f (cAt x.cells i) = 0 := by
    intro f hb
    unfold chkB at hb
    by_cases h1 : sizeE x.shape = 0
    · rw [if_neg (fun k => k h1)] at hb
      by_cases h2 : sizeV x.shape = x.cells.length
      · rw [if_neg (fun k => k h2)] at hb
        by_cases h3 : hasLong x.shape
        · rw [if_pos h3] at hb; omega
        · rw [if_neg h3] at hb
          obtain ⟨s1, s2, s3⟩ := sizeE_ok h1
          refine ⟨by omega, ?_, firstUp_none hb⟩
          rcases s3 with s3 | ⟨s3, s4⟩
          · have := (size_zero s1 s2 s3).1
            omega
          · have := (size_ok s1 s2 s3 (by omega)).1
            omega
      · rw [if_pos h2] at hb; omega
    · rw [if_pos h1] at hb; exact absurd hb h1
  cases r with
  | zero => exact ⟨fun _ => 15, fun y hy => absurd (show (15 : Int) = 0 from hy) (by decide), key _ h⟩
  | succ r => exact ⟨chkA r, fun y hy => ⟨r, hy⟩, key _ h⟩
theorem setCells_block (b : Nat) (vs : List Value) (o : Nat) (w : World) : (w.setCells b o vs).heap.size = w.heap.size ∧ ∀ k, k ≠ b → (w.setCells b o vs).heap[k]? = w.heap[k]? := by
  induction vs generalizing o w with
  | nil => exact ⟨rfl, fun _ _ => rfl⟩
  | cons v vs ih =>
    obtain ⟨h1, h2⟩ := ih (o + 1) (w.setCell ⟨b, o, none⟩ v)
    refine ⟨by show (((w.setCell ⟨b, o, none⟩ v).setCells b (o + 1) vs)).heap.size = _; rw [h1]; simp, fun k hk => ?_⟩
    show (((w.setCell ⟨b, o, none⟩ v).setCells b (o + 1) vs)).heap[k]? = _
    rw [h2 k hk]
    exact Below.heap_setCell w _ v k hk
theorem below_setCells {B : Nat} {a : World} (b : Nat) (hB : B ≤ b) (vs : List Value) (o : Nat) (w : World) (h : Below B a w) : Below B a (w.setCells b o vs) := by
  induction vs generalizing o w with
  | nil => exact h
  | cons v vs ih => exact ih (o + 1) _ (h.setCell (p := ⟨b, o, none⟩) hB v)
/-- copy into a row of the call's own, whatever the source. -/
theorem run_copy_any {P : Program} {w : World} (ty : TypeId) (hu : P.underlying 22 = some (.slice 3)) (hsz : (P.info? 3).map (·.size) = some 1)
    (b L dCap : Nat) (sp : Option Addr) (sCap : Nat) (cs : List Value) (hn : cs.length = L)
    (hsrc : 0 < cs.length → ∃ ad, sp = some ad ∧ ∀ j v, cs[j]? = some v → w.cell? (ad.add j) = some v) (hc : ∀ j, j < cs.length → (w.cell? ⟨b, 0 + j, none⟩).isSome = true) (hf : ∀ j, j < cs.length → w.frozen? ⟨b, 0 + j, none⟩ = false) (h1 : ∀ v ∈ cs, v.oneCell' = true) :
    (Builtin.copy_ #[22, 22] ty #[.slice (some ⟨b, 0, none⟩) L dCap, .slice sp L sCap]).run P w = .ok (goInt L) (w.setCells b 0 cs) := by
  subst hn
  by_cases h0 : cs.length = 0
  · have hcs : cs = [] := List.eq_nil_of_length_eq_zero h0
    subst hcs
    exact run_copy_none (P := P) w 22 22 ty 3 (some ⟨b, 0, none⟩) sp 0 dCap 0 sCap hu hsz rfl
  · obtain ⟨ad, rfl, hsr⟩ := hsrc (by omega)
    exact run_copy_cells (P := P) w 22 22 ty 3 b 0 cs.length dCap ad cs.length sCap cs hu hsz (Nat.min_self _).symm hsr hc hf h1
theorem size3 : (Tryd.prog.info? 3).map (·.size) = some 1 := by kernel_rfl
theorem alloc3 (W : World) (o1 o2 o3 : Obj) : (((W.alloc o1).alloc o2).alloc o3).drew.heap[W.heap.size]? = some o1 ∧ (((W.alloc o1).alloc o2).alloc o3).drew.heap[W.heap.size + 1]? = some o2 ∧ (((W.alloc o1).alloc o2).alloc o3).drew.heap[W.heap.size + 2]? = some o3 ∧ (((W.alloc o1).alloc o2).alloc o3).drew.heap.size = W.heap.size + 3 ∧ Below W.heap.size W (((W.alloc o1).alloc o2).alloc o3).drew := by
  have hh : (((W.alloc o1).alloc o2).alloc o3).drew.heap = ((W.heap.push o1).push o2).push o3 := rfl
  rw [hh]
  have z1 : (W.heap.push o1).size = W.heap.size + 1 := by simp
  have z2 : ((W.heap.push o1).push o2).size = W.heap.size + 2 := by simp
  refine ⟨?_, ?_, ?_, by simp, ?_⟩
  · rw [Array.getElem?_push, z2, if_neg (by omega), Array.getElem?_push, z1, if_neg (by omega), Array.getElem?_push, if_pos rfl]
  · rw [Array.getElem?_push, z2, if_neg (by omega), Array.getElem?_push, z1, if_pos rfl]
  · rw [Array.getElem?_push, z2, if_pos rfl]
  exact ((((Below.refl _ _).alloc (Nat.le_refl _) _).alloc (by simp) _).alloc (by simp; omega) _).drew
/-- Where Copy stands when its memory is made: the shape's row, the cells' row, the answer, in whatever order they were made. -/
def Pre (w W2 : World) (SA CA bs bc bo : Nat) (W : World) : Prop :=
  W.heap.size = w.heap.size + 5 ∧ Below (w.heap.size + 2) W2 W ∧ ((w.heap.size + 2 ≤ bs ∧ bs < w.heap.size + 5) ∧ (w.heap.size + 2 ≤ bc ∧ bc < w.heap.size + 5) ∧ (w.heap.size + 2 ≤ bo ∧ bo < w.heap.size + 5) ∧ bs ≠ bc ∧ bs ≠ bo ∧ bc ≠ bo) ∧
  W.heap[bs]? = some (.cells (madeCells #[.int .i64 0] SA) 3) ∧ W.heap[bc]? = some (.cells (madeCells #[.int .i64 0, .int .i64 0, .slice none 0 0] (CA * 3)) 35) ∧ W.heap[bo]? = some (.cells #[.slice (some ⟨bs, 0, none⟩) SA SA, .slice (some ⟨bc, 0, none⟩) CA CA] 25)
/-- The copied cells so far, one more stored behind them. -/
theorem fam_step {n L : Nat} {wr w1 : World} {cs : List Ce} {bc CA j : Nat} {F : Nat → Value} (hL : bc < L) (hw : Below wr.heap.size wr w1) (hbw : bc < wr.heap.size) (hr : wr.rowIs bc 35 (CA * 3) F)
    (hF : ∀ i, i < j → CeIn (ArIn n L wr) L wr (cAt cs i) (F (i * 3)) (F (i * 3 + 1)) (F (i * 3 + 2))) (v0 v1 v2 : Value) (hnew : CeIn (ArIn n L w1) L w1 (cAt cs j) v0 v1 v2) :
    ∃ F', (((w1.setCell ⟨bc, j * 3, none⟩ v0).setCell ⟨bc, j * 3 + 1, none⟩ v1).setCell ⟨bc, j * 3 + 2, none⟩ v2).rowIs bc 35 (CA * 3) F' ∧
      ∀ i, i < j + 1 → CeIn (ArIn n L (((w1.setCell ⟨bc, j * 3, none⟩ v0).setCell ⟨bc, j * 3 + 1, none⟩ v1).setCell ⟨bc, j * 3 + 2, none⟩ v2)) L (((w1.setCell ⟨bc, j * 3, none⟩ v0).setCell ⟨bc, j * 3 + 1, none⟩ v1).setCell ⟨bc, j * 3 + 2, none⟩ v2) (cAt cs i) (F' (i * 3)) (F' (i * 3 + 1)) (F' (i * 3 + 2)) := by
  have r1 : w1.rowIs bc 35 (CA * 3) F := hr.of_block (hw.block bc hbw)
  have hk : Keeps L w1 (((w1.setCell ⟨bc, j * 3, none⟩ v0).setCell ⟨bc, j * 3 + 1, none⟩ v1).setCell ⟨bc, j * 3 + 2, none⟩ v2) := (((Keeps.refl _ _).setCell (p := ⟨bc, j * 3, none⟩) hL v0).setCell (p := ⟨bc, j * 3 + 1, none⟩) hL v1).setCell (p := ⟨bc, j * 3 + 2, none⟩) hL v2
  refine ⟨_, ((r1.set (j * 3) v0).set (j * 3 + 1) v1).set (j * 3 + 2) v2, ?_⟩
  intro i hi
  rcases Nat.lt_succ_iff_lt_or_eq.1 hi with h | rfl
  · have := ((hF i h).mono (Nat.le_refl _) hw fun x v hx => hx.next hw).keeps hk fun x v hx => hx.keeps hk
    have e0 : (if i * 3 = j * 3 + 2 then v2 else if i * 3 = j * 3 + 1 then v1 else if i * 3 = j * 3 then v0 else F (i * 3)) = F (i * 3) := by rw [if_neg (by omega), if_neg (by omega), if_neg (by omega)]
    have e1 : (if i * 3 + 1 = j * 3 + 2 then v2 else if i * 3 + 1 = j * 3 + 1 then v1 else if i * 3 + 1 = j * 3 then v0 else F (i * 3 + 1)) = F (i * 3 + 1) := by rw [if_neg (by omega), if_neg (by omega), if_neg (by omega)]
    have e2 : (if i * 3 + 2 = j * 3 + 2 then v2 else if i * 3 + 2 = j * 3 + 1 then v1 else if i * 3 + 2 = j * 3 then v0 else F (i * 3 + 2)) = F (i * 3 + 2) := by rw [if_neg (by omega), if_neg (by omega), if_neg (by omega)]
    rw [e0, e1, e2]
    exact this
  · have := hnew.keeps hk fun x v hx => hx.keeps hk
    have e0 : (if i * 3 = i * 3 + 2 then v2 else if i * 3 = i * 3 + 1 then v1 else if i * 3 = i * 3 then v0 else F (i * 3)) = v0 := by rw [if_neg (by omega), if_neg (by omega), if_pos rfl]
    have e1 : (if i * 3 + 1 = i * 3 + 2 then v2 else if i * 3 + 1 = i * 3 + 1 then v1 else if i * 3 + 1 = i * 3 then v0 else F (i * 3 + 1)) = v1 := by rw [if_neg (by omega), if_pos rfl]
    have e2 : (if i * 3 + 2 = i * 3 + 2 then v2 else if i * 3 + 2 = i * 3 + 1 then v1 else if i * 3 + 2 = i * 3 then v0 else F (i * 3 + 2)) = v2 := by rw [if_pos rfl]
    rw [e0, e1, e2]
    exact this
end Go.Proofs.YtkigfmfegldhcaaDoor
