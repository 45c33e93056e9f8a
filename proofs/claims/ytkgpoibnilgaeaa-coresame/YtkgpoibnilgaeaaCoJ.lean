/-
  The program's walk through a program: its counter in memory, and what it asks of every node (enter); for all nodes.
-/
import Derived.Test.YtkgpoibnilgaeaaCoG
import Derived.OneCell
import Derived.Deep.RegionHeld3
import Derived.Deep.Cut
import Derived.Deep.CutRange
import Derived.BigQuiet
import Derived.Deep.QuietTactic
namespace Go.Proofs.Ytkgpoibnilgaeaa
open Go.ChangeShapes Go.WideShapes Go.ChangeAt Go.RowKit
set_option linter.unusedVariables false
set_option linter.unusedSimpArgs false
/-- All blocks but some are as they were. -/
def But (T : Nat → Prop) (w w' : World) : Prop := w'.os = w.os ∧ w'.tape = w.tape ∧ w'.output = w.output ∧ w.heap.size ≤ w'.heap.size ∧ ∀ k, k < w.heap.size → ¬ T k → w'.heap[k]? = w.heap[k]?
theorem But.refl (T : Nat → Prop) (w : World) : But T w w := ⟨rfl, rfl, rfl, Nat.le_refl _, fun _ _ _ => rfl⟩
theorem But.size {T : Nat → Prop} {w w' : World} (h : But T w w') : w.heap.size ≤ w'.heap.size := h.2.2.2.1
theorem But.trans {T T' : Nat → Prop} {a b c : World} (h : But T a b) (k : But T' b c) (ht : ∀ j, j < a.heap.size → T' j → T j) : But T a c :=
  ⟨k.1.trans h.1, k.2.1.trans h.2.1, k.2.2.1.trans h.2.2.1, Nat.le_trans h.size k.size, fun j hj hn => (k.2.2.2.2 j (Nat.lt_of_lt_of_le hj h.size) (fun hh => hn (ht j hj hh))).trans (h.2.2.2.2 j hj hn)⟩
theorem But.of {T : Nat → Prop} {w w' : World} (h : Below w.heap.size w w') : But T w w' := ⟨h.os, h.tape, h.output, h.size, fun k hk _ => h.block k hk⟩
theorem But.below {T : Nat → Prop} {B : Nat} {w w' : World} (h : But T w w') (hB : B ≤ w.heap.size) (hT : ∀ k, T k → B ≤ k) : Below B w w' := ⟨h.1, h.2.1, h.2.2.1, h.size, fun k hk => h.2.2.2.2 k (Nat.lt_of_lt_of_le hk hB) (fun ht => by have := hT k ht; omega)⟩
theorem But.block {T : Nat → Prop} {w w' : World} (h : But T w w') {k : Nat} (hk : k < w.heap.size) (ht : ¬ T k) : w'.heap[k]? = w.heap[k]? := h.2.2.2.2 k hk ht
theorem But.cell {T : Nat → Prop} {w w' : World} (h : But T w w') {p : Addr} (hk : p.block < w.heap.size) (ht : ¬ T p.block) : w'.cell? p = w.cell? p := World.cell?_of_block (w := w) (h.block hk ht)
theorem But.mono {T T' : Nat → Prop} {w w' : World} (h : But T w w') (hT : ∀ k, T k → T' k) : But T' w w' := ⟨h.1, h.2.1, h.2.2.1, h.size, fun k hk hn => h.block hk fun t => hn (hT k t)⟩
/-- The walk's counter. -/
def Ctr (w : World) (p : Nat) (c : Int) : Prop := w.heap[p]? = some (.cells #[.int .i64 c] 50 (0, 0))
theorem Ctr.lt {w : World} {p : Nat} {c : Int} (h : Ctr w p c) : p < w.heap.size := by
  refine Decidable.byContradiction fun hn => ?_
  have : w.heap[p]? = none := by simp; omega
  rw [Ctr, this] at h
  cases h
theorem Ctr.cell {w : World} {p : Nat} {c : Int} (h : Ctr w p c) : w.cell? ⟨p, 0, none⟩ = some (.int .i64 c) := by
  simp [World.cell?, show w.heap[p]? = _ from h]
theorem Ctr.soft {w : World} {p : Nat} {c : Int} (h : Ctr w p c) : w.frozen? ⟨p, 0, none⟩ = false := by
  simp [World.frozen?, show w.heap[p]? = _ from h]
theorem Ctr.next {w w' : World} {p : Nat} {c : Int} (h : Ctr w p c) (hb : Below w.heap.size w w') : Ctr w' p c := (hb.block p h.lt).trans h
def entL (c d K : Int) (LK : Nat) (O : Int) (S : ByteArray) (L1 L2 : Nat) : Bool := decide (c + 1 ≤ 2048) && decide (d ≤ 24) && decide ((LK : Int) = partsZ K) && nakedL K O S L1 L2

set_option maxHeartbeats 4000000 in
theorem enter48 (K O : Int) (S : ByteArray) (a1 : Option Addr) (L1 c1 : Nat) (a2 : Option Addr) (L2 c2 : Nat) (ak : Option Addr) (LK ck : Nat) (P : Int) (c d : Int) (p : Nat) (w : World) (hp : Ctr w p c) (hc0 : 0 ≤ c) (hc : c ≤ 2048) :
    Calls Try.prog 48 #[.pointer (some ⟨p, 0, none⟩), .agg #[.int .i64 K, .int .i64 O, .string S, .slice a1 L1 c1, .slice a2 L2 c2, .slice ak LK ck, .int .i64 P], .int .i64 d] w fun e w' => e = .returned (.bool (entL c d K LK O S L1 L2)) ∧ But (· = p) w w' ∧ Ctr w' p (c + 1) := by
  have hpl := hp.lt
  have hcell := hp.cell
  have hsoft := hp.soft
  obtain ⟨Wp, hWp⟩ : ∃ Wp, w.setCell ⟨p, 0, none⟩ (.int .i64 (c + 1)) = Wp := ⟨_, rfl⟩
  have hpp : Ctr Wp p (c + 1) := by rw [← hWp]; exact one_setCell hp
  have hsz : Wp.heap.size = w.heap.size := by rw [← hWp]; simp
  have hbut : But (· = p) w Wp := by
    rw [← hWp]
    exact ⟨rfl, rfl, rfl, by simp, fun k _ hk => heap_setCell_other w ⟨p, 0, none⟩ k _ hk⟩
  obtain ⟨W1, hW1⟩ : ∃ W1, Wp.alloc (.cells #[.int .i64 K, .int .i64 O, .string S, .slice a1 L1 c1, .slice a2 L2 c2, .slice ak LK ck, .int .i64 P] 28) = W1 := ⟨_, rfl⟩
  have X0 : Box7 Wp w.heap.size K O S (.slice a1 L1 c1) (.slice a2 L2 c2) (.slice ak LK ck) P W1 := by
    rw [← hW1, ← hsz]
    exact box7_new Wp K O S _ _ _ P
  have hp1 : Ctr W1 p (c + 1) := hpp.next X0.1
  have HF : Hid (∀ w', Below W1.heap.size W1 w' → But (· = p) w w' ∧ Ctr w' p (c + 1)) := fun w' h => ⟨hbut.trans (But.of (T := (· = p)) (X0.1.trans (h.mono X0.1.size))) (fun _ _ h => h), hp1.next h⟩
  have hc1 : IntKind.i64.wrap (c + 1) = c + 1 := IntWalk.i64_in _ ⟨by omega, by omega⟩
  have hcl1 := hp1.cell
  have HX := hide X0
  have HPA := hide (fun wr => parts63 K wr)
  have HNK := hide (fun wr => naked64 K O S a1 L1 c1 a2 L2 c2 ak LK ck P wr)
  have HWP := hide hWp
  have HW1 := hide hW1
  have hpl1 : p < W1.heap.size := hp1.lt
  obtain ⟨-, -, q0, q1, q2, q3, q4, q5, q6⟩ := X0
  clear hp hpp hp1 hbut hWp hW1 hsz
  unfold entL
  generalize nakedL K O S L1 L2 = NK at *
  generalize partsZ K = PK at *
  generalize hC1 : c + 1 = C1 at *
  have HC1 := hide hC1
  clear hC1
  by_cases e1 : C1 ≤ 2048
  · have e1' : decide (C1 ≤ 2048) = true := by simp [e1]
    by_cases e2 : d ≤ 24
    · have e2' : decide (d ≤ 24) = true := by simp [e2]
      by_cases e3 : (LK : Int) = PK
      · have e3' : ((LK : Int) == PK) = true := by simp [e3]
        have HPK := hide e3
        have HE12 := hide (And.intro e1 e2)
        clear e3
        go_enter Try.func48, Try.ntmps48
        go_upto_region 2 with fail
        rw [HC1.out, HWP.out, HW1.out]
        have KS : Hid (∀ W, Below W1.heap.size W1 W → Below W1.heap.size W1 W ∧ W.cell? ⟨p, 0, none⟩ = some (.int .i64 C1) ∧ W.cell? ⟨w.heap.size, 0, none⟩ = some (.int .i64 K) ∧ W.cell? ⟨w.heap.size, 1, none⟩ = some (.int .i64 O) ∧ W.cell? ⟨w.heap.size, 2, none⟩ = some (.string S) ∧ W.cell? ⟨w.heap.size, 3, none⟩ = some (.slice a1 L1 c1) ∧ W.cell? ⟨w.heap.size, 4, none⟩ = some (.slice a2 L2 c2) ∧ W.cell? ⟨w.heap.size, 5, none⟩ = some (.slice ak LK ck) ∧ W.cell? ⟨w.heap.size, 6, none⟩ = some (.int .i64 P)) := fun W h => by
          obtain ⟨-, -, r⟩ := HX.out.next h
          exact ⟨h, (h.cell (p := ⟨p, 0, none⟩) hpl1).trans hcl1, r⟩
        have HD0 : Hid (Below W1.heap.size W1 W1.drew) := (Below.refl _ _).drew
        have HPA' : Hid (∀ W, Below W1.heap.size W1 W → Calls Try.prog 63 #[.int .i64 K] W fun e w' => e = .returned (.int .i64 PK) ∧ Below W1.heap.size W1 w') := fun W h => (HPA.out W).mono fun e w' ⟨he, hw⟩ => ⟨he, hw ▸ h⟩
        have HNK' : Hid (∀ W, Below W1.heap.size W1 W → Calls Try.prog 64 #[.agg #[.int .i64 K, .int .i64 O, .string S, .slice a1 L1 c1, .slice a2 L2 c2, .slice ak LK ck, .int .i64 P]] W fun e w' => e = .returned (.bool NK) ∧ Below W1.heap.size W1 w') := fun W h => (HNK.out W).mono fun e w' ⟨he, hw⟩ => ⟨he, h.trans (hw.mono h.size)⟩
        clear HPA HNK q0 q1 q2 q3 q4 q5 q6 hcl1 HX
        go_region_held3 (fun W => Below W1.heap.size W1 W ∧ W.cell? ⟨p, 0, none⟩ = some (.int .i64 C1) ∧ W.cell? ⟨w.heap.size, 0, none⟩ = some (.int .i64 K) ∧ W.cell? ⟨w.heap.size, 1, none⟩ = some (.int .i64 O) ∧ W.cell? ⟨w.heap.size, 2, none⟩ = some (.string S) ∧ W.cell? ⟨w.heap.size, 3, none⟩ = some (.slice a1 L1 c1) ∧ W.cell? ⟨w.heap.size, 4, none⟩ = some (.slice a2 L2 c2) ∧ W.cell? ⟨w.heap.size, 5, none⟩ = some (.slice ak LK ck) ∧ W.cell? ⟨w.heap.size, 6, none⟩ = some (.int .i64 P)) (first | with_reducible exact KS.out _ HD0.out | with_reducible exact KS.out _ (by with_reducible assumption))
          (first | (go_at_call 63; refine (HPA'.out _ (by first | exact HD0.out | with_reducible assumption)).mono ?_; rintro e w5 ⟨rfl, hb5⟩) | (go_at_call 64; refine (HNK'.out _ (by with_reducible assumption)).mono ?_; rintro e w6 ⟨rfl, hb6⟩))
        all_goals
          go_wp2
          go_ret
          exact ⟨retB (by rw [decide_eq_true HPK.out, decide_eq_true HE12.out.1, decide_eq_true HE12.out.2]; simp), HF.out _ (by assumption)⟩
      · have e3' : ((LK : Int) == PK) = false := beq_eq_false_iff_ne.2 e3
        go_enter Try.func48, Try.ntmps48
        go_upto_region 2 with fail
        rw [HC1.out, HWP.out, HW1.out]
        go_quiet ((go_at_call 63; exact Calls.quiet_of_same (HPA.out _)))
        go_wp2
        go_ret
        exact ⟨retB (by simp [e3]), HF.out _ (drewN_below (Below.refl _ _) _)⟩
    · have e2' : decide (d ≤ 24) = false := by simp; omega
      go_enter Try.func48, Try.ntmps48
      go_upto_region 2 with fail
      rw [HC1.out, HWP.out, HW1.out]
      go_quiet (fail)
      go_wp2
      go_ret
      exact ⟨retB (by simp [e2]), HF.out _ (drewN_below (Below.refl _ _) _)⟩
  · have e1' : decide (C1 ≤ 2048) = false := by simp; omega
    go_enter Try.func48, Try.ntmps48
    go_upto_region 2 with fail
    rw [HC1.out, HWP.out, HW1.out]
    go_quiet (fail)
    go_wp2
    go_ret
    exact ⟨retB (by simp [e1]), HF.out _ (drewN_below (Below.refl _ _) _)⟩
end Go.Proofs.Ytkgpoibnilgaeaa
