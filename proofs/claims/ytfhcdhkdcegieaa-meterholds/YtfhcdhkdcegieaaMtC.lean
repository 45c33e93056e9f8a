/-
  The contracts of layer 9's meter: New, Step, Used, Hold; and of the document's.
-/
import Derived.Test.YtfhcdhkdcegieaaMtA
import Derived.Deep.RegionHeld3
import Derived.Deep.Cut
import Derived.Deep.CutRange
import Derived.BigQuiet
namespace Go.Proofs.Ytfhcdhkdcegieaa
open Go.ChangeShapes Go.WideShapes Go.ChangeAt Go.RowKit
set_option linter.unusedVariables false
set_option maxRecDepth 100000
/-- A number that is not below 0, else 0. -/
def pos (z : Int) : Int := if z < 0 then 0 else z
theorem pos_fit {z : Int} (h : z ≤ 9223372036854775807) : 0 ≤ pos z ∧ pos z ≤ 9223372036854775807 := by unfold pos; split <;> omega
/-- A meter in memory: so many steps may be, so many were, so many cells. -/
structure Mt (w : World) (b : Nat) (F U R : Int) : Prop where
  lt : b < w.heap.size
  c0 : w.cell? ⟨b, 0, none⟩ = some (.int .i64 F)
  c1 : w.cell? ⟨b, 1, none⟩ = some (.int .i64 U)
  c2 : w.cell? ⟨b, 2, none⟩ = some (.int .i64 R)
  c3 : w.cell? ⟨b, 3, none⟩ = some (.int .i64 0)
  fz : w.frozen? ⟨b, 1, none⟩ = false
  u0 : 0 ≤ U
  uF : U ≤ F
  fF : F ≤ 9223372036854775807
  r0 : 0 ≤ R
  rR : R ≤ 9223372036854775807
theorem Mt.block {w w' : World} {b : Nat} {F U R : Int} (h : Mt w b F U R) (hs : w.heap.size ≤ w'.heap.size) (hb : w'.heap[b]? = w.heap[b]?) : Mt w' b F U R := by
  have hc : ∀ i, w'.cell? ⟨b, i, none⟩ = w.cell? ⟨b, i, none⟩ := fun i => World.cell?_of_block (w := w) hb
  exact ⟨Nat.lt_of_lt_of_le h.lt hs, (hc 0).trans h.c0, (hc 1).trans h.c1, (hc 2).trans h.c2, (hc 3).trans h.c3, (World.frozen?_of_block (w := w) (a := ⟨b, 1, none⟩) hb).trans h.fz, h.u0, h.uF, h.fF, h.r0, h.rR⟩
theorem Mt.next {w w' : World} {b B : Nat} {F U R : Int} (h : Mt w b F U R) (hb : Below B w w') (hB : b < B) : Mt w' b F U R := h.block hb.size (hb.block b hB)
theorem Mt.take {w : World} {b : Nat} {F U R : Int} (h : Mt w b F U R) (hU : U < F) : Mt (w.setCell ⟨b, 1, none⟩ (.int .i64 (U + 1))) b F (U + 1) R := by
  refine ⟨by simpa using h.lt, ?_, ?_, ?_, ?_, frozen_set _ _ _ _ h.fz, by have := h.u0; omega, by omega, h.fF, h.r0, h.rR⟩
  · rw [World.cell?_setCell_other _ _ _ _ (by simp)]; exact h.c0
  · exact World.cell?_setCell_same' _ _ _ (by rw [h.c1]; rfl)
  · rw [World.cell?_setCell_other _ _ _ _ (by simp)]; exact h.c2
  · rw [World.cell?_setCell_other _ _ _ _ (by simp)]; exact h.c3
set_option maxHeartbeats 1000000 in
theorem left22 {w : World} {b : Nat} {F U R : Int} (h : Mt w b F U R) : Calls Try.prog 22 #[.pointer (some ⟨b, 0, none⟩)] w fun e w' => e = .returned (.int .i64 (F - U)) ∧ Below w.heap.size w w' := by
  obtain ⟨hlt, c0, c1, c2, c3, fz, u0, uF, fF, r0, rR⟩ := h
  clear c2 c3 fz
  go_enter Try.func22, Try.ntmps22
  go_wp2
  go_quiet (fail)
  all_goals
    go_wp2
    go_ret
    exact ⟨by go_num, drewN_below (Below.refl _ _) _⟩
set_option maxHeartbeats 1000000 in
theorem has20 {w : World} {b : Nat} {F U R : Int} (n : Int) (h : Mt w b F U R) : Calls Try.prog 20 #[.pointer (some ⟨b, 0, none⟩), .int .i64 n] w fun e w' => e = .returned (.bool (decide (n ≤ F - U))) ∧ Below w.heap.size w w' := by
  have C := left22 h
  clear h
  go_enter Try.func20, Try.ntmps20
  go_wp2_with fail
  refine C.mono ?_
  clear C
  rintro e w1 ⟨rfl, hb1⟩
  go_wp2
  go_ret
  exact ⟨by simp, hb1⟩
set_option maxHeartbeats 1000000 in
theorem take21 {w : World} {b : Nat} {F U R : Int} (h : Mt w b F U R) (hU : U < F) : Calls Try.prog 21 #[.pointer (some ⟨b, 0, none⟩), .int .i64 1] w fun e w' => e = .returned (.tuple #[]) ∧ w' = w.setCell ⟨b, 1, none⟩ (.int .i64 (U + 1)) := by
  obtain ⟨hlt, c0, c1, c2, c3, fz, u0, uF, fF, r0, rR⟩ := h
  clear c0 c2 c3
  go_enter Try.func21, Try.ntmps21
  go_wp2
  go_end0
  exact ⟨rfl, by go_num⟩
/-- A step: where it is allowed, the store is the last that happens. -/
def Stepped (w : World) (b : Nat) (U F : Int) (e : Ending) (w' : World) : Prop :=
  (U < F ∧ e = .returned (.int .i64 0) ∧ ∃ w1, Below w.heap.size w w1 ∧ w' = w1.setCell ⟨b, 1, none⟩ (.int .i64 (U + 1))) ∨ (U = F ∧ e = .returned (.int .i64 11) ∧ Below w.heap.size w w')
set_option maxHeartbeats 1000000 in
theorem step10 {w : World} {b : Nat} {F U R : Int} (h : Mt w b F U R) : Calls Try.prog 10 #[.pointer (some ⟨b, 0, none⟩)] w fun e w' => Stepped w b U F e w' := by
  have C := has20 1 h
  have huF := h.uF
  have HN : Hid (∀ w1, Below w.heap.size w w1 → Mt w1 b F U R) := fun w1 hb => h.next hb h.lt
  clear h
  by_cases hU : U < F
  · rw [show decide (1 ≤ F - U) = true by simp; omega] at C
    go_enter Try.func10, Try.ntmps10
    go_wp2_with fail
    refine C.mono ?_
    clear C
    rintro e w1 ⟨rfl, hb1⟩
    have C2 := take21 (HN.out w1 hb1) hU
    have HB := hide hb1
    clear hb1 HN huF
    go_wp2_with fail
    refine C2.mono ?_
    clear C2
    rintro e w2 ⟨rfl, hw2⟩
    have HW := hide hw2
    clear hw2
    go_wp2
    go_ret
    exact .inl ⟨hU, rfl, w1, HB.out, HW.out⟩
  · rw [show decide (1 ≤ F - U) = false by simp; omega] at C
    go_enter Try.func10, Try.ntmps10
    go_wp2_with fail
    refine C.mono ?_
    clear C
    rintro e w1 ⟨rfl, hb1⟩
    have HB := hide hb1
    clear hb1 HN
    go_wp2
    go_ret
    exact .inr ⟨by omega, rfl, HB.out⟩
set_option maxHeartbeats 1000000 in
theorem used11 {w : World} {b : Nat} {F U R : Int} (h : Mt w b F U R) : Calls Try.prog 11 #[.pointer (some ⟨b, 0, none⟩)] w fun e w' => e = .returned (.tuple #[.int .i64 U, .int .i64 (F - U)]) ∧ Below w.heap.size w w' := by
  have C : Hid (∀ W, Below w.heap.size w W → Calls Try.prog 22 #[.pointer (some ⟨b, 0, none⟩)] W fun e w' => e = .returned (.int .i64 (F - U)) ∧ Below w.heap.size w w') := fun W hb => (left22 (h.next hb h.lt)).mono fun e w' ⟨he, hw⟩ => ⟨he, hb.trans (hw.mono hb.size)⟩
  have KS : Hid (∀ W, Below w.heap.size w W → Below w.heap.size w W ∧ W.cell? ⟨b, 1, none⟩ = some (.int .i64 U)) := fun W hb => ⟨hb, (h.next hb h.lt).c1⟩
  have HD0 : Hid (Below w.heap.size w w.drew) := (Below.refl _ _).drew
  clear h
  go_enter Try.func11, Try.ntmps11
  go_upto_region 1 with fail
  go_region_held3 (fun W => Below w.heap.size w W ∧ W.cell? ⟨b, 1, none⟩ = some (.int .i64 U)) (first | with_reducible exact KS.out _ HD0.out | with_reducible exact KS.out _ (by with_reducible assumption)) (first | (go_at_call 22; refine (C.out _ HD0.out).mono ?_; rintro e w5 ⟨rfl, hb5⟩))
  all_goals
    go_wp2
    go_ret2
    exact ⟨rfl, hb5⟩
set_option maxHeartbeats 1000000 in
theorem supply18 {w : World} (z : Int) : Calls Try.prog 18 #[.int .i64 z] w fun e w' => e = .returned (.agg #[.int .i64 (pos z), .int .i64 0]) ∧ Below w.heap.size w w' := by
  by_cases hz : z < 0
  · have hp : pos z = 0 := by unfold pos; rw [if_pos hz]
    have hm : max z 0 = 0 := by omega
    rw [hp]
    clear hp
    go_enter Try.func18, Try.ntmps18
    go_wp2
    exact bodyPost_ret (v := .agg #[.int .i64 0, .int .i64 0]) (by simp [results, Try.results18, go_sem]) rfl ⟨rfl, by exact one_alloc _ _⟩
  · have hp : pos z = z := by unfold pos; rw [if_neg hz]
    have hm : max z 0 = z := by omega
    rw [hp]
    clear hp
    go_enter Try.func18, Try.ntmps18
    go_wp2
    exact bodyPost_ret (v := .agg #[.int .i64 z, .int .i64 0]) (by simp [results, Try.results18, go_sem]) rfl ⟨rfl, by exact one_alloc _ _⟩
set_option maxHeartbeats 1000000 in
theorem supply19 {w : World} (z : Int) : Calls Try.prog 19 #[.int .i64 z] w fun e w' => e = .returned (.agg #[.int .i64 (pos z), .int .i64 0]) ∧ Below w.heap.size w w' := by
  by_cases hz : z < 0
  · have hp : pos z = 0 := by unfold pos; rw [if_pos hz]
    have hm : max z 0 = 0 := by omega
    rw [hp]
    clear hp
    go_enter Try.func19, Try.ntmps19
    go_wp2
    exact bodyPost_ret (v := .agg #[.int .i64 0, .int .i64 0]) (by simp [results, Try.results19, go_sem]) rfl ⟨rfl, by exact one_alloc _ _⟩
  · have hp : pos z = z := by unfold pos; rw [if_neg hz]
    have hm : max z 0 = z := by omega
    rw [hp]
    clear hp
    go_enter Try.func19, Try.ntmps19
    go_wp2
    exact bodyPost_ret (v := .agg #[.int .i64 z, .int .i64 0]) (by simp [results, Try.results19, go_sem]) rfl ⟨rfl, by exact one_alloc _ _⟩
set_option maxHeartbeats 1000000 in
theorem new7 {w : World} (f c : Int) (hf : f ≤ 9223372036854775807) (hc : c ≤ 9223372036854775807) : Calls Try.prog 7 #[.int .i64 f, .int .i64 c] w fun e w' => (∃ b, e = .returned (.pointer (some ⟨b, 0, none⟩)) ∧ w.heap.size ≤ b ∧ Mt w' b (pos f) 0 (pos c)) ∧ Below w.heap.size w w' := by
  have C1 := supply18 (w := w) f
  have p1 := pos_fit hf
  have p2 := pos_fit hc
  generalize pos f = F at *
  have HC2 : Hid (∀ W, Calls Try.prog 19 #[.int .i64 c] W fun e w' => e = .returned (.agg #[.int .i64 (pos c), .int .i64 0]) ∧ Below W.heap.size W w') := fun W => supply19 (w := W) c
  generalize pos c = R at *
  go_enter Try.func7, Try.ntmps7
  go_wp2_with fail
  refine C1.mono ?_
  clear C1
  rintro e w1 ⟨rfl, hb1⟩
  have C2 := HC2.out w1
  go_wp2_with fail
  refine C2.mono ?_
  clear C2 HC2
  rintro e w2 ⟨rfl, hb2⟩
  have HB := hide (hb1.trans (hb2.mono hb1.size))
  clear hb1 hb2
  go_wp2
  go_ret
  have hb := HB.out
  refine ⟨⟨_, rfl, hb.size, ?_⟩, hb.alloc hb.size _⟩
  exact ⟨by simp, cell_new0 w2 _ 55 0 _ rfl, cell_new0 w2 _ 55 1 _ rfl, cell_new0 w2 _ 55 2 _ rfl, cell_new0 w2 _ 55 3 _ rfl, frozen_new _ _ _ _, by omega, by omega, by omega, by omega, by omega⟩
end Go.Proofs.Ytfhcdhkdcegieaa
