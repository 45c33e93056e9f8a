/-
  The contracts of layer 9's Hold, and of the document's New, Step and Held.
-/
import Derived.Test.YtfhcdhkdcegieaaMtC
namespace Go.Proofs.Ytfhcdhkdcegieaa
open Go.ChangeShapes Go.WideShapes Go.ChangeAt Go.RowKit
set_option linter.unusedVariables false
set_option maxRecDepth 100000
set_option maxHeartbeats 1000000 in
theorem left28 {w : World} {b : Nat} {F U R : Int} (h : Mt w b F U R) : Calls Try.prog 28 #[.pointer (some ⟨b, 2, none⟩)] w fun e w' => e = .returned (.int .i64 R) ∧ Below w.heap.size w w' := by
  obtain ⟨hlt, c0, c1, c2, c3, fz, u0, uF, fF, r0, rR⟩ := h
  clear c0 c1 fz
  go_enter Try.func28, Try.ntmps28
  go_wp2
  go_quiet (fail)
  all_goals
    go_wp2
    go_ret
    exact ⟨by go_num, drewN_below (Below.refl _ _) _⟩
set_option maxHeartbeats 1000000 in
theorem has26 {w : World} {b : Nat} {F U R : Int} (n : Int) (h : Mt w b F U R) : Calls Try.prog 26 #[.pointer (some ⟨b, 2, none⟩), .int .i64 n] w fun e w' => e = .returned (.bool (decide (n ≤ R))) ∧ Below w.heap.size w w' := by
  have C := left28 h
  clear h
  go_enter Try.func26, Try.ntmps26
  go_wp2_with fail
  refine C.mono ?_
  clear C
  rintro e w1 ⟨rfl, hb1⟩
  go_wp2
  go_ret
  exact ⟨by simp, hb1⟩
/-- What is told of so many cells. -/
def holdE (k : Nat) (R : Int) : Int := if (k : Int) ≤ R then 0 else 12
set_option maxHeartbeats 4000000 in
theorem hold14 {n lo b : Nat} {F U R : Int} {x : Ar} {va : Value} {w : World} (h : Mt w b F U R) (hx : ArIn n lo w x va) (hcnt : cntA n x ≤ 1000000) : Calls Try.prog 14 #[.pointer (some ⟨b, 0, none⟩), va] w fun e w' => e = .returned (.int .i64 (holdE (cntA n x) R)) ∧ Below w.heap.size w w' := by
  cases n with
  | zero => exact hx.elim
  | succ n =>
  have hx' := hx
  obtain ⟨a1, c1, a2, c2, rfl, -⟩ := hx'
  have HC : Hid (∀ W, Below w.heap.size w W → Calls Try.prog 16 #[.agg #[.slice a1 x.shape.length c1, .slice a2 x.cells.length c2]] W fun e w' => e = .returned (.int .i64 (cntA (n + 1) x : Int)) ∧ Below w.heap.size w w') := fun W hb => (mcells_any (n + 1) x lo _ W (hx.next hb) hcnt).mono fun e w' ⟨he, hw⟩ => ⟨he, hb.trans (hw.mono hb.size)⟩
  obtain ⟨k, hk⟩ : ∃ k, cntA (n + 1) x = k := ⟨_, rfl⟩
  rw [hk] at HC hcnt ⊢
  generalize x.shape.length = SA at *
  generalize x.cells.length = CA at *
  obtain ⟨rb, hrb⟩ : ∃ rb, decide ((k : Int) ≤ R) = rb := ⟨_, rfl⟩
  have HH : Hid (∀ W, Below w.heap.size w W → Calls Try.prog 26 #[.pointer (some ⟨b, 2, none⟩), .int .i64 (k : Int)] W fun e w' => e = .returned (.bool rb) ∧ Below w.heap.size w w') := fun W hb => (has26 (k : Int) (h.next hb h.lt)).mono fun e w' ⟨he, hw⟩ => ⟨by rw [he, hrb], hb.trans (hw.mono hb.size)⟩
  obtain ⟨W1, e1⟩ : ∃ W1, w.alloc (.cells #[.slice a1 SA c1, .slice a2 CA c2] 38) = W1 := ⟨_, rfl⟩
  have b1 : Below w.heap.size w W1 := by rw [← e1]; exact one_alloc _ _
  have z1 : W1.heap.size = w.heap.size + 1 := by rw [← e1]; simp
  have q0 : W1.cell? ⟨w.heap.size, 0, none⟩ = some (.slice a1 SA c1) := by rw [← e1]; exact cell_new0 w _ 38 0 _ rfl
  have q1 : W1.cell? ⟨w.heap.size, 1, none⟩ = some (.slice a2 CA c2) := by rw [← e1]; exact cell_new0 w _ 38 1 _ rfl
  have HC' : Hid (∀ W, Below W1.heap.size W1 W → Calls Try.prog 16 #[.agg #[.slice a1 SA c1, .slice a2 CA c2]] W fun e w' => e = .returned (.int .i64 (k : Int)) ∧ Below W1.heap.size W1 w') := fun W hb => (mcells_any (n + 1) x lo _ W (by
    have := hx.next (b1.trans (hb.mono (by omega)))
    exact this) (by rw [hk]; exact hcnt)).mono fun e w' ⟨he, hw⟩ => ⟨by rw [he, hk], hb.trans (hw.mono hb.size)⟩
  have HH' : Hid (∀ W, Below W1.heap.size W1 W → Calls Try.prog 26 #[.pointer (some ⟨b, 2, none⟩), .int .i64 (k : Int)] W fun e w' => e = .returned (.bool rb) ∧ Below W1.heap.size W1 w') := fun W hb => (has26 (k : Int) ((h.next b1 h.lt).next hb (by have := h.lt; omega))).mono fun e w' ⟨he, hw⟩ => ⟨by rw [he, hrb], hb.trans (hw.mono hb.size)⟩
  have KS : Hid (∀ W, Below W1.heap.size W1 W → Below W1.heap.size W1 W ∧ W.cell? ⟨w.heap.size, 0, none⟩ = some (.slice a1 SA c1) ∧ W.cell? ⟨w.heap.size, 1, none⟩ = some (.slice a2 CA c2)) := fun W hb => ⟨hb, (hb.cell (p := ⟨w.heap.size, 0, none⟩) (by show w.heap.size < _; omega)).trans q0, (hb.cell (p := ⟨w.heap.size, 1, none⟩) (by show w.heap.size < _; omega)).trans q1⟩
  have HD0 : Hid (Below W1.heap.size W1 W1.drew) := (Below.refl _ _).drew
  have HE : Hid (holdE k R = if rb then 0 else 12) := by show _ = _; rw [← hrb]; unfold holdE; simp
  have HB1 := hide b1
  clear HC HH hx h hk hrb b1 z1 q0 q1 hcnt
  go_enter Try.func14, Try.ntmps14
  go_upto_region 1 with fail
  clear e1
  go_region_held3 (fun W => Below W1.heap.size W1 W ∧ W.cell? ⟨w.heap.size, 0, none⟩ = some (.slice a1 SA c1) ∧ W.cell? ⟨w.heap.size, 1, none⟩ = some (.slice a2 CA c2)) (first | with_reducible exact KS.out _ HD0.out | with_reducible exact KS.out _ (by with_reducible assumption))
    (first | (go_at_call 16; refine (HC'.out _ HD0.out).mono ?_; rintro e w5 ⟨rfl, hb5⟩) | (go_at_call 26; refine (HH'.out _ (by with_reducible assumption)).mono ?_; rintro e w6 ⟨rfl, hb6⟩))
  all_goals
    cases rb
    all_goals
      go_wp2
      go_ret
      exact ⟨by rw [HE.out]; rfl, HB1.out.trans (hb6.mono HB1.out.size)⟩
set_option maxHeartbeats 1000000 in
theorem rnew8 {w : World} (f c : Int) : Calls Try.prog 8 #[.int .i64 f, .int .i64 c] w fun e w' => e = .returned (.agg #[.int .i64 0, .int .i64 (pos f), .int .i64 (pos c)]) ∧ Below w.heap.size w w' := by
  by_cases hf : f < 0 <;> by_cases hc : c < 0
  · rw [show pos f = 0 from if_pos hf, show pos c = 0 from if_pos hc]
    go_enter Try.func8, Try.ntmps8
    go_wp2
    exact bodyPost_ret (v := .agg #[.int .i64 0, .int .i64 0, .int .i64 0]) (by simp [results, Try.results8, go_sem]) rfl ⟨rfl, by exact one_alloc _ _⟩
  · rw [show pos f = 0 from if_pos hf, show pos c = c from if_neg hc]
    go_enter Try.func8, Try.ntmps8
    go_wp2
    exact bodyPost_ret (v := .agg #[.int .i64 0, .int .i64 0, .int .i64 c]) (by simp [results, Try.results8, go_sem]) rfl ⟨rfl, by exact one_alloc _ _⟩
  · rw [show pos f = f from if_neg hf, show pos c = 0 from if_pos hc]
    go_enter Try.func8, Try.ntmps8
    go_wp2
    exact bodyPost_ret (v := .agg #[.int .i64 0, .int .i64 f, .int .i64 0]) (by simp [results, Try.results8, go_sem]) rfl ⟨rfl, by exact one_alloc _ _⟩
  · rw [show pos f = f from if_neg hf, show pos c = c from if_neg hc]
    go_enter Try.func8, Try.ntmps8
    go_wp2
    exact bodyPost_ret (v := .agg #[.int .i64 0, .int .i64 f, .int .i64 c]) (by simp [results, Try.results8, go_sem]) rfl ⟨rfl, by exact one_alloc _ _⟩
set_option maxHeartbeats 1000000 in
theorem rstep9 {w : World} (U M H : Int) (hU : 0 ≤ U) (hUM : U ≤ M) (hM : M ≤ 9223372036854775807) : Calls Try.prog 9 #[.agg #[.int .i64 U, .int .i64 M, .int .i64 H]] w fun e w' => e = .returned (if U < M then .tuple #[.agg #[.int .i64 (U + 1), .int .i64 M, .int .i64 H], .int .i64 0] else .tuple #[.agg #[.int .i64 U, .int .i64 M, .int .i64 H], .int .i64 11]) ∧ Below w.heap.size w w' := by
  by_cases h : U < M
  · rw [if_pos h]
    go_enter Try.func9, Try.ntmps9
    go_wp2
    exact bodyPost_ret (v := .tuple #[.agg #[.int .i64 (U + 1), .int .i64 M, .int .i64 H], .int .i64 0]) (by simp [results, Try.results9, go_sem]) rfl ⟨rfl, by exact two_allocs _ _ _⟩
  · rw [if_neg h]
    have h' : M ≤ U := by omega
    go_enter Try.func9, Try.ntmps9
    go_wp2
    exact bodyPost_ret (v := .tuple #[.agg #[.int .i64 U, .int .i64 M, .int .i64 H], .int .i64 11]) (by simp [results, Try.results9, go_sem]) rfl ⟨rfl, by exact two_allocs _ _ _⟩
set_option maxHeartbeats 4000000 in
theorem rheld15 {n lo : Nat} {U M H : Int} {x : Ar} {va : Value} {w : World} (hx : ArIn n lo w x va) (hcnt : cntA n x ≤ 1000000) : Calls Try.prog 15 #[.agg #[.int .i64 U, .int .i64 M, .int .i64 H], va] w fun e w' => e = .returned (.int .i64 (holdE (cntA n x) H)) ∧ Below w.heap.size w w' := by
  cases n with
  | zero => exact hx.elim
  | succ n =>
  have hx' := hx
  obtain ⟨a1, c1, a2, c2, rfl, -⟩ := hx'
  obtain ⟨k, hk⟩ : ∃ k, cntA (n + 1) x = k := ⟨_, rfl⟩
  have HX : Hid (∀ W, Below w.heap.size w W → Calls Try.prog 17 #[.agg #[.slice a1 x.shape.length c1, .slice a2 x.cells.length c2]] W fun e w' => e = .returned (.int .i64 (k : Int)) ∧ Below W.heap.size W w') := fun W hb => (rcells_any (n + 1) x lo _ W (hx.next hb) hcnt).mono fun e w' ⟨he, hw⟩ => ⟨by rw [he, hk], hw⟩
  rw [hk]
  generalize x.shape.length = SA at *
  generalize x.cells.length = CA at *
  obtain ⟨W1, e1⟩ : ∃ W1, (w.alloc (.cells #[.int .i64 U, .int .i64 M, .int .i64 H] 25)).alloc (.cells #[.slice a1 SA c1, .slice a2 CA c2] 38) = W1 := ⟨_, rfl⟩
  have b1 : Below w.heap.size w W1 := by rw [← e1]; exact two_allocs _ _ _
  have z1 : W1.heap.size = w.heap.size + 2 := by rw [← e1]; simp
  have q0 : W1.cell? ⟨w.heap.size + 1, 0, none⟩ = some (.slice a1 SA c1) := by rw [← e1]; exact cell_new2 w _ 38 (0, 0) _ 0 _ rfl
  have q1 : W1.cell? ⟨w.heap.size + 1, 1, none⟩ = some (.slice a2 CA c2) := by rw [← e1]; exact cell_new2 w _ 38 (0, 0) _ 1 _ rfl
  have q2 : W1.cell? ⟨w.heap.size, 2, none⟩ = some (.int .i64 H) := by rw [← e1]; exact cell_new1 w _ 25 (0, 0) _ 2 _ rfl
  have HC' : Hid (∀ W, Below W1.heap.size W1 W → Calls Try.prog 17 #[.agg #[.slice a1 SA c1, .slice a2 CA c2]] W fun e w' => e = .returned (.int .i64 (k : Int)) ∧ Below W1.heap.size W1 w') := fun W hb => (HX.out W (b1.trans (hb.mono (by omega)))).mono fun e w' ⟨he, hw⟩ => ⟨he, hb.trans (hw.mono hb.size)⟩
  have KS : Hid (∀ W, Below W1.heap.size W1 W → Below W1.heap.size W1 W ∧ W.cell? ⟨w.heap.size + 1, 0, none⟩ = some (.slice a1 SA c1) ∧ W.cell? ⟨w.heap.size + 1, 1, none⟩ = some (.slice a2 CA c2) ∧ W.cell? ⟨w.heap.size, 2, none⟩ = some (.int .i64 H)) := fun W hb => ⟨hb, (hb.cell (p := ⟨w.heap.size + 1, 0, none⟩) (by show w.heap.size + 1 < _; omega)).trans q0, (hb.cell (p := ⟨w.heap.size + 1, 1, none⟩) (by show w.heap.size + 1 < _; omega)).trans q1, (hb.cell (p := ⟨w.heap.size, 2, none⟩) (by show w.heap.size < _; omega)).trans q2⟩
  have HD0 : Hid (Below W1.heap.size W1 W1.drew) := (Below.refl _ _).drew
  have HB1 := hide b1
  obtain ⟨rb, hrb⟩ : ∃ rb, decide ((k : Int) > H) = rb := ⟨_, rfl⟩
  have HE : Hid (holdE k H = if rb then 12 else 0) := by
    show _ = _
    rw [← hrb]
    unfold holdE
    by_cases h : (k : Int) ≤ H
    · rw [if_pos h, if_neg (by simp; omega)]
    · rw [if_neg h, if_pos (by simp; omega)]
  have hrb' : decide (H < (k : Int)) = rb := hrb
  clear HX hx hk b1 z1 q0 q1 q2 hcnt hrb
  go_enter Try.func15, Try.ntmps15
  go_upto_region 1 with fail
  clear e1
  go_region_held3 (fun W => Below W1.heap.size W1 W ∧ W.cell? ⟨w.heap.size + 1, 0, none⟩ = some (.slice a1 SA c1) ∧ W.cell? ⟨w.heap.size + 1, 1, none⟩ = some (.slice a2 CA c2) ∧ W.cell? ⟨w.heap.size, 2, none⟩ = some (.int .i64 H)) (first | with_reducible exact KS.out _ HD0.out | with_reducible exact KS.out _ (by with_reducible assumption))
    (first | (go_at_call 17; refine (HC'.out _ HD0.out).mono ?_; rintro e w5 ⟨rfl, hb5⟩))
  all_goals
    cases rb
    all_goals
      go_wp2
      go_ret
      exact ⟨by rw [HE.out]; rfl, HB1.out.trans (hb5.mono HB1.out.size)⟩
end Go.Proofs.Ytfhcdhkdcegieaa
