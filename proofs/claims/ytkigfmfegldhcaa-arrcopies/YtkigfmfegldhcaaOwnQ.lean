/-
  The contracts of layer 3's Atom and of the document's, and of layer 3's trial run: it answers true.
-/
import Derived.Test.YtkigfmfegldhcaaOwnE
import Derived.Test.YtkigfmfegldhcaaOwnP
import Derived.Deep.RegionHeld3
namespace Go.Proofs.Ytkigfmfegldhcaa
open Go.ChangeShapes Go.WideShapes Go.ChangeAt Go.RowKit
set_option linter.unusedVariables false
theorem row_nil (lo : Nat) (w : World) (a : Option Addr) : Row lo w a [] := ⟨by simp, Or.inl rfl⟩
theorem row_new (w : World) (zs : List Int) (e : TypeId) (m : Nat × Nat) (hz : zs.length ≤ 140737488355328) : Row w.heap.size (w.alloc (.cells (zs.map (Value.int .i64)).toArray e m)) (some ⟨w.heap.size, 0, none⟩) zs := by
  refine ⟨hz, Or.inr ⟨_, _, rfl, Nat.le_refl _, by simp, ?_⟩⟩
  intro i hi
  refine cell_new w _ e m (0 + i) _ ?_
  simp [List.getElem?_eq_getElem hi]
theorem atom_cells (n : Nat) (z : Int) (w : World) (o : Obj) : ArIn (n + 1) w.heap.size ((w.alloc o).alloc (.cells #[.int .i64 0, .int .i64 z, .slice none 0 0] 33)) (atomA z) (.agg #[.slice none 0 0, .slice (some ⟨w.heap.size + 1, 0, none⟩) 1 1]) := by
  refine arIn_mk (x := atomA z) (row_nil _ _ _) (by simp [atomA, Ar.cells, numCs]) ?_ rfl (by simp [atomA, Ar.cells, numCs])
  refine Or.inr ⟨w.heap.size + 1, 0, rfl, by omega, by simp, ?_⟩
  intro i hi
  have : i = 0 := by simpa [atomA, Ar.cells, numCs] using hi
  subst this
  refine ⟨_, _, _, cell_new2 w #[.int .i64 0, .int .i64 z, .slice none 0 0] 33 (0, 0) o 0 _ rfl, cell_new2 w #[.int .i64 0, .int .i64 z, .slice none 0 0] 33 (0, 0) o 1 _ rfl, cell_new2 w #[.int .i64 0, .int .i64 z, .slice none 0 0] 33 (0, 0) o 2 _ rfl, rfl, rfl, none, 0, rfl, by simp [atomA, Ar.cells, numCs, cAt], Or.inl rfl⟩
set_option maxHeartbeats 1000000 in
theorem atom_any (n : Nat) (z : Int) (w : World) : Calls Try.prog 16 #[.int .i64 z] w fun e w' => GivesA (n + 1) (atomA z) w e w' := by
  go_enter Try.func16, Try.ntmps16
  go_wp2
  exact bodyPost_ret (v := .agg #[.slice none 0 0, .slice (some ⟨w.heap.size + 1, 0, none⟩) 1 1]) (by simp [results, Try.results16, go_sem]) rfl ⟨⟨_, rfl, atom_cells n z w _⟩, two_allocs _ _ _⟩
theorem size_at (l : List Int) (k : Nat) (hk : l.length = k) (s e : Int) (hs : sizeV l = s) (he : sizeE l = e) {lo : Nat} (a : Option Addr) (cap : Nat) (w : World) (R : Row lo w a l) :
    Calls Try.prog 12 #[.slice a k cap] w fun e' w' => e' = .returned (.tuple #[.int .i64 s, .int .i64 e]) ∧ w' = w := by
  subst hk hs he
  exact size_any l a cap w R
theorem place_at (l m : List Int) (k k' : Nat) (hk : l.length = k) (hk' : m.length = k') (s e : Int) (hs : plcV l m = s) (he : plcE l m = e) {lo lo' : Nat} (a a' : Option Addr) (cap cap' : Nat) (w : World) (R : Row lo w a l) (R' : Row lo' w a' m) :
    Calls Try.prog 13 #[.slice a k cap, .slice a' k' cap'] w fun e' w' => e' = .returned (.tuple #[.int .i64 s, .int .i64 e]) ∧ w' = w := by
  subst hk hk' hs he
  exact place_any l m a a' cap cap' w R R'
theorem nums_at (n : Nat) (l : List Int) (k : Nat) (hk : l.length = k) {lo : Nat} (a : Option Addr) (cap : Nat) (w : World) (R : Row lo w a l) (hl : l.length ≤ 5864062014805) :
    Calls Try.prog 11 #[.slice a k cap] w fun e w' => GivesA (n + 1) (numsA l) w e w' := by
  subst hk
  exact nums_any n l a cap w R hl
theorem plc_works : plcV [2, 3] [1, 2] = 5 ∧ plcE [2, 3] [1, 2] = 0 := by
  have h : inAxes [2, 3] [1, 2] := by simp [inAxes]
  have s : sizeE [2, 3] = 0 := by decide
  refine ⟨?_, by simp [plcE, s, h]⟩
  unfold plcV
  rw [if_pos ⟨s, h⟩]
  rfl
theorem chk_works : chkA 8 (numsA [1, 2]) = 0 := by
  have h1 : sizeE [2] = 0 := by decide
  have h2 : sizeV [2] = 2 := by decide
  have h3 : ¬ hasLong [2] := by decide
  simp [chkA, chkB, numsA, Ar.shape, Ar.cells, numCs, h1, h2, h3, firstUp, chkF, chkC, cAt]
theorem chk_works2 : chkA 8 (.mk [3] []) = 1 := by
  have h1 : sizeE [3] = 0 := by decide
  have h2 : sizeV [3] = 3 := by decide
  simp [chkA, chkB, Ar.shape, Ar.cells, h1, h2]
theorem cmp_works : cmpA 1 (numsA [1, 2]) (atomA 5) = 1 := by
  simp [cmpA, numsA, atomA, Ar.shape, cmp3]
set_option maxHeartbeats 2000000 in
theorem works_any (w : World) : Calls Try.prog 6 #[] w fun e w' => e = .returned (.bool true) ∧ Below w.heap.size w w' := by
  go_enter Try.func6, Try.ntmps6
  go_wp2_with fail
  refine (nums_at 0 [1, 2] 2 rfl _ _ _ (row_new w [1, 2] 2 (0, 0) (by simp)) (by simp)).mono ?_
  rintro e w1 ⟨⟨va, rfl, hva⟩, hb1⟩
  have B1 : Below w.heap.size w w1 := (one_alloc _ _).trans (hb1.mono (one_alloc _ _).size)
  have hva' := hva
  obtain ⟨a1, c1, a2, c2, rfl, -⟩ := hva'
  clear hb1
  have hv : ArIn 1 w.heap.size w1 (numsA [1, 2]) (.agg #[.slice a1 1 c1, .slice a2 2 c2]) := hva.mono (by simp) (Below.refl _ _)
  have K0 := hide hv
  have K1 := hide B1
  clear hva B1 hv
  simp only [numsA, Ar.shape, Ar.cells, numCs, List.length_cons, List.length_nil, List.map_cons, List.map_nil, Nat.zero_add, Nat.reduceAdd]
  go_wp2_with fail
  have R2 := row_new (w1.alloc (.cells #[.slice a1 1 c1, .slice a2 2 c2] 25)) [2, 3] 3 (0, 0) (by simp)
  refine (size_at [2, 3] 2 rfl 6 0 (by decide) (by decide) _ _ _ (by simpa using R2)).mono ?_
  rintro e w2 ⟨rfl, hw⟩
  rw [hw]
  clear hw R2
  go_wp2_with fail
  obtain ⟨w2, e2⟩ : ∃ w2, w2 = (w1.alloc (.cells #[.slice a1 1 c1, .slice a2 2 c2] 25)).alloc (.cells #[.int .i64 2, .int .i64 3] 3) := ⟨_, rfl⟩
  have s2 : w2.heap.size = w1.heap.size + 2 := by rw [e2]; simp
  have R3 := row_new w2 [2, 3] 3 (0, 0) (by simp)
  have R4 := row_new (w2.alloc (.cells #[.int .i64 2, .int .i64 3] 3)) [1, 2] 3 (0, 0) (by simp)
  have hc0 : w2.cell? ⟨w1.heap.size, 0, none⟩ = some (.slice a1 1 c1) := by rw [e2]; exact cell_new1 w1 _ 25 (0, 0) _ 0 _ rfl
  have hc1 : w2.cell? ⟨w1.heap.size, 1, none⟩ = some (.slice a2 2 c2) := by rw [e2]; exact cell_new1 w1 _ 25 (0, 0) _ 1 _ rfl
  have B2 : Below w1.heap.size w1 w2 := by rw [e2]; exact two_allocs _ _ _
  have R3' := R3.next (one_alloc _ (.cells #[.int .i64 1, .int .i64 2] 3))
  have s2' : w1.heap.size + 1 + 1 = w2.heap.size := by omega
  have s2'' : w1.heap.size + 1 + 1 + 1 = w2.heap.size + 1 := by omega
  rw [← e2, s2'', s2']
  refine (place_at [2, 3] [1, 2] 2 2 rfl rfl 5 0 plc_works.1 plc_works.2 _ _ _ _ _ (by simpa using R3') (by simpa using R4)).mono ?_
  rintro e w3 ⟨rfl, hw⟩
  rw [hw]
  clear hw R3 R4 R3' s2' s2'' e2
  obtain ⟨w5, e5⟩ : ∃ w5, w5 = (w2.alloc (.cells #[.int .i64 2, .int .i64 3] 3)).alloc (.cells #[.int .i64 1, .int .i64 2] 3) := ⟨_, rfl⟩
  rw [← e5]
  have B5 : Below w2.heap.size w2 w5 := by rw [e5]; exact two_allocs _ _ _
  have q0 : w5.cell? ⟨w1.heap.size, 0, none⟩ = some (.slice a1 1 c1) := (B5.cell (p := ⟨w1.heap.size, 0, none⟩) (by show w1.heap.size < _; omega)).trans hc0
  have q1 : w5.cell? ⟨w1.heap.size, 1, none⟩ = some (.slice a2 2 c2) := (B5.cell (p := ⟨w1.heap.size, 1, none⟩) (by show w1.heap.size < _; omega)).trans hc1
  have B15 : Below w1.heap.size w1 w5 := B2.trans (B5.mono (by omega))
  have HB : Hid (Below w.heap.size w w5) := K1.out.trans (B15.mono K1.out.size)
  have hlt : w1.heap.size < w5.heap.size := by have := B5.size; omega
  have KK : Hid (∀ W, Below w5.heap.size w5 W → ArIn 1 w.heap.size W (numsA [1, 2]) (.agg #[.slice a1 1 c1, .slice a2 2 c2])) := fun W h => K0.out.next (B15.trans (h.mono B15.size))
  have KS : Hid (∀ W, Below w5.heap.size w5 W → (Below w5.heap.size w5 W ∧ W.cell? ⟨w1.heap.size, 0, none⟩ = some (.slice a1 1 c1) ∧ W.cell? ⟨w1.heap.size, 1, none⟩ = some (.slice a2 2 c2))) := fun W h => ⟨h, (h.cell (p := ⟨w1.heap.size, 0, none⟩) hlt).trans q0, (h.cell (p := ⟨w1.heap.size, 1, none⟩) hlt).trans q1⟩
  have C1 : Hid (∀ W, (Below w5.heap.size w5 W ∧ W.cell? ⟨w1.heap.size, 0, none⟩ = some (.slice a1 1 c1) ∧ W.cell? ⟨w1.heap.size, 1, none⟩ = some (.slice a2 2 c2)) → Calls Try.prog 14 #[.agg #[.slice a1 1 c1, .slice a2 2 c2]] W fun e w' => e = .returned (.int .i64 0) ∧ Below w5.heap.size w5 w') := by
    rintro W ⟨h, -⟩
    have := check_any 1 (numsA [1, 2]) _ _ W (KK.out W h)
    rw [chk_works] at this
    exact this.mono fun e w' ⟨he, hb⟩ => ⟨he, h.trans (hb.mono h.size)⟩
  have C2 : Hid (∀ W, (Below w5.heap.size w5 W ∧ W.cell? ⟨w1.heap.size, 0, none⟩ = some (.slice a1 1 c1) ∧ W.cell? ⟨w1.heap.size, 1, none⟩ = some (.slice a2 2 c2)) → ∀ b : Nat, ArIn 1 b W (.mk [3] []) (.agg #[.slice (some ⟨b, 0, none⟩) 1 1, .slice none 0 0]) → Calls Try.prog 14 #[.agg #[.slice (some ⟨b, 0, none⟩) 1 1, .slice none 0 0]] W fun e w' => e = .returned (.int .i64 1) ∧ Below w5.heap.size w5 w') := by
    rintro W ⟨h, -⟩ b hA
    have := check_any 1 (.mk [3] []) _ _ _ hA
    rw [chk_works2] at this
    exact this.mono fun e w' ⟨he, hb⟩ => ⟨he, h.trans (hb.mono h.size)⟩
  have C2' : Hid (∀ W : World, ArIn 1 W.heap.size (W.alloc (.cells #[.int .i64 3] 3)) (.mk [3] []) (.agg #[.slice (some ⟨W.heap.size, 0, none⟩) 1 1, .slice none 0 0])) := fun W =>
      arIn_mk (n := 0) (x := .mk [3] []) (row_new W [3] 3 (0, 0) (by simp)) (by simp [Ar.cells]) (Or.inl rfl) rfl rfl
  have C3 : Hid (∀ W, (Below w5.heap.size w5 W ∧ W.cell? ⟨w1.heap.size, 0, none⟩ = some (.slice a1 1 c1) ∧ W.cell? ⟨w1.heap.size, 1, none⟩ = some (.slice a2 2 c2)) → Calls Try.prog 16 #[.int .i64 5] W fun e w' => (∃ p q, e = .returned (.agg #[p, q]) ∧ ArIn 1 W.heap.size w' (atomA 5) (.agg #[p, q])) ∧ Below w5.heap.size w5 w') := by
    rintro W ⟨h, -⟩
    refine (atom_any 0 5 W).mono ?_
    rintro e w' ⟨⟨v, rfl, hv⟩, hb⟩
    refine ⟨?_, h.trans (hb.mono h.size)⟩
    have hv' := hv
    obtain ⟨x1, y1, x2, y2, rfl, -⟩ := hv'
    exact ⟨_, _, rfl, hv⟩
  have C4 : Hid (∀ W, (Below w5.heap.size w5 W ∧ W.cell? ⟨w1.heap.size, 0, none⟩ = some (.slice a1 1 c1) ∧ W.cell? ⟨w1.heap.size, 1, none⟩ = some (.slice a2 2 c2)) → ∀ lo p q, ArIn 1 lo W (atomA 5) (.agg #[p, q]) → Calls Try.prog 15 #[.agg #[.slice a1 1 c1, .slice a2 2 c2], .agg #[p, q]] W fun e w' => e = .returned (.int .i64 1) ∧ Below w5.heap.size w5 w') := by
    rintro W ⟨h, -⟩ lo p q hp
    have := cmp_any 1 _ _ _ _ _ _ W (KK.out W h) hp
    rw [cmp_works] at this
    exact this.mono fun e w' ⟨he, hb⟩ => ⟨he, h.trans (hb.mono h.size)⟩
  have HR : Hid (Below w5.heap.size w5 w5.drew) := (Below.refl _ _).drew
  have HAL : Hid (∀ W o, (Below w5.heap.size w5 W ∧ W.cell? ⟨w1.heap.size, 0, none⟩ = some (.slice a1 1 c1) ∧ W.cell? ⟨w1.heap.size, 1, none⟩ = some (.slice a2 2 c2)) → Below w5.heap.size w5 (W.alloc o)) := fun W o h => h.1.alloc h.1.size o
  clear hc0 hc1 B2 B5 B15 K0 K1 KK e5 s2 q0 q1 hlt
  go_wp2
  go_region_held3 (fun W => Below w5.heap.size w5 W ∧ W.cell? ⟨w1.heap.size, 0, none⟩ = some (.slice a1 1 c1) ∧ W.cell? ⟨w1.heap.size, 1, none⟩ = some (.slice a2 2 c2))
    (first | exact KS.out _ HR.out | exact KS.out _ (by assumption) | exact KS.out _ (HAL.out _ _ (by assumption)))
    (first
      | (go_at_call_of 14 a1; refine (C1.out _ (by assumption)).mono ?_; rintro e w6 ⟨rfl, hb6⟩)
      | (go_at_call 14; refine (C2.out _ (by assumption) _ (C2'.out _)).mono ?_; rintro e w7 ⟨rfl, hb7⟩)
      | (go_at_call 16; refine (C3.out _ (by assumption)).mono ?_; rintro e w8 ⟨⟨p, q, rfl, hpq⟩, hb8⟩)
      | (go_at_call 15; refine (C4.out _ (by assumption) _ _ _ (by assumption)).mono ?_; rintro e w9 ⟨rfl, hb9⟩))
  go_wp2
  go_ret
  exact ⟨rfl, HB.out.trans (hb9.mono HB.out.size)⟩
end Go.Proofs.Ytkigfmfegldhcaa
