/-
  For all lists of int64 and all int64 n the statement ArrMakes holds: Atom, Nums and Text of layer 3 make what the document's make, and what Atom and Nums make may be; no condition (the given row speaks of slices that a machine of 64 bits can hold).
-/
import Derived.Test.YtednaamfgobkoaaOwnY
import Derived.Test.YtednaamfgobkoaaOwnZ
namespace Go.Proofs.Ytednaamfgobkoaa.arrMakes
open Go.ChangeShapes Go.WideShapes Go.ChangeAt Go.RowKit
set_option linter.unusedVariables false
theorem three_allocs (w : World) (o1 o2 o3 : Obj) : Below w.heap.size w (((w.alloc o1).alloc o2).alloc o3) := (two_allocs w o1 o2).trans ((one_alloc _ o3).mono (by simp; omega))
theorem gives {n : Nat} {x : Ar} {w w' : World} {e : Ending} {S C : Nat} (h : GivesA (n + 1) x w e w') (hS : x.shape.length = S) (hC : x.cells.length = C) : (∃ a1 c1 a2 c2, e = .returned (.agg #[.slice a1 S c1, .slice a2 C c2]) ∧ ArIn (n + 1) 0 w' x (.agg #[.slice a1 S c1, .slice a2 C c2])) ∧ Below w.heap.size w w' := by
  obtain ⟨⟨v, he, hv⟩, hb⟩ := h
  have hv' := hv
  obtain ⟨a1, c1, a2, c2, rfl, -⟩ := hv'
  subst hS hC
  exact ⟨⟨a1, c1, a2, c2, he, hv.mono (Nat.zero_le _) (Below.refl _ _)⟩, hb⟩
theorem text_shape (l : List Int) : (textA l).cells.length = l.length := by
  unfold textA
  split <;> simp [Ar.cells, numCs_len]
set_option maxHeartbeats 8000000 in
theorem walk1 (l : List Int) (a : Option Addr) (cap : Nat) (z : Int) (w : World) (R : Row 0 w a l) (hl : l.length ≤ 16384) :
    Calls Try.prog 6 #[.slice a l.length cap, .int .i64 z] w fun e w' => e = .returned (.bool true) ∧ Below w.heap.size w w' := by
  have HR := hide R
  clear R
  have HTL := hide (text_shape l)
  obtain ⟨TS, hTS⟩ : ∃ TS, (textA l).shape.length = TS := ⟨_, rfl⟩
  have HTS := hide hTS
  clear hTS
  have hl' : ¬ 16384 < (l.length : Int) := by omega
  have HLL := hide hl
  obtain ⟨L, hL⟩ : ∃ L, l.length = L := ⟨_, rfl⟩
  have HL := hide hL
  rw [hL] at hl hl' ⊢
  clear hL
  go_enter Try.func6, Try.ntmps6
  go_wp2_with fail
  refine (atom_any 0 z _).mono ?_
  intro e w1 hg
  obtain ⟨⟨p1, pc1, p2, pc2, rfl, hP⟩, B1⟩ := gives (S := 0) (C := 1) hg rfl rfl
  have HP := hide hP
  have HB1 := hide B1
  clear hg hP B1
  go_wp2_with fail
  have C0 := nums_any 0 l a cap w1 (HR.out.next HB1.out) (by have := HLL.out; omega)
  rw [HL.out] at C0
  refine C0.mono ?_
  intro e w2 hg
  obtain ⟨⟨q1, qc1, q2, qc2, rfl, hQ⟩, B2⟩ := gives (S := 1) (C := L) hg rfl ((numCs_len 0 l).trans HL.out)
  have HQ := hide hQ
  have HP2 := hide (HP.out.next B2)
  have HB2 := hide (HB1.out.trans (B2.mono HB1.out.size))
  clear hg hQ B2 C0 HP HB1
  go_wp2_with fail
  have C0 := text_any 0 l a cap w2 (HR.out.next HB2.out) (by have := HLL.out; omega)
  rw [HL.out] at C0
  refine C0.mono ?_
  intro e w3 hg
  obtain ⟨⟨t1, tc1, t2, tc2, rfl, hT⟩, B3⟩ := gives (S := TS) (C := L) hg HTS.out (HTL.out.trans HL.out)
  have HT := hide hT
  have HP3 := hide (HP2.out.next B3)
  have HQ3 := hide (HQ.out.next B3)
  have HB3 := hide (HB2.out.trans (B3.mono HB2.out.size))
  clear hg hT B3 C0 HP2 HQ HB2
  obtain ⟨w4, e4⟩ : ∃ w4, w4 = ((w3.alloc (.cells #[.slice p1 0 pc1, .slice p2 1 pc2] 25)).alloc (.cells #[.slice q1 1 qc1, .slice q2 L qc2] 25)).alloc (.cells #[.slice t1 TS tc1, .slice t2 L tc2] 25) := ⟨_, rfl⟩
  have B4 : Below w3.heap.size w3 w4 := by rw [e4]; exact three_allocs _ _ _ _
  have s4 : w4.heap.size = w3.heap.size + 3 := by rw [e4]; simp
  have KS : Hid (∀ W, Below w4.heap.size w4 W → (Below w4.heap.size w4 W ∧ (W.cell? ⟨w3.heap.size, 0, none⟩ = some (.slice p1 0 pc1) ∧ W.cell? ⟨w3.heap.size, 1, none⟩ = some (.slice p2 1 pc2)) ∧ (W.cell? ⟨w3.heap.size + 1, 0, none⟩ = some (.slice q1 1 qc1) ∧ W.cell? ⟨w3.heap.size + 1, 1, none⟩ = some (.slice q2 L qc2)) ∧ (W.cell? ⟨w3.heap.size + 2, 0, none⟩ = some (.slice t1 TS tc1) ∧ W.cell? ⟨w3.heap.size + 2, 1, none⟩ = some (.slice t2 L tc2)))) := by
    intro W h
    have s2 := size_two w3 (.cells #[.slice p1 0 pc1, .slice p2 1 pc2] 25) (.cells #[.slice q1 1 qc1, .slice q2 L qc2] 25)
    have g : ∀ b i v, b < w3.heap.size + 2 → ((w3.alloc (.cells #[.slice p1 0 pc1, .slice p2 1 pc2] 25)).alloc (.cells #[.slice q1 1 qc1, .slice q2 L qc2] 25)).cell? ⟨b, i, none⟩ = some v → w4.cell? ⟨b, i, none⟩ = some v := by
      intro b i v hb hh
      rw [e4]
      exact ((one_alloc _ _).cell (p := ⟨b, i, none⟩) (by rw [s2]; exact hb)).trans hh
    have n0 : ∀ i v, #[Value.slice t1 TS tc1, .slice t2 L tc2][i]? = some v → w4.cell? ⟨w3.heap.size + 2, i, none⟩ = some v := by
      intro i v hi
      rw [e4, ← s2]
      exact cell_new0 _ _ 25 i v hi
    have tr : ∀ b i v, b < w3.heap.size + 3 → w4.cell? ⟨b, i, none⟩ = some v → W.cell? ⟨b, i, none⟩ = some v := fun b i v hb hh => (h.cell (p := ⟨b, i, none⟩) (by rw [s4]; exact hb)).trans hh
    exact ⟨h, ⟨tr _ _ _ (by omega) (g _ _ _ (by omega) (cell_new1 w3 _ 25 (0, 0) _ 0 _ rfl)), tr _ _ _ (by omega) (g _ _ _ (by omega) (cell_new1 w3 _ 25 (0, 0) _ 1 _ rfl))⟩, ⟨tr _ _ _ (by omega) (g _ _ _ (by omega) (cell_new2 w3 _ 25 (0, 0) _ 0 _ rfl)), tr _ _ _ (by omega) (g _ _ _ (by omega) (cell_new2 w3 _ 25 (0, 0) _ 1 _ rfl))⟩, ⟨tr _ _ _ (by omega) (n0 0 _ rfl), tr _ _ _ (by omega) (n0 1 _ rfl)⟩⟩
  have HB4 := hide (HB3.out.trans (B4.mono HB3.out.size))
  have T3 : ∀ W, Below w4.heap.size w4 W → Below w3.heap.size w3 W := fun W h => B4.trans (h.mono B4.size)
  have TW : ∀ W, Below w4.heap.size w4 W → Below w.heap.size w W := fun W h => HB4.out.trans (h.mono HB4.out.size)
  have C1 : Hid (∀ W, (Below w4.heap.size w4 W ∧ (W.cell? ⟨w3.heap.size, 0, none⟩ = some (.slice p1 0 pc1) ∧ W.cell? ⟨w3.heap.size, 1, none⟩ = some (.slice p2 1 pc2)) ∧ (W.cell? ⟨w3.heap.size + 1, 0, none⟩ = some (.slice q1 1 qc1) ∧ W.cell? ⟨w3.heap.size + 1, 1, none⟩ = some (.slice q2 L qc2)) ∧ (W.cell? ⟨w3.heap.size + 2, 0, none⟩ = some (.slice t1 TS tc1) ∧ W.cell? ⟨w3.heap.size + 2, 1, none⟩ = some (.slice t2 L tc2))) → Calls Try.prog 25 #[.int .i64 z] W fun e w' => (∃ u v, e = .returned (.agg #[u, v]) ∧ ArIn 1 0 w' (atomA z) (.agg #[u, v])) ∧ Below w4.heap.size w4 w') := by
    rintro W ⟨h, -⟩
    have C := ratom_any 0 z W
    skip
    refine C.mono ?_
    rintro e w' ⟨⟨v, rfl, hv⟩, hb⟩
    have hv' := hv
    obtain ⟨x1, y1, x2, y2, rfl, -⟩ := hv'
    exact ⟨⟨_, _, rfl, hv.mono (Nat.zero_le _) (Below.refl _ _)⟩, h.trans (hb.mono h.size)⟩
  have C2 : Hid (∀ W, (Below w4.heap.size w4 W ∧ (W.cell? ⟨w3.heap.size, 0, none⟩ = some (.slice p1 0 pc1) ∧ W.cell? ⟨w3.heap.size, 1, none⟩ = some (.slice p2 1 pc2)) ∧ (W.cell? ⟨w3.heap.size + 1, 0, none⟩ = some (.slice q1 1 qc1) ∧ W.cell? ⟨w3.heap.size + 1, 1, none⟩ = some (.slice q2 L qc2)) ∧ (W.cell? ⟨w3.heap.size + 2, 0, none⟩ = some (.slice t1 TS tc1) ∧ W.cell? ⟨w3.heap.size + 2, 1, none⟩ = some (.slice t2 L tc2))) → Calls Try.prog 26 #[.slice a L cap] W fun e w' => (∃ u v, e = .returned (.agg #[u, v]) ∧ ArIn 1 0 w' (numsA l) (.agg #[u, v])) ∧ Below w4.heap.size w4 w') := by
    rintro W ⟨h, -⟩
    have C := rnums_any 0 l a cap W (HR.out.next (TW W h)) HLL.out
    rw [HL.out] at C
    refine C.mono ?_
    rintro e w' ⟨⟨v, rfl, hv⟩, hb⟩
    have hv' := hv
    obtain ⟨x1, y1, x2, y2, rfl, -⟩ := hv'
    exact ⟨⟨_, _, rfl, hv.mono (Nat.zero_le _) (Below.refl _ _)⟩, h.trans (hb.mono h.size)⟩
  have C3 : Hid (∀ W, (Below w4.heap.size w4 W ∧ (W.cell? ⟨w3.heap.size, 0, none⟩ = some (.slice p1 0 pc1) ∧ W.cell? ⟨w3.heap.size, 1, none⟩ = some (.slice p2 1 pc2)) ∧ (W.cell? ⟨w3.heap.size + 1, 0, none⟩ = some (.slice q1 1 qc1) ∧ W.cell? ⟨w3.heap.size + 1, 1, none⟩ = some (.slice q2 L qc2)) ∧ (W.cell? ⟨w3.heap.size + 2, 0, none⟩ = some (.slice t1 TS tc1) ∧ W.cell? ⟨w3.heap.size + 2, 1, none⟩ = some (.slice t2 L tc2))) → Calls Try.prog 27 #[.slice a L cap] W fun e w' => (∃ u v, e = .returned (.agg #[u, v]) ∧ ArIn 1 0 w' (textA l) (.agg #[u, v])) ∧ Below w4.heap.size w4 w') := by
    rintro W ⟨h, -⟩
    have C := rtext_any 0 l a cap W (HR.out.next (TW W h)) HLL.out
    rw [HL.out] at C
    refine C.mono ?_
    rintro e w' ⟨⟨v, rfl, hv⟩, hb⟩
    have hv' := hv
    obtain ⟨x1, y1, x2, y2, rfl, -⟩ := hv'
    exact ⟨⟨_, _, rfl, hv.mono (Nat.zero_le _) (Below.refl _ _)⟩, h.trans (hb.mono h.size)⟩
  have C4 : Hid (∀ W, (Below w4.heap.size w4 W ∧ (W.cell? ⟨w3.heap.size, 0, none⟩ = some (.slice p1 0 pc1) ∧ W.cell? ⟨w3.heap.size, 1, none⟩ = some (.slice p2 1 pc2)) ∧ (W.cell? ⟨w3.heap.size + 1, 0, none⟩ = some (.slice q1 1 qc1) ∧ W.cell? ⟨w3.heap.size + 1, 1, none⟩ = some (.slice q2 L qc2)) ∧ (W.cell? ⟨w3.heap.size + 2, 0, none⟩ = some (.slice t1 TS tc1) ∧ W.cell? ⟨w3.heap.size + 2, 1, none⟩ = some (.slice t2 L tc2))) → ∀ u v, ArIn 1 0 W (atomA z) (.agg #[u, v]) → Calls Try.prog 20 #[.agg #[.slice p1 0 pc1, .slice p2 1 pc2], .agg #[u, v]] W fun e w' => e = .returned (.bool true) ∧ Below w4.heap.size w4 w') := by
    rintro W ⟨h, -⟩ u v hv
    have C := rsame_any (HP3.out.next (T3 W h)) hv
    rw [cmpA_self] at C
    exact C.mono fun e w' ⟨he, hb⟩ => ⟨he, h.trans (hb.mono h.size)⟩
  have C5 : Hid (∀ W, (Below w4.heap.size w4 W ∧ (W.cell? ⟨w3.heap.size, 0, none⟩ = some (.slice p1 0 pc1) ∧ W.cell? ⟨w3.heap.size, 1, none⟩ = some (.slice p2 1 pc2)) ∧ (W.cell? ⟨w3.heap.size + 1, 0, none⟩ = some (.slice q1 1 qc1) ∧ W.cell? ⟨w3.heap.size + 1, 1, none⟩ = some (.slice q2 L qc2)) ∧ (W.cell? ⟨w3.heap.size + 2, 0, none⟩ = some (.slice t1 TS tc1) ∧ W.cell? ⟨w3.heap.size + 2, 1, none⟩ = some (.slice t2 L tc2))) → ∀ u v, ArIn 1 0 W (numsA l) (.agg #[u, v]) → Calls Try.prog 20 #[.agg #[.slice q1 1 qc1, .slice q2 L qc2], .agg #[u, v]] W fun e w' => e = .returned (.bool true) ∧ Below w4.heap.size w4 w') := by
    rintro W ⟨h, -⟩ u v hv
    have C := rsame_any (HQ3.out.next (T3 W h)) hv
    rw [cmpA_self] at C
    exact C.mono fun e w' ⟨he, hb⟩ => ⟨he, h.trans (hb.mono h.size)⟩
  have C6 : Hid (∀ W, (Below w4.heap.size w4 W ∧ (W.cell? ⟨w3.heap.size, 0, none⟩ = some (.slice p1 0 pc1) ∧ W.cell? ⟨w3.heap.size, 1, none⟩ = some (.slice p2 1 pc2)) ∧ (W.cell? ⟨w3.heap.size + 1, 0, none⟩ = some (.slice q1 1 qc1) ∧ W.cell? ⟨w3.heap.size + 1, 1, none⟩ = some (.slice q2 L qc2)) ∧ (W.cell? ⟨w3.heap.size + 2, 0, none⟩ = some (.slice t1 TS tc1) ∧ W.cell? ⟨w3.heap.size + 2, 1, none⟩ = some (.slice t2 L tc2))) → ∀ u v, ArIn 1 0 W (textA l) (.agg #[u, v]) → Calls Try.prog 20 #[.agg #[.slice t1 TS tc1, .slice t2 L tc2], .agg #[u, v]] W fun e w' => e = .returned (.bool true) ∧ Below w4.heap.size w4 w') := by
    rintro W ⟨h, -⟩ u v hv
    have C := rsame_any (HT.out.next (T3 W h)) hv
    rw [cmpA_self] at C
    exact C.mono fun e w' ⟨he, hb⟩ => ⟨he, h.trans (hb.mono h.size)⟩
  have C7 : Hid (∀ W, Below w4.heap.size w4 W → Calls Try.prog 11 #[.agg #[.slice p1 0 pc1, .slice p2 1 pc2]] W fun e w' => e = .returned (.int .i64 0) ∧ Below w4.heap.size w4 w') := by
    intro W h
    have C := check_any 1 (atomA z) _ _ W (HP3.out.next (T3 W h))
    rw [chk_atom] at C
    exact C.mono fun e w' ⟨he, hb⟩ => ⟨he, h.trans (hb.mono h.size)⟩
  have C8 : Hid (∀ W, Below w4.heap.size w4 W → Calls Try.prog 11 #[.agg #[.slice q1 1 qc1, .slice q2 L qc2]] W fun e w' => e = .returned (.int .i64 0) ∧ Below w4.heap.size w4 w') := by
    intro W h
    have C := check_any 1 (numsA l) _ _ W (HQ3.out.next (T3 W h))
    rw [chk_nums l HLL.out] at C
    exact C.mono fun e w' ⟨he, hb⟩ => ⟨he, h.trans (hb.mono h.size)⟩
  have HRR : Hid (Below w4.heap.size w4 w4.drew) := (Below.refl _ _).drew
  clear B4 s4 T3 TW HR HP3 HQ3 HT HB3 HL HLL HTS HTL
  go_wp2
  rw [← e4]
  clear e4
  go_region_held3 (fun W => Below w4.heap.size w4 W ∧ (W.cell? ⟨w3.heap.size, 0, none⟩ = some (.slice p1 0 pc1) ∧ W.cell? ⟨w3.heap.size, 1, none⟩ = some (.slice p2 1 pc2)) ∧ (W.cell? ⟨w3.heap.size + 1, 0, none⟩ = some (.slice q1 1 qc1) ∧ W.cell? ⟨w3.heap.size + 1, 1, none⟩ = some (.slice q2 L qc2)) ∧ (W.cell? ⟨w3.heap.size + 2, 0, none⟩ = some (.slice t1 TS tc1) ∧ W.cell? ⟨w3.heap.size + 2, 1, none⟩ = some (.slice t2 L tc2)))
    (first | exact KS.out _ HRR.out | exact KS.out _ (by assumption))
    (first
      | (go_at_call 25; refine (C1.out _ (by assumption)).mono ?_; rintro e x1 ⟨⟨u1, v1, rfl, hu1⟩, hx1⟩)
      | (go_at_call 26; refine (C2.out _ (by assumption)).mono ?_; rintro e x2 ⟨⟨u2, v2, rfl, hu2⟩, hx2⟩)
      | (go_at_call 27; refine (C3.out _ (by assumption)).mono ?_; rintro e x3 ⟨⟨u3, v3, rfl, hu3⟩, hx3⟩)
      | (go_at_call_of 20 p2; refine (C4.out _ (by assumption) _ _ (by assumption)).mono ?_; rintro e x4 ⟨rfl, hx4⟩)
      | (go_at_call_of 20 q2; refine (C5.out _ (by assumption) _ _ (by assumption)).mono ?_; rintro e x5 ⟨rfl, hx5⟩)
      | (go_at_call_of 20 t2; refine (C6.out _ (by assumption) _ _ (by assumption)).mono ?_; rintro e x6 ⟨rfl, hx6⟩))
  obtain ⟨-, ⟨m0, m1⟩, -, -⟩ := KS.out _ hx6
  clear C1 C2 C3 C4 C5 C6 HRR
  go_wp2_with fail
  refine (C7.out _ hx6).mono ?_
  rintro e x7 ⟨rfl, hx7⟩
  obtain ⟨-, -, ⟨m2, m3⟩, -⟩ := KS.out _ hx7
  clear C7 m0 m1
  go_wp2_with fail
  refine (C8.out _ hx7).mono ?_
  rintro e x8 ⟨rfl, hx8⟩
  have HB8 := hide (HB4.out.trans (hx8.mono HB4.out.size))
  clear C8 KS m2 m3
  go_wp2_with fail
  refine (works_any _).mono ?_
  rintro e x9 ⟨rfl, hx9⟩
  go_wp2
  go_ret
  exact ⟨rfl, HB8.out.trans (hx9.mono HB8.out.size)⟩
set_option maxHeartbeats 1000000 in
theorem walk0 (L : Nat) (a : Option Addr) (cap : Nat) (z : Int) (w : World) (hl : 16384 < (L : Int)) :
    Calls Try.prog 6 #[.slice a L cap, .int .i64 z] w fun e w' => e = .returned (.bool true) ∧ Below w.heap.size w w' := by
  go_enter Try.func6, Try.ntmps6
  go_wp2_with fail
  refine (works_any _).mono ?_
  rintro e x9 ⟨rfl, hx9⟩
  go_wp2
  go_ret
  exact ⟨rfl, hx9⟩
theorem walk (a : Option Addr) (len cap : Nat) (l : List Int) (z : Int) (w : World) (h : l.length = len ∧ Row 0 w a l ∧ len * 8 ≤ 140737488351232) :
    Calls Try.prog 6 #[.slice a len cap, .int .i64 z] w fun e w' => e = .returned (.bool true) ∧ Below w.heap.size w w' := by
  obtain ⟨rfl, R, -⟩ := h
  by_cases hl : l.length ≤ 16384
  · exact walk1 l a cap z w R hl
  · exact walk0 l.length a cap z w (by omega)
set_option maxRecDepth 100000 in
theorem lifted (os : Os) (started : os.Started) (H : Type) (enc : TypeId × Value → H) :
    ReturnsInHanded {} Try.checked os 6 .any (Rows.arrMakesSpec.pre6 enc Try.prog Try.f6 Rows.arrMakesRow.domain false) (Rows.arrMakesSpec.post enc Try.prog Try.f6 false true false false) := by
  refine returnsInHanded_of_change_sized (C := Try.checked) own started (by kernel_rfl) Try.func6
    (ChangeSpec.witness6 (enc := enc) (C := Try.checked) false ⟨#[], #[.slice none 0 0, .int .i64 0], []⟩ 8 (by kernel_rfl) (by kernel_rfl) (by kernel_rfl) (by kernel_rfl)) ?_
  intro W base args ds gs before hval0 hW _ hsz0 _
  have hsz : (DataW.weightsEach Try.prog (Try.f6.params.toList ++ Rows.arrMakesSpec.plain.varTypes Try.prog) (ds ++ gs)).all (· ≤ reachBytes) = true := hsz0
  clear hsz0
  have hval : ∀ (j : Nat) t v, Try.f6.params[j]? = some t → args[j]? = some v → Value.okWide Try.prog W .any base t v := hval0
  have hW' := hW
  obtain ⟨p, q, hA0, hV, rfl, hfz, hnd⟩ := hW
  have hA : DataW.TrodAll enc Try.prog W 0 (fun _ => true) true Try.f6.params.toList args.toList ds p := hA0
  rw [Try.params6] at hA hval hsz
  obtain ⟨v0, vs0, d0, ds0, p0, q0, hargs, rfl, rfl, h0, r0⟩ := trodAll_cons hA
  obtain ⟨v1, vs1, d1, ds1, p1, q1, rfl, rfl, rfl, h1, r1⟩ := trodAll_cons r0
  obtain ⟨rfl, rfl, rfl⟩ := trodAll_nil r1
  obtain rfl : args = #[v0, v1] := by cases args; simp_all
  obtain ⟨rfl, rfl⟩ := trodVars_none hV
  obtain ⟨a0, len0, cap0, rfl⟩ := okWide_slice Try.underlying40 (hval 0 40 v0 rfl rfl)
  have k0 := h0
  have lt0 : ∀ x ∈ p0, x.block < W.heap.size := by obtain ⟨m, hm⟩ := k0; exact DataW.trod_lt m _ _ _ hm
  obtain ⟨z0, w0⟩ := ints64_row hsz (j := 0) rfl rfl h0
  obtain ⟨x1, rfl, rfl, rfl, w1⟩ := open_int Try.underlying2 (hval 1 2 v1 rfl rfl) h1
  clear hA0 hval0
  refine (walk a0 len0 cap0 z0 x1 W w0).mono fun e W' ⟨he, bel⟩ => ?_
  subst he
  exact ⟨_, rfl, _, _, _, [], _, [], hW', trodAll_mk1 (shut_bool Try.underlying4 _), (trodAll_cons_mk (Below.trod laidOut (by kernel_rfl) (of_decide_eq_true (by kernel_rfl)) k0 bel lt0) (trodAll_cons_mk (shut_int Try.underlying2 w1) trodAll_mk0)), rfl, bel.frame _, fun h => by cases h⟩
theorem over : Rows.arrMakesRow.holds Try.pinned (OpenSpec.ofChange Rows.arrMakesSpec) :=
  OpenClaim.holds_of_wide 6 Try.f6 rfl rfl rfl rfl rfl rfl rfl ⟨rfl, rfl, rfl, rfl, rfl⟩ rfl rfl rfl rfl rfl (by kernel_rfl) Try.func6 (by kernel_rfl)
    (of_decide_eq_true (by kernel_rfl)) (by unfold Func.isWrapper; first | (rw [if_pos (by decide +kernel)]; kernel_rfl) | (rw [if_neg (by decide +kernel)]; exact ⟨rfl, rfl⟩))
    (fun os started H enc _ => lifted os started H enc)
theorem proved : Rows.ArrMakesSaid := over
end Go.Proofs.Ytednaamfgobkoaa.arrMakes
namespace Go.Proofs.Ytednaamfgobkoaa
theorem arrMakes_holds : Rows.ArrMakesSaid := arrMakes.proved
#print axioms arrMakes_holds
end Go.Proofs.Ytednaamfgobkoaa
