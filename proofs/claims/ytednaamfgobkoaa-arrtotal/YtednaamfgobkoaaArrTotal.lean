/-
  For all three arrays the statement ArrTotal holds: of arrays that may be, turned round the order is turned, it leads from one to the next, what is the same stands alike, and a copy is the same and may be; no condition (the given row speaks of what a machine of 64 bits can hold).
-/
import Derived.Test.YtednaamfgobkoaaOwnAB
import Derived.Test.YtednaamfgobkoaaOwnAC
import Derived.Deep.QuietTactic
import Derived.BigQuiet
namespace Go.Proofs.Ytednaamfgobkoaa.arrTotal
open Go.ChangeShapes Go.WideShapes Go.ChangeAt Go.RowKit
set_option linter.unusedVariables false
theorem three_allocs (w : World) (o1 o2 o3 : Obj) : Below w.heap.size w (((w.alloc o1).alloc o2).alloc o3) := (two_allocs w o1 o2).trans ((one_alloc _ o3).mono (by simp; omega))
theorem region_class {P : Program} {id : Nat} {Q : Exit → Act → World → Prop} {a : Act} {w : World} {l : List Oper} {C : World → Prop} (hm : P.follows .mixedOrders = true) (hB : Region.lexB .any l.toArray = true) (hC : C w.drew)
    (h : wpQuiet P l.toArray C (fun a' => ∀ w', C w' → Q .normal a' w') l a) : (Code.region id l.toArray true).wp P Q a w :=
  wp_region_quiet (C := C) hm hB hC (by simpa using h)
set_option maxRecDepth 20000 in
set_option maxHeartbeats 16000000 in
theorem walk1 (n : Nat) (x y z : Ar) (c0 c1 p0 p1 r0 r1 : Value) (w : World) (hx : ArIn (n + 1) 0 w x (.agg #[c0, c1])) (hy : ArIn (n + 1) 0 w y (.agg #[p0, p1])) (hz : ArIn (n + 1) 0 w z (.agg #[r0, r1])) :
    Calls Try.prog 5 #[.agg #[c0, c1], .agg #[p0, p1], .agg #[r0, r1]] w fun e w' => e = .returned (.bool true) ∧ Below w.heap.size w w' := by
  have hx' := hx
  have hy' := hy
  have hz' := hz
  obtain ⟨a1, k1, a2, k2, hv, -⟩ := hx'
  simp only [Value.agg.injEq, Array.mk.injEq, List.cons.injEq, and_true] at hv
  obtain ⟨rfl, rfl⟩ := hv
  obtain ⟨b1, l1, b2, l2, hv, -⟩ := hy'
  simp only [Value.agg.injEq, Array.mk.injEq, List.cons.injEq, and_true] at hv
  obtain ⟨rfl, rfl⟩ := hv
  obtain ⟨d1, m1, d2, m2, hv, -⟩ := hz'
  simp only [Value.agg.injEq, Array.mk.injEq, List.cons.injEq, and_true] at hv
  obtain ⟨rfl, rfl⟩ := hv
  have HX : Hid (∀ W, Below w.heap.size w W → ArIn (n + 1) 0 W x (.agg #[.slice a1 x.shape.length k1, .slice a2 x.cells.length k2])) := fun W h => hx.next h
  have HY : Hid (∀ W, Below w.heap.size w W → ArIn (n + 1) 0 W y (.agg #[.slice b1 y.shape.length l1, .slice b2 y.cells.length l2])) := fun W h => hy.next h
  have HZ : Hid (∀ W, Below w.heap.size w W → ArIn (n + 1) 0 W z (.agg #[.slice d1 z.shape.length m1, .slice d2 z.cells.length m2])) := fun W h => hz.next h
  have HCP : Hid (∀ W, Below w.heap.size w W → chkA 8 x = 0 → Calls Try.prog 21 #[.agg #[.slice a1 x.shape.length k1, .slice a2 x.cells.length k2]] W fun e w' => (∃ e1 n1 e2 n2, e = .returned (.agg #[.slice e1 x.shape.length n1, .slice e2 x.cells.length n2]) ∧ ArIn (n + 1) 0 w' x (.agg #[.slice e1 x.shape.length n1, .slice e2 x.cells.length n2])) ∧ Below W.heap.size W w') := by
    intro W h hc
    refine (copy_any (n + 1) 8 x 0 _ W hc (hx.next h)).mono ?_
    rintro e w' ⟨⟨v, rfl, hv⟩, hb⟩
    have hv' := hv
    obtain ⟨e1, n1, e2, n2, rfl, -⟩ := hv'
    exact ⟨⟨e1, n1, e2, n2, rfl, hv.mono (Nat.zero_le _) (Below.refl _ _)⟩, hb⟩
  clear hx hy hz
  generalize x.shape.length = SA at *
  generalize x.cells.length = CA at *
  generalize y.shape.length = SB at *
  generalize y.cells.length = CB at *
  generalize z.shape.length = SC at *
  generalize z.cells.length = CC at *
  obtain ⟨w0, eW⟩ : ∃ w0, w0 = ((w.alloc (.cells #[.slice a1 SA k1, .slice a2 CA k2] 25)).alloc (.cells #[.slice b1 SB l1, .slice b2 CB l2] 25)).alloc (.cells #[.slice d1 SC m1, .slice d2 CC m2] 25) := ⟨_, rfl⟩
  have B0 : Below w.heap.size w w0 := by rw [eW]; exact three_allocs _ _ _ _
  have s0 : w0.heap.size = w.heap.size + 3 := by rw [eW]; simp
  have KS : Hid (∀ W, Below w0.heap.size w0 W → (Below w0.heap.size w0 W ∧ (W.cell? ⟨w.heap.size, 0, none⟩ = some (.slice a1 SA k1) ∧ W.cell? ⟨w.heap.size, 1, none⟩ = some (.slice a2 CA k2)) ∧ (W.cell? ⟨w.heap.size + 1, 0, none⟩ = some (.slice b1 SB l1) ∧ W.cell? ⟨w.heap.size + 1, 1, none⟩ = some (.slice b2 CB l2)) ∧ (W.cell? ⟨w.heap.size + 1 + 1, 0, none⟩ = some (.slice d1 SC m1) ∧ W.cell? ⟨w.heap.size + 1 + 1, 1, none⟩ = some (.slice d2 CC m2)))) := by
    intro W h
    have s2 := size_two w (.cells #[.slice a1 SA k1, .slice a2 CA k2] 25) (.cells #[.slice b1 SB l1, .slice b2 CB l2] 25)
    have g : ∀ b i v, b < w.heap.size + 2 → ((w.alloc (.cells #[.slice a1 SA k1, .slice a2 CA k2] 25)).alloc (.cells #[.slice b1 SB l1, .slice b2 CB l2] 25)).cell? ⟨b, i, none⟩ = some v → w0.cell? ⟨b, i, none⟩ = some v := by
      intro b i v hb hh
      rw [eW]
      exact ((one_alloc _ _).cell (p := ⟨b, i, none⟩) (by rw [s2]; exact hb)).trans hh
    have n0 : ∀ i v, #[Value.slice d1 SC m1, .slice d2 CC m2][i]? = some v → w0.cell? ⟨w.heap.size + 1 + 1, i, none⟩ = some v := by
      intro i v hi
      have := cell_new0 ((w.alloc (.cells #[.slice a1 SA k1, .slice a2 CA k2] 25)).alloc (.cells #[.slice b1 SB l1, .slice b2 CB l2] 25)) _ 25 i v hi
      rw [s2] at this
      rw [eW]
      exact this
    have tr : ∀ b i v, b < w.heap.size + 3 → w0.cell? ⟨b, i, none⟩ = some v → W.cell? ⟨b, i, none⟩ = some v := fun b i v hb hh => (h.cell (p := ⟨b, i, none⟩) (by rw [s0]; exact hb)).trans hh
    exact ⟨h, ⟨tr _ _ _ (by omega) (g _ _ _ (by omega) (cell_new1 w _ 25 (0, 0) _ 0 _ rfl)), tr _ _ _ (by omega) (g _ _ _ (by omega) (cell_new1 w _ 25 (0, 0) _ 1 _ rfl))⟩, ⟨tr _ _ _ (by omega) (g _ _ _ (by omega) (cell_new2 w _ 25 (0, 0) _ 0 _ rfl)), tr _ _ _ (by omega) (g _ _ _ (by omega) (cell_new2 w _ 25 (0, 0) _ 1 _ rfl))⟩, ⟨tr _ _ _ (by omega) (n0 0 _ rfl), tr _ _ _ (by omega) (n0 1 _ rfl)⟩⟩
  have HB0 := hide B0
  have HL0 : Hid (w.heap.size + 3 ≤ w0.heap.size) := by show _ ≤ _; omega
  clear B0 s0
  go_enter Try.func5, Try.ntmps5
  go_upto_region 1 with fail
  rw [← eW]
  clear eW
  go_cut [35] from 8 (fun s35 wx => ∃ b : Bool, s35 = .bool b ∧ (b = false → chkA 8 x = 0) ∧ Below w0.heap.size w0 wx)
  case first =>
    clear HCP
    have J := (KS.out _ (Below.refl w0.heap.size w0)).1
    obtain ⟨-, ⟨q0, q1⟩, ⟨q2, q3⟩, ⟨q4, q5⟩⟩ := KS.out _ J
    go_wp2_with fail
    clear q0 q1 q2 q3 q4 q5
    refine (light_any (HX.out _ (HB0.out.trans (J.mono HB0.out.size)))).mono ?_
    rintro e t0 ⟨⟨r0, rfl, -⟩, hb⟩
    replace J := J.trans (hb.mono J.size)
    clear hb
    cases r0 with
    | false =>
      clear HX HY HZ KS HB0 HL0
      go_wp2_with fail
      go_meet
      case rel => exact ⟨true, by first | rfl | simp [*], (fun h => by cases h), J⟩
    | true =>
    obtain ⟨-, ⟨q0, q1⟩, ⟨q2, q3⟩, ⟨q4, q5⟩⟩ := KS.out _ J
    go_wp2_with fail
    clear q0 q1 q2 q3 q4 q5
    refine (light_any (HY.out _ (HB0.out.trans (J.mono HB0.out.size)))).mono ?_
    rintro e t1 ⟨⟨r1, rfl, -⟩, hb⟩
    replace J := J.trans (hb.mono J.size)
    clear hb
    cases r1 with
    | false =>
      clear HX HY HZ KS HB0 HL0
      go_wp2_with fail
      go_meet
      case rel => exact ⟨true, by first | rfl | simp [*], (fun h => by cases h), J⟩
    | true =>
    obtain ⟨-, ⟨q0, q1⟩, ⟨q2, q3⟩, ⟨q4, q5⟩⟩ := KS.out _ J
    go_wp2_with fail
    clear q0 q1 q2 q3 q4 q5
    refine (light_any (HZ.out _ (HB0.out.trans (J.mono HB0.out.size)))).mono ?_
    rintro e t2 ⟨⟨r2, rfl, -⟩, hb⟩
    replace J := J.trans (hb.mono J.size)
    clear hb
    cases r2 with
    | false =>
      clear HX HY HZ KS HB0 HL0
      go_wp2_with fail
      go_meet
      case rel => exact ⟨true, by first | rfl | simp [*], (fun h => by cases h), J⟩
    | true =>
    obtain ⟨-, ⟨q0, q1⟩, ⟨q2, q3⟩, ⟨q4, q5⟩⟩ := KS.out _ J
    have C := rcheck_any (n + 1) x _ _ _ (HX.out _ (HB0.out.trans (J.mono HB0.out.size)))
    obtain ⟨E0, eE0⟩ : ∃ E, chkA 8 x = E := ⟨_, rfl⟩
    have HE0 := hide eE0
    rw [eE0] at C
    clear eE0
    go_wp2_with fail
    clear q0 q1 q2 q3 q4 q5
    refine C.mono ?_
    rintro e t3 ⟨rfl, hb⟩
    replace J := J.trans (hb.mono J.size)
    clear hb C
    by_cases hE0 : E0 = 0
    case neg =>
      clear HX HY HZ KS HB0 HL0
      go_wp2_with fail
      go_meet
      case rel => exact ⟨true, by first | rfl | simp [*], (fun h => by cases h), J⟩
    subst hE0
    obtain ⟨-, ⟨q0, q1⟩, ⟨q2, q3⟩, ⟨q4, q5⟩⟩ := KS.out _ J
    have C := rcheck_any (n + 1) y _ _ _ (HY.out _ (HB0.out.trans (J.mono HB0.out.size)))
    obtain ⟨E1, eE1⟩ : ∃ E, chkA 8 y = E := ⟨_, rfl⟩
    have HE1 := hide eE1
    rw [eE1] at C
    clear eE1
    go_wp2_with fail
    clear q0 q1 q2 q3 q4 q5
    refine C.mono ?_
    rintro e t4 ⟨rfl, hb⟩
    replace J := J.trans (hb.mono J.size)
    clear hb C
    by_cases hE1 : E1 = 0
    case neg =>
      clear HX HY HZ KS HB0 HL0
      go_wp2_with fail
      go_meet
      case rel => exact ⟨true, by first | rfl | simp [*], (fun h => by cases h), J⟩
    subst hE1
    obtain ⟨-, ⟨q0, q1⟩, ⟨q2, q3⟩, ⟨q4, q5⟩⟩ := KS.out _ J
    have C := rcheck_any (n + 1) z _ _ _ (HZ.out _ (HB0.out.trans (J.mono HB0.out.size)))
    obtain ⟨E2, eE2⟩ : ∃ E, chkA 8 z = E := ⟨_, rfl⟩
    have HE2 := hide eE2
    rw [eE2] at C
    clear eE2
    go_wp2_with fail
    clear q0 q1 q2 q3 q4 q5
    refine C.mono ?_
    rintro e t5 ⟨rfl, hb⟩
    replace J := J.trans (hb.mono J.size)
    clear hb C
    by_cases hE2 : E2 = 0
    case neg =>
      clear HX HY HZ KS HB0 HL0
      go_wp2_with fail
      go_meet
      case rel => exact ⟨true, by first | rfl | simp [*], (fun h => by cases h), J⟩
    subst hE2
    clear HX HY HZ KS HB0 HL0
    go_wp2_with fail
    go_meet
    case rel => exact ⟨false, rfl, (fun _ => HE0.out), J⟩
  case rest =>
  obtain ⟨b, rfl, hchk, J⟩ := hcut
  cases b with
  | true =>
    have HB := hide (HB0.out.trans (J.mono HB0.out.size))
    clear HX HY HZ HCP KS HB0 J HL0 hchk
    go_wp2_with fail
    refine (works_any _).mono ?_
    rintro e v1 ⟨rfl, hv1⟩
    go_wp2
    go_ret
    exact ⟨rfl, HB.out.trans (hv1.mono HB.out.size)⟩
  | false =>
  have HE0 := hide (hchk rfl)
  clear hchk
  obtain ⟨t5, rfl⟩ : ∃ t5, t5 = wc := ⟨_, rfl⟩
  have hO := ord_arr (n + 1)
  have HBC := hide (HB0.out.trans (J.mono HB0.out.size))
  have KS2 : Hid (∀ W, Below t5.heap.size t5 W → (Below t5.heap.size t5 W ∧ (W.cell? ⟨w.heap.size, 0, none⟩ = some (.slice a1 SA k1) ∧ W.cell? ⟨w.heap.size, 1, none⟩ = some (.slice a2 CA k2)) ∧ (W.cell? ⟨w.heap.size + 1, 0, none⟩ = some (.slice b1 SB l1) ∧ W.cell? ⟨w.heap.size + 1, 1, none⟩ = some (.slice b2 CB l2)) ∧ (W.cell? ⟨w.heap.size + 1 + 1, 0, none⟩ = some (.slice d1 SC m1) ∧ W.cell? ⟨w.heap.size + 1 + 1, 1, none⟩ = some (.slice d2 CC m2)))) := fun W h => ⟨h, (KS.out W (J.trans (h.mono J.size))).2⟩
  have KW : ∀ W, Below t5.heap.size t5 W → Below w.heap.size w W := fun W h => HBC.out.trans (h.mono HBC.out.size)
  have HKW := hide KW
  obtain ⟨A, eA⟩ : ∃ A, cmpA (n + 1) x y = A := ⟨_, rfl⟩
  obtain ⟨C, eC⟩ : ∃ C, cmpA (n + 1) y z = C := ⟨_, rfl⟩
  obtain ⟨D, eD⟩ : ∃ D, cmpA (n + 1) x z = D := ⟨_, rfl⟩
  obtain ⟨B, eB⟩ : ∃ B, cmpA (n + 1) y x = B := ⟨_, rfl⟩
  have hBA : B = -A := by rw [← eA, ← eB]; exact hO.anti x y
  have rA : -1 ≤ A ∧ A ≤ 1 := by have := hO.rng x y; rw [eA] at this; omega
  have rC : -1 ≤ C ∧ C ≤ 1 := by have := hO.rng y z; rw [eC] at this; omega
  have rD : -1 ≤ D ∧ D ≤ 1 := by have := hO.rng x z; rw [eD] at this; omega
  have HTR : Hid (A ≤ 0 → C ≤ 0 → D ≤ 0) := by have := hO.trans x y z; rw [eA, eC, eD] at this; exact this
  have HAL : Hid (A = 0 → D = C) := by
    intro h
    have := hO.alike (x := x) (y := y) (z := z) (by rw [eA]; exact h)
    rw [eC, eD] at this
    exact this
  have C1 : Hid (∀ W, (Below t5.heap.size t5 W ∧ (W.cell? ⟨w.heap.size, 0, none⟩ = some (.slice a1 SA k1) ∧ W.cell? ⟨w.heap.size, 1, none⟩ = some (.slice a2 CA k2)) ∧ (W.cell? ⟨w.heap.size + 1, 0, none⟩ = some (.slice b1 SB l1) ∧ W.cell? ⟨w.heap.size + 1, 1, none⟩ = some (.slice b2 CB l2)) ∧ (W.cell? ⟨w.heap.size + 1 + 1, 0, none⟩ = some (.slice d1 SC m1) ∧ W.cell? ⟨w.heap.size + 1 + 1, 1, none⟩ = some (.slice d2 CC m2))) → Calls Try.prog 15 #[.agg #[.slice a1 SA k1, .slice a2 CA k2], .agg #[.slice b1 SB l1, .slice b2 CB l2]] W fun e w' => e = .returned (.int .i64 (A)) ∧ Below t5.heap.size t5 w') := by
    rintro W ⟨h, -⟩
    have Q := eA ▸ cmp_any (n + 1) x y _ _ _ _ W (HX.out W (KW W h)) (HY.out W (KW W h))
    exact Q.mono fun e w' ⟨he, hb⟩ => ⟨he, h.trans (hb.mono h.size)⟩
  have C2 : Hid (∀ W, (Below t5.heap.size t5 W ∧ (W.cell? ⟨w.heap.size, 0, none⟩ = some (.slice a1 SA k1) ∧ W.cell? ⟨w.heap.size, 1, none⟩ = some (.slice a2 CA k2)) ∧ (W.cell? ⟨w.heap.size + 1, 0, none⟩ = some (.slice b1 SB l1) ∧ W.cell? ⟨w.heap.size + 1, 1, none⟩ = some (.slice b2 CB l2)) ∧ (W.cell? ⟨w.heap.size + 1 + 1, 0, none⟩ = some (.slice d1 SC m1) ∧ W.cell? ⟨w.heap.size + 1 + 1, 1, none⟩ = some (.slice d2 CC m2))) → Calls Try.prog 15 #[.agg #[.slice b1 SB l1, .slice b2 CB l2], .agg #[.slice a1 SA k1, .slice a2 CA k2]] W fun e w' => e = .returned (.int .i64 (B)) ∧ Below t5.heap.size t5 w') := by
    rintro W ⟨h, -⟩
    have Q := eB ▸ cmp_any (n + 1) y x _ _ _ _ W (HY.out W (KW W h)) (HX.out W (KW W h))
    exact Q.mono fun e w' ⟨he, hb⟩ => ⟨he, h.trans (hb.mono h.size)⟩
  have C3 : Hid (∀ W, (Below t5.heap.size t5 W ∧ (W.cell? ⟨w.heap.size, 0, none⟩ = some (.slice a1 SA k1) ∧ W.cell? ⟨w.heap.size, 1, none⟩ = some (.slice a2 CA k2)) ∧ (W.cell? ⟨w.heap.size + 1, 0, none⟩ = some (.slice b1 SB l1) ∧ W.cell? ⟨w.heap.size + 1, 1, none⟩ = some (.slice b2 CB l2)) ∧ (W.cell? ⟨w.heap.size + 1 + 1, 0, none⟩ = some (.slice d1 SC m1) ∧ W.cell? ⟨w.heap.size + 1 + 1, 1, none⟩ = some (.slice d2 CC m2))) → Calls Try.prog 15 #[.agg #[.slice b1 SB l1, .slice b2 CB l2], .agg #[.slice d1 SC m1, .slice d2 CC m2]] W fun e w' => e = .returned (.int .i64 (C)) ∧ Below t5.heap.size t5 w') := by
    rintro W ⟨h, -⟩
    have Q := eC ▸ cmp_any (n + 1) y z _ _ _ _ W (HY.out W (KW W h)) (HZ.out W (KW W h))
    exact Q.mono fun e w' ⟨he, hb⟩ => ⟨he, h.trans (hb.mono h.size)⟩
  have C4 : Hid (∀ W, (Below t5.heap.size t5 W ∧ (W.cell? ⟨w.heap.size, 0, none⟩ = some (.slice a1 SA k1) ∧ W.cell? ⟨w.heap.size, 1, none⟩ = some (.slice a2 CA k2)) ∧ (W.cell? ⟨w.heap.size + 1, 0, none⟩ = some (.slice b1 SB l1) ∧ W.cell? ⟨w.heap.size + 1, 1, none⟩ = some (.slice b2 CB l2)) ∧ (W.cell? ⟨w.heap.size + 1 + 1, 0, none⟩ = some (.slice d1 SC m1) ∧ W.cell? ⟨w.heap.size + 1 + 1, 1, none⟩ = some (.slice d2 CC m2))) → Calls Try.prog 15 #[.agg #[.slice a1 SA k1, .slice a2 CA k2], .agg #[.slice d1 SC m1, .slice d2 CC m2]] W fun e w' => e = .returned (.int .i64 (D)) ∧ Below t5.heap.size t5 w') := by
    rintro W ⟨h, -⟩
    have Q := eD ▸ cmp_any (n + 1) x z _ _ _ _ W (HX.out W (KW W h)) (HZ.out W (KW W h))
    exact Q.mono fun e w' ⟨he, hb⟩ => ⟨he, h.trans (hb.mono h.size)⟩
  have HRR : Hid (Below t5.heap.size t5 t5.drew) := (Below.refl _ _).drew
  have HEQ := hide (And.intro eA (And.intro eC eD))
  have HLT : Hid (w.heap.size + 3 ≤ t5.heap.size) := Nat.le_trans HL0.out J.size
  have HCASES : Hid ((A = 1 ∧ B = -1) ∨ (A = 0 ∧ B = 0 ∧ C = 1) ∨ (A = 0 ∧ B = 0 ∧ C = 0 ∧ D = 0) ∨ (A = 0 ∧ B = 0 ∧ C = 0 ∧ D = -1) ∨ (A = 0 ∧ B = 0 ∧ C = -1 ∧ D = 0) ∨ (A = 0 ∧ B = 0 ∧ C = -1 ∧ D = -1) ∨ (A = -1 ∧ B = 1 ∧ C = 1) ∨ (A = -1 ∧ B = 1 ∧ C = 0 ∧ D = 0) ∨ (A = -1 ∧ B = 1 ∧ C = 0 ∧ D = -1) ∨ (A = -1 ∧ B = 1 ∧ C = -1 ∧ D = 0) ∨ (A = -1 ∧ B = 1 ∧ C = -1 ∧ D = -1)) := by
    have h1 := HTR.out
    have h2 : A = -1 ∨ A = 0 ∨ A = 1 := by omega
    have h3 : C = -1 ∨ C = 0 ∨ C = 1 := by omega
    have h4 : D = -1 ∨ D = 0 ∨ D = 1 := by omega
    show _ ∨ _
    rcases h2 with rfl | rfl | rfl <;> rcases h3 with rfl | rfl | rfl <;> rcases h4 with rfl | rfl | rfl <;> simp at h1 ⊢ <;> omega
  have HA3 : Hid (A = 1 ∨ A = -1 ∨ A = 0) := by show _ ∨ _; omega
  clear KW hO eA eB eC eD KS HB0 J HL0 hBA HTR rC rD
  clear rA
  go_wp2
  go_cut [62] from 8 (fun s62 wx => s62 = .bool false ∧ Below t5.heap.size t5 wx)
  case first =>
    clear HX HY HZ HCP HAL HA3 HEQ HLT HBC HKW
    obtain ⟨Cl, hCl⟩ : ∃ Cl : World → Prop, ∀ W, Cl W ↔ (Below t5.heap.size t5 W ∧ (W.cell? ⟨w.heap.size, 0, none⟩ = some (.slice a1 SA k1) ∧ W.cell? ⟨w.heap.size, 1, none⟩ = some (.slice a2 CA k2)) ∧ (W.cell? ⟨w.heap.size + 1, 0, none⟩ = some (.slice b1 SB l1) ∧ W.cell? ⟨w.heap.size + 1, 1, none⟩ = some (.slice b2 CB l2)) ∧ (W.cell? ⟨w.heap.size + 1 + 1, 0, none⟩ = some (.slice d1 SC m1) ∧ W.cell? ⟨w.heap.size + 1 + 1, 1, none⟩ = some (.slice d2 CC m2))) := ⟨_, fun _ => Iff.rfl⟩
    have HCl := hide hCl
    have HC0 : Hid (Cl t5.drew) := (hCl _).2 (KS2.out _ HRR.out)
    have K1 : Hid (∀ W, Cl W → Calls Try.prog 15 #[Value.agg #[Value.slice a1 SA k1, Value.slice a2 CA k2], Value.agg #[Value.slice b1 SB l1, Value.slice b2 CB l2]] W fun e w' => e = .returned (.int .i64 A) ∧ Cl w') := fun W h => (C1.out W ((hCl W).1 h)).mono fun e w' ⟨he, hb⟩ => ⟨he, (hCl _).2 (KS2.out _ hb)⟩
    have K2 : Hid (∀ W, Cl W → Calls Try.prog 15 #[Value.agg #[Value.slice b1 SB l1, Value.slice b2 CB l2], Value.agg #[Value.slice a1 SA k1, Value.slice a2 CA k2]] W fun e w' => e = .returned (.int .i64 B) ∧ Cl w') := fun W h => (C2.out W ((hCl W).1 h)).mono fun e w' ⟨he, hb⟩ => ⟨he, (hCl _).2 (KS2.out _ hb)⟩
    have K3 : Hid (∀ W, Cl W → Calls Try.prog 15 #[Value.agg #[Value.slice b1 SB l1, Value.slice b2 CB l2], Value.agg #[Value.slice d1 SC m1, Value.slice d2 CC m2]] W fun e w' => e = .returned (.int .i64 C) ∧ Cl w') := fun W h => (C3.out W ((hCl W).1 h)).mono fun e w' ⟨he, hb⟩ => ⟨he, (hCl _).2 (KS2.out _ hb)⟩
    have K4 : Hid (∀ W, Cl W → Calls Try.prog 15 #[Value.agg #[Value.slice a1 SA k1, Value.slice a2 CA k2], Value.agg #[Value.slice d1 SC m1, Value.slice d2 CC m2]] W fun e w' => e = .returned (.int .i64 D) ∧ Cl w') := fun W h => (C4.out W ((hCl W).1 h)).mono fun e w' ⟨he, hb⟩ => ⟨he, (hCl _).2 (KS2.out _ hb)⟩
    have HBel : Hid (∀ W, Cl W → Below t5.heap.size t5 W) := fun W h => ((hCl W).1 h).1
    clear hCl C1 C2 C3 C4 KS2 HRR
    rcases HCASES.out with ⟨rfl, rfl⟩ | ⟨rfl, rfl, rfl⟩ | ⟨rfl, rfl, rfl, rfl⟩ | ⟨rfl, rfl, rfl, rfl⟩ | ⟨rfl, rfl, rfl, rfl⟩ | ⟨rfl, rfl, rfl, rfl⟩ | ⟨rfl, rfl, rfl⟩ | ⟨rfl, rfl, rfl, rfl⟩ | ⟨rfl, rfl, rfl, rfl⟩ | ⟨rfl, rfl, rfl, rfl⟩ | ⟨rfl, rfl, rfl, rfl⟩
    all_goals
      clear HCASES
      have wz0 : IntKind.i64.wrap 0 = 0 := by rw [IntKind.wrap_i64]; decide
      have wz1 : IntKind.i64.wrap 1 = 1 := by rw [IntKind.wrap_i64]; decide
      have wz2 : IntKind.i64.wrap (-1) = -1 := by rw [IntKind.wrap_i64]; decide
      have wy0 : wrap64 0 = 0 := by unfold wrap64; omega
      have wy1 : wrap64 1 = 1 := by unfold wrap64; omega
      have wy2 : wrap64 (-1) = -1 := by unfold wrap64; omega
      refine region_class (C := Cl) (by kernel_rfl) (by kernel_rfl) HC0.out ?_
      repeat
        first
          | go_big_quiet_skip
          | (go_big_quiet_want
             go_big_quiet_op
             first
               | go_big_quiet_on
               | (apply Exists.intro
                  refine ⟨fun W hW => ?_, ?_⟩
                  · obtain ⟨-, ⟨m0, m1⟩, ⟨m2, m3⟩, ⟨m4, m5⟩⟩ := (HCl.out W).1 hW
                    first
                      | with_reducible exact K1.out W hW
                      | with_reducible exact K2.out W hW
                      | with_reducible exact K3.out W hW
                      | with_reducible exact K4.out W hW
                      | with_reducible rfl
                      | (go_simp; done)
                      | (go_simp; first | with_reducible rfl | exact ⟨rfl, rfl⟩)
                  go_big_quiet_on))
      refine wpQuiet_nil ?_
      intro W hW
      have hx1 := HBel.out W hW
      go_wp2
      go_meet
      case rel => exact ⟨rfl, hx1⟩
  case rest =>
  obtain ⟨rfl, J⟩ := hcut
  obtain ⟨t6, rfl⟩ : ∃ t6, t6 = wc := ⟨_, rfl⟩
  clear C1 C2 C3 C4 HRR HCASES
  obtain ⟨-, ⟨q0, q1⟩, -, -⟩ := KS2.out _ J
  go_wp2_with fail
  clear q0 q1
  refine (HCP.out _ (HKW.out _ J) HE0.out).mono ?_
  rintro e w4 ⟨⟨e1, n1, e2, n2, rfl, hD⟩, hb4⟩
  have J4 := J.trans (hb4.mono J.size)
  obtain ⟨w5, ew5⟩ : ∃ w5, w5 = w4.alloc (.cells #[.slice e1 SA n1, .slice e2 CA n2] 25) := ⟨_, rfl⟩
  have b5 : Below w4.heap.size w4 w5 := by rw [ew5]; exact one_alloc _ _
  have c0 : w5.cell? ⟨w4.heap.size, 0, none⟩ = some (.slice e1 SA n1) := by rw [ew5]; exact cell_new0 w4 _ 25 0 _ rfl
  have c1 : w5.cell? ⟨w4.heap.size, 1, none⟩ = some (.slice e2 CA n2) := by rw [ew5]; exact cell_new0 w4 _ 25 1 _ rfl
  have s5 : w5.heap.size = w4.heap.size + 1 := by rw [ew5]; simp
  have J5 := J4.trans (b5.mono J4.size)
  have KS5 : Hid (∀ W, Below w5.heap.size w5 W → (Below w5.heap.size w5 W ∧ (W.cell? ⟨w.heap.size, 0, none⟩ = some (.slice a1 SA k1) ∧ W.cell? ⟨w.heap.size, 1, none⟩ = some (.slice a2 CA k2)) ∧ (W.cell? ⟨w.heap.size + 1, 0, none⟩ = some (.slice b1 SB l1) ∧ W.cell? ⟨w.heap.size + 1, 1, none⟩ = some (.slice b2 CB l2)) ∧ (W.cell? ⟨w.heap.size + 1 + 1, 0, none⟩ = some (.slice d1 SC m1) ∧ W.cell? ⟨w.heap.size + 1 + 1, 1, none⟩ = some (.slice d2 CC m2)) ∧ (W.cell? ⟨w4.heap.size, 0, none⟩ = some (.slice e1 SA n1) ∧ W.cell? ⟨w4.heap.size, 1, none⟩ = some (.slice e2 CA n2)))) := fun W h => ⟨h, (KS2.out W (J5.trans (h.mono J5.size))).2.1, (KS2.out W (J5.trans (h.mono J5.size))).2.2.1, (KS2.out W (J5.trans (h.mono J5.size))).2.2.2, (h.cell (p := ⟨w4.heap.size, 0, none⟩) (by rw [s5]; show w4.heap.size < _; omega)).trans c0, (h.cell (p := ⟨w4.heap.size, 1, none⟩) (by rw [s5]; show w4.heap.size < _; omega)).trans c1⟩
  have KW : ∀ W, Below w5.heap.size w5 W → Below w.heap.size w W := fun W h => HKW.out W (J5.trans (h.mono J5.size))
  have KD : ∀ W, Below w5.heap.size w5 W → ArIn (n + 1) 0 W x (.agg #[.slice e1 SA n1, .slice e2 CA n2]) := fun W h => hD.next (b5.trans (h.mono b5.size))
  obtain ⟨eA, eC, eD⟩ := HEQ.out
  have eS : decide (cmpA (n + 1) x x = 0) = true := decide_eq_true (cmpA_self (n + 1) x)
  have eK := HE0.out
  have C1 : Hid (∀ W, (Below w5.heap.size w5 W ∧ (W.cell? ⟨w.heap.size, 0, none⟩ = some (.slice a1 SA k1) ∧ W.cell? ⟨w.heap.size, 1, none⟩ = some (.slice a2 CA k2)) ∧ (W.cell? ⟨w.heap.size + 1, 0, none⟩ = some (.slice b1 SB l1) ∧ W.cell? ⟨w.heap.size + 1, 1, none⟩ = some (.slice b2 CB l2)) ∧ (W.cell? ⟨w.heap.size + 1 + 1, 0, none⟩ = some (.slice d1 SC m1) ∧ W.cell? ⟨w.heap.size + 1 + 1, 1, none⟩ = some (.slice d2 CC m2)) ∧ (W.cell? ⟨w4.heap.size, 0, none⟩ = some (.slice e1 SA n1) ∧ W.cell? ⟨w4.heap.size, 1, none⟩ = some (.slice e2 CA n2))) → Calls Try.prog 15 #[Value.agg #[Value.slice a1 SA k1, Value.slice a2 CA k2], Value.agg #[Value.slice b1 SB l1, Value.slice b2 CB l2]] W fun e w' => e = .returned (.int .i64 A) ∧ Below w5.heap.size w5 w') := by
    rintro W ⟨h, -⟩
    have Q := eA ▸ cmp_any (n + 1) x y _ _ _ _ W (HX.out W (KW W h)) (HY.out W (KW W h))
    exact Q.mono fun e w' ⟨he, hb⟩ => ⟨he, h.trans (hb.mono h.size)⟩
  have C3 : Hid (∀ W, (Below w5.heap.size w5 W ∧ (W.cell? ⟨w.heap.size, 0, none⟩ = some (.slice a1 SA k1) ∧ W.cell? ⟨w.heap.size, 1, none⟩ = some (.slice a2 CA k2)) ∧ (W.cell? ⟨w.heap.size + 1, 0, none⟩ = some (.slice b1 SB l1) ∧ W.cell? ⟨w.heap.size + 1, 1, none⟩ = some (.slice b2 CB l2)) ∧ (W.cell? ⟨w.heap.size + 1 + 1, 0, none⟩ = some (.slice d1 SC m1) ∧ W.cell? ⟨w.heap.size + 1 + 1, 1, none⟩ = some (.slice d2 CC m2)) ∧ (W.cell? ⟨w4.heap.size, 0, none⟩ = some (.slice e1 SA n1) ∧ W.cell? ⟨w4.heap.size, 1, none⟩ = some (.slice e2 CA n2))) → Calls Try.prog 15 #[Value.agg #[Value.slice b1 SB l1, Value.slice b2 CB l2], Value.agg #[Value.slice d1 SC m1, Value.slice d2 CC m2]] W fun e w' => e = .returned (.int .i64 C) ∧ Below w5.heap.size w5 w') := by
    rintro W ⟨h, -⟩
    have Q := eC ▸ cmp_any (n + 1) y z _ _ _ _ W (HY.out W (KW W h)) (HZ.out W (KW W h))
    exact Q.mono fun e w' ⟨he, hb⟩ => ⟨he, h.trans (hb.mono h.size)⟩
  have C4 : Hid (∀ W, (Below w5.heap.size w5 W ∧ (W.cell? ⟨w.heap.size, 0, none⟩ = some (.slice a1 SA k1) ∧ W.cell? ⟨w.heap.size, 1, none⟩ = some (.slice a2 CA k2)) ∧ (W.cell? ⟨w.heap.size + 1, 0, none⟩ = some (.slice b1 SB l1) ∧ W.cell? ⟨w.heap.size + 1, 1, none⟩ = some (.slice b2 CB l2)) ∧ (W.cell? ⟨w.heap.size + 1 + 1, 0, none⟩ = some (.slice d1 SC m1) ∧ W.cell? ⟨w.heap.size + 1 + 1, 1, none⟩ = some (.slice d2 CC m2)) ∧ (W.cell? ⟨w4.heap.size, 0, none⟩ = some (.slice e1 SA n1) ∧ W.cell? ⟨w4.heap.size, 1, none⟩ = some (.slice e2 CA n2))) → Calls Try.prog 15 #[Value.agg #[Value.slice a1 SA k1, Value.slice a2 CA k2], Value.agg #[Value.slice d1 SC m1, Value.slice d2 CC m2]] W fun e w' => e = .returned (.int .i64 D) ∧ Below w5.heap.size w5 w') := by
    rintro W ⟨h, -⟩
    have Q := eD ▸ cmp_any (n + 1) x z _ _ _ _ W (HX.out W (KW W h)) (HZ.out W (KW W h))
    exact Q.mono fun e w' ⟨he, hb⟩ => ⟨he, h.trans (hb.mono h.size)⟩
  have C5 : Hid (∀ W, (Below w5.heap.size w5 W ∧ (W.cell? ⟨w.heap.size, 0, none⟩ = some (.slice a1 SA k1) ∧ W.cell? ⟨w.heap.size, 1, none⟩ = some (.slice a2 CA k2)) ∧ (W.cell? ⟨w.heap.size + 1, 0, none⟩ = some (.slice b1 SB l1) ∧ W.cell? ⟨w.heap.size + 1, 1, none⟩ = some (.slice b2 CB l2)) ∧ (W.cell? ⟨w.heap.size + 1 + 1, 0, none⟩ = some (.slice d1 SC m1) ∧ W.cell? ⟨w.heap.size + 1 + 1, 1, none⟩ = some (.slice d2 CC m2)) ∧ (W.cell? ⟨w4.heap.size, 0, none⟩ = some (.slice e1 SA n1) ∧ W.cell? ⟨w4.heap.size, 1, none⟩ = some (.slice e2 CA n2))) → Calls Try.prog 19 #[Value.agg #[Value.slice a1 SA k1, Value.slice a2 CA k2], Value.agg #[Value.slice e1 SA n1, Value.slice e2 CA n2]] W fun e w' => e = .returned (.bool true) ∧ Below w5.heap.size w5 w') := by
    rintro W ⟨h, -⟩
    have Q := eS ▸ same_any (HX.out W (KW W h)) (KD W h)
    exact Q.mono fun e w' ⟨he, hb⟩ => ⟨he, h.trans (hb.mono h.size)⟩
  have C6 : Hid (∀ W, (Below w5.heap.size w5 W ∧ (W.cell? ⟨w.heap.size, 0, none⟩ = some (.slice a1 SA k1) ∧ W.cell? ⟨w.heap.size, 1, none⟩ = some (.slice a2 CA k2)) ∧ (W.cell? ⟨w.heap.size + 1, 0, none⟩ = some (.slice b1 SB l1) ∧ W.cell? ⟨w.heap.size + 1, 1, none⟩ = some (.slice b2 CB l2)) ∧ (W.cell? ⟨w.heap.size + 1 + 1, 0, none⟩ = some (.slice d1 SC m1) ∧ W.cell? ⟨w.heap.size + 1 + 1, 1, none⟩ = some (.slice d2 CC m2)) ∧ (W.cell? ⟨w4.heap.size, 0, none⟩ = some (.slice e1 SA n1) ∧ W.cell? ⟨w4.heap.size, 1, none⟩ = some (.slice e2 CA n2))) → Calls Try.prog 11 #[Value.agg #[Value.slice e1 SA n1, Value.slice e2 CA n2]] W fun e w' => e = .returned (.int .i64 0) ∧ Below w5.heap.size w5 w') := by
    rintro W ⟨h, -⟩
    have Q := eK ▸ check_any (n + 1) x _ _ W (KD W h)
    exact Q.mono fun e w' ⟨he, hb⟩ => ⟨he, h.trans (hb.mono h.size)⟩
  have C7 : Hid (∀ W, (Below w5.heap.size w5 W ∧ (W.cell? ⟨w.heap.size, 0, none⟩ = some (.slice a1 SA k1) ∧ W.cell? ⟨w.heap.size, 1, none⟩ = some (.slice a2 CA k2)) ∧ (W.cell? ⟨w.heap.size + 1, 0, none⟩ = some (.slice b1 SB l1) ∧ W.cell? ⟨w.heap.size + 1, 1, none⟩ = some (.slice b2 CB l2)) ∧ (W.cell? ⟨w.heap.size + 1 + 1, 0, none⟩ = some (.slice d1 SC m1) ∧ W.cell? ⟨w.heap.size + 1 + 1, 1, none⟩ = some (.slice d2 CC m2)) ∧ (W.cell? ⟨w4.heap.size, 0, none⟩ = some (.slice e1 SA n1) ∧ W.cell? ⟨w4.heap.size, 1, none⟩ = some (.slice e2 CA n2))) → Calls Try.prog 10 #[] W fun e w' => e = .returned (.bool true) ∧ Below w5.heap.size w5 w') := by
    rintro W ⟨h, -⟩
    have Q := works_any W
    exact Q.mono fun e w' ⟨he, hb⟩ => ⟨he, h.trans (hb.mono h.size)⟩
  have HRR : Hid (Below w5.heap.size w5 w5.drew) := (Below.refl _ _).drew
  have HB5 := hide (KW w5 (Below.refl _ _))
  have HA3' : Hid (A = 1 ∨ A = -1 ∨ (A = 0 ∧ D = C)) := by
    rcases HA3.out with h | h | h
    · exact Or.inl h
    · exact Or.inr (Or.inl h)
    · exact Or.inr (Or.inr ⟨h, HAL.out h⟩)
  clear HX HY HZ HCP HKW HBC KS2 HEQ HE0 HLT HAL HA3 KW KD eA eC eD eS eK hD hb4 b5 c0 c1 s5 J J4 J5
  go_wp2
  rw [← ew5]
  clear ew5
  obtain ⟨Cl, hCl⟩ : ∃ Cl : World → Prop, ∀ W, Cl W ↔ (Below w5.heap.size w5 W ∧ (W.cell? ⟨w.heap.size, 0, none⟩ = some (.slice a1 SA k1) ∧ W.cell? ⟨w.heap.size, 1, none⟩ = some (.slice a2 CA k2)) ∧ (W.cell? ⟨w.heap.size + 1, 0, none⟩ = some (.slice b1 SB l1) ∧ W.cell? ⟨w.heap.size + 1, 1, none⟩ = some (.slice b2 CB l2)) ∧ (W.cell? ⟨w.heap.size + 1 + 1, 0, none⟩ = some (.slice d1 SC m1) ∧ W.cell? ⟨w.heap.size + 1 + 1, 1, none⟩ = some (.slice d2 CC m2)) ∧ (W.cell? ⟨w4.heap.size, 0, none⟩ = some (.slice e1 SA n1) ∧ W.cell? ⟨w4.heap.size, 1, none⟩ = some (.slice e2 CA n2))) := ⟨_, fun _ => Iff.rfl⟩
  have HCl := hide hCl
  have HC0 : Hid (Cl w5.drew) := (hCl _).2 (KS5.out _ HRR.out)
  have K1 : Hid (∀ W, Cl W → Calls Try.prog 15 #[Value.agg #[Value.slice a1 SA k1, Value.slice a2 CA k2], Value.agg #[Value.slice b1 SB l1, Value.slice b2 CB l2]] W fun e w' => e = .returned (.int .i64 A) ∧ Cl w') := fun W h => (C1.out W ((hCl W).1 h)).mono fun e w' ⟨he, hb⟩ => ⟨he, (hCl _).2 (KS5.out _ hb)⟩
  have K3 : Hid (∀ W, Cl W → Calls Try.prog 15 #[Value.agg #[Value.slice b1 SB l1, Value.slice b2 CB l2], Value.agg #[Value.slice d1 SC m1, Value.slice d2 CC m2]] W fun e w' => e = .returned (.int .i64 C) ∧ Cl w') := fun W h => (C3.out W ((hCl W).1 h)).mono fun e w' ⟨he, hb⟩ => ⟨he, (hCl _).2 (KS5.out _ hb)⟩
  have K4 : Hid (∀ W, Cl W → Calls Try.prog 15 #[Value.agg #[Value.slice a1 SA k1, Value.slice a2 CA k2], Value.agg #[Value.slice d1 SC m1, Value.slice d2 CC m2]] W fun e w' => e = .returned (.int .i64 D) ∧ Cl w') := fun W h => (C4.out W ((hCl W).1 h)).mono fun e w' ⟨he, hb⟩ => ⟨he, (hCl _).2 (KS5.out _ hb)⟩
  have K5 : Hid (∀ W, Cl W → Calls Try.prog 19 #[Value.agg #[Value.slice a1 SA k1, Value.slice a2 CA k2], Value.agg #[Value.slice e1 SA n1, Value.slice e2 CA n2]] W fun e w' => e = .returned (.bool true) ∧ Cl w') := fun W h => (C5.out W ((hCl W).1 h)).mono fun e w' ⟨he, hb⟩ => ⟨he, (hCl _).2 (KS5.out _ hb)⟩
  have K6 : Hid (∀ W, Cl W → Calls Try.prog 11 #[Value.agg #[Value.slice e1 SA n1, Value.slice e2 CA n2]] W fun e w' => e = .returned (.int .i64 0) ∧ Cl w') := fun W h => (C6.out W ((hCl W).1 h)).mono fun e w' ⟨he, hb⟩ => ⟨he, (hCl _).2 (KS5.out _ hb)⟩
  have K7 : Hid (∀ W, Cl W → Calls Try.prog 10 #[] W fun e w' => e = .returned (.bool true) ∧ Cl w') := fun W h => (C7.out W ((hCl W).1 h)).mono fun e w' ⟨he, hb⟩ => ⟨he, (hCl _).2 (KS5.out _ hb)⟩
  have HBel : Hid (∀ W, Cl W → Below w5.heap.size w5 W) := fun W h => ((hCl W).1 h).1
  clear hCl C1 C3 C4 C5 C6 C7 KS5 HRR
  rcases HA3'.out with rfl | rfl | ⟨rfl, rfl⟩
  all_goals
    clear HA3'
    refine region_class (C := Cl) (by kernel_rfl) (by kernel_rfl) HC0.out ?_
    repeat
      first
        | go_big_quiet_skip
        | (go_big_quiet_want
           go_big_quiet_op
           first
             | go_big_quiet_on
             | (apply Exists.intro
                refine ⟨fun W hW => ?_, ?_⟩
                · obtain ⟨-, ⟨m0, m1⟩, ⟨m2, m3⟩, ⟨m4, m5⟩, ⟨m6, m7⟩⟩ := (HCl.out W).1 hW
                  first
                    | with_reducible exact K1.out W hW
                    | with_reducible exact K3.out W hW
                    | with_reducible exact K4.out W hW
                    | with_reducible exact K5.out W hW
                    | with_reducible exact K6.out W hW
                    | with_reducible exact K7.out W hW
                    | with_reducible rfl
                    | (go_simp; done)
                    | (go_simp; first | with_reducible rfl | exact ⟨rfl, rfl⟩)
                go_big_quiet_on))
    refine wpQuiet_nil ?_
    intro W hW
    have hx1 := HBel.out W hW
    go_wp2
    go_ret
    exact ⟨rfl, HB5.out.trans (hx1.mono HB5.out.size)⟩
theorem walk (n0 : Nat) (x : Ar) (c0 c1 : Value) (n1 : Nat) (y : Ar) (p0 p1 : Value) (n2 : Nat) (z : Ar) (r0 r1 : Value) (w : World) (hx : ArIn n0 0 w x (.agg #[c0, c1])) (hy : ArIn n1 0 w y (.agg #[p0, p1])) (hz : ArIn n2 0 w z (.agg #[r0, r1])) :
    Calls Try.prog 5 #[.agg #[c0, c1], .agg #[p0, p1], .agg #[r0, r1]] w fun e w' => e = .returned (.bool true) ∧ Below w.heap.size w w' :=
  walk1 (n0 + n1 + n2) x y z c0 c1 p0 p1 r0 r1 w (hx.deep (by omega)) (hy.deep (by omega)) (hz.deep (by omega))
set_option maxRecDepth 100000 in
theorem lifted (os : Os) (started : os.Started) (H : Type) (enc : TypeId × Value → H) :
    ReturnsInHanded {} Try.checked os 5 .any (Rows.arrTotalSpec.pre6 enc Try.prog Try.f5 Rows.arrTotalRow.domain false) (Rows.arrTotalSpec.post enc Try.prog Try.f5 false true false false) := by
  refine returnsInHanded_of_change_sized (C := Try.checked) own started (by kernel_rfl) Try.func5
    (ChangeSpec.witness6 (enc := enc) (C := Try.checked) false ⟨#[], #[.agg #[.slice none 0 0, .slice none 0 0], .agg #[.slice none 0 0, .slice none 0 0], .agg #[.slice none 0 0, .slice none 0 0]], []⟩ 8 (by kernel_rfl) (by kernel_rfl) (by kernel_rfl) (by kernel_rfl)) ?_
  intro W base args ds gs before hval0 hW _ hsz0 _
  have hsz : (DataW.weightsEach Try.prog (Try.f5.params.toList ++ Rows.arrTotalSpec.plain.varTypes Try.prog) (ds ++ gs)).all (· ≤ reachBytes) = true := hsz0
  clear hsz0
  have hval : ∀ (j : Nat) t v, Try.f5.params[j]? = some t → args[j]? = some v → Value.okWide Try.prog W .any base t v := hval0
  have hW' := hW
  obtain ⟨p, q, hA0, hV, rfl, hfz, hnd⟩ := hW
  have hA : DataW.TrodAll enc Try.prog W 0 (fun _ => true) true Try.f5.params.toList args.toList ds p := hA0
  rw [Try.params5] at hA hval hsz
  obtain ⟨v0, vs0, d0, ds0, p0, q0, hargs, rfl, rfl, h0, r0⟩ := trodAll_cons hA
  obtain ⟨v1, vs1, d1, ds1, p1, q1, rfl, rfl, rfl, h1, r1⟩ := trodAll_cons r0
  obtain ⟨v2, vs2, d2, ds2, p2, q2, rfl, rfl, rfl, h2, r2⟩ := trodAll_cons r1
  obtain ⟨rfl, rfl, rfl⟩ := trodAll_nil r2
  obtain rfl : args = #[v0, v1, v2] := by cases args; simp_all
  obtain ⟨rfl, rfl⟩ := trodVars_none hV
  have k0 := h0
  have lt0 : ∀ x ∈ p0, x.block < W.heap.size := by obtain ⟨m, hm⟩ := k0; exact DataW.trod_lt m _ _ _ hm
  obtain ⟨n0, y0, c00, c01, hc0, w0⟩ := arr_of hsz (j := 0) rfl rfl h0
  obtain rfl := agg_two hc0
  have k1 := h1
  have lt1 : ∀ x ∈ p1, x.block < W.heap.size := by obtain ⟨m, hm⟩ := k1; exact DataW.trod_lt m _ _ _ hm
  obtain ⟨n1, y1, c10, c11, hc1, w1⟩ := arr_of hsz (j := 1) rfl rfl h1
  obtain rfl := agg_two hc1
  have k2 := h2
  have lt2 : ∀ x ∈ p2, x.block < W.heap.size := by obtain ⟨m, hm⟩ := k2; exact DataW.trod_lt m _ _ _ hm
  obtain ⟨n2, y2, c20, c21, hc2, w2⟩ := arr_of hsz (j := 2) rfl rfl h2
  obtain rfl := agg_two hc2
  clear hA0 hval0
  refine (walk n0 y0 c00 c01 n1 y1 c10 c11 n2 y2 c20 c21 W w0 w1 w2).mono fun e W' ⟨he, bel⟩ => ?_
  subst he
  exact ⟨_, rfl, _, _, _, [], _, [], hW', trodAll_mk1 (shut_bool Try.underlying4 _), (trodAll_cons_mk (Below.trod laidOut (by kernel_rfl) (of_decide_eq_true (by kernel_rfl)) k0 bel lt0) (trodAll_cons_mk (Below.trod laidOut (by kernel_rfl) (of_decide_eq_true (by kernel_rfl)) k1 bel lt1) (trodAll_cons_mk (Below.trod laidOut (by kernel_rfl) (of_decide_eq_true (by kernel_rfl)) k2 bel lt2) trodAll_mk0))), rfl, bel.frame _, fun h => by cases h⟩
theorem over : Rows.arrTotalRow.holds Try.pinned (OpenSpec.ofChange Rows.arrTotalSpec) :=
  OpenClaim.holds_of_wide 5 Try.f5 rfl rfl rfl rfl rfl rfl rfl ⟨rfl, rfl, rfl, rfl, rfl⟩ rfl rfl rfl rfl rfl (by kernel_rfl) Try.func5 (by kernel_rfl)
    (of_decide_eq_true (by kernel_rfl)) (by unfold Func.isWrapper; first | (rw [if_pos (by decide +kernel)]; kernel_rfl) | (rw [if_neg (by decide +kernel)]; exact ⟨rfl, rfl⟩))
    (fun os started H enc _ => lifted os started H enc)
theorem proved : Rows.ArrTotalSaid := over
end Go.Proofs.Ytednaamfgobkoaa.arrTotal
namespace Go.Proofs.Ytednaamfgobkoaa
theorem arrTotal_holds : Rows.ArrTotalSaid := arrTotal.proved
#print axioms arrTotal_holds
end Go.Proofs.Ytednaamfgobkoaa
