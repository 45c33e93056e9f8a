/-
  For all arrays the statement LayoutRavels holds: an array is its list of cells laid in its shape; no condition (the given row speaks of what a machine of 64 bits can hold).
-/
import Derived.Test.YtapknkgbkcdchaaLyT
namespace Go.Proofs.Ytapknkgbkcdchaa.layoutRavels
open Go.ChangeShapes Go.WideShapes Go.ChangeAt Go.RowKit
set_option linter.unusedVariables false
set_option maxHeartbeats 4000000 in
theorem walk (n : Nat) (x : Ar) (c0 c1 : Value) (w : World) (hx : ArIn n 0 w x (.agg #[c0, c1])) :
    Calls Try.prog 6 #[.agg #[c0, c1]] w fun e w' => e = .returned (.bool true) ∧ Below w.heap.size w w' := by
  cases n with
  | zero => exact hx.elim
  | succ n =>
  obtain ⟨a1, k1, a2, k2, hv, -⟩ := hx.form
  simp only [Value.agg.injEq, Array.mk.injEq, List.cons.injEq, and_true] at hv
  obtain ⟨rfl, rfl⟩ := hv
  obtain ⟨SA, hSA⟩ : ∃ SA, x.shape.length = SA := ⟨_, rfl⟩
  obtain ⟨CA, hCA⟩ : ∃ CA, x.cells.length = CA := ⟨_, rfl⟩
  simp only [hSA, hCA] at hx ⊢
  have b0 := one_alloc w (.cells #[.slice a1 SA k1, .slice a2 CA k2] 25)
  have q0 : (w.alloc (.cells #[.slice a1 SA k1, .slice a2 CA k2] 25)).cell? ⟨w.heap.size, 0, none⟩ = some (.slice a1 SA k1) := cell_new0 w _ 25 0 _ rfl
  have q1 : (w.alloc (.cells #[.slice a1 SA k1, .slice a2 CA k2] 25)).cell? ⟨w.heap.size, 1, none⟩ = some (.slice a2 CA k2) := cell_new0 w _ 25 1 _ rfl
  obtain ⟨W1, e1⟩ : ∃ W1, w.alloc (.cells #[.slice a1 SA k1, .slice a2 CA k2] 25) = W1 := ⟨_, rfl⟩
  rw [e1] at b0 q0 q1
  have z1 : W1.heap.size = w.heap.size + 1 := by rw [← e1]; simp
  have HX : Hid (∀ W, Below w.heap.size w W → ArIn (n + 1) 0 W x (.agg #[.slice a1 SA k1, .slice a2 CA k2])) := fun W h => hx.next h
  have HQ : Hid (∀ W, Below W1.heap.size W1 W → Below w.heap.size w W ∧ W.cell? ⟨w.heap.size, 0, none⟩ = some (.slice a1 SA k1) ∧ W.cell? ⟨w.heap.size, 1, none⟩ = some (.slice a2 CA k2)) := fun W h => ⟨b0.trans (h.mono b0.size), (h.cell (p := ⟨w.heap.size, 0, none⟩) (by show w.heap.size < _; omega)).trans q0, (h.cell (p := ⟨w.heap.size, 1, none⟩) (by show w.heap.size < _; omega)).trans q1⟩
  have C0 := light_any (HX.out _ b0)
  have HSC := hide (And.intro hSA hCA)
  clear hx hSA hCA b0
  go_enter Try.func6, Try.ntmps6
  go_wp2_with fail
  clear e1 z1
  refine C0.mono ?_
  rintro e w1 ⟨⟨r, rfl⟩, hb1⟩
  have g1 := hb1
  obtain ⟨n1, q0', q1'⟩ := HQ.out w1 g1
  clear C0 hb1 q0 q1
  have HW : Hid (∀ W w', Below W1.heap.size W1 W → Below W.heap.size W w' → Below w.heap.size w w') := fun W w' h1 h2 => (HQ.out W h1).1.trans (h2.mono (HQ.out W h1).1.size)
  cases r with
  | false =>
    have CW := works_any w1
    have HG := hide g1
    clear g1 n1 q0' q1'
    go_wp2_with fail
    refine CW.mono ?_
    rintro e w2 ⟨rfl, hb2⟩
    go_wp2
    go_ret
    exact ⟨rfl, HW.out _ _ HG.out hb2⟩
  | true =>
  have C1 := rcheck_any (n + 1) x _ _ w1 (HX.out _ n1)
  have HG := hide g1
  clear g1 n1
  go_wp2_with fail
  refine C1.mono ?_
  rintro e w2 ⟨rfl, hb2⟩
  have g2 := HG.out.trans (hb2.mono HG.out.size)
  obtain ⟨E, hE⟩ : ∃ E, chkA 8 x = E := ⟨_, rfl⟩
  rw [hE]
  by_cases h0 : E = 0
  case neg =>
    have hne : (E == 0) = false := beq_eq_false_iff_ne.2 h0
    have CW := works_any w2
    have HG2 := hide g2
    clear g2 hb2 C1 hE HG q0' q1'
    go_wp2_with fail
    refine CW.mono ?_
    rintro e w3 ⟨rfl, hb3⟩
    go_wp2
    go_ret
    exact ⟨rfl, HW.out _ _ HG2.out hb3⟩
  subst h0
  have HCH := hide hE
  obtain ⟨n2, q0, q1⟩ := HQ.out w2 g2
  have CA1 := mo_any (HX.out _ n2) 8 (fun h => absurd h (by decide))
  have m8 : moR (n + 1) 8 x = (ravelR x, 0) := by rw [moR_ok hE]; rfl
  have m6 : moR (n + 1) 6 x = (numsA x.shape, 0) := by rw [moR_ok hE]; rfl
  rw [m8] at CA1
  have HM6 := hide m6
  have HG2 := hide g2
  clear g2 n2 hb2 C1 hE HG q0' q1' m8 m6
  go_wp2_with fail
  refine CA1.mono ?_
  rintro e w3 ⟨⟨v, rfl, hv⟩, hb3⟩
  obtain ⟨y1, m1, y2, m2, rfl, -, -⟩ := hv.form
  have es : (ravelR x).shape.length = 1 := rfl
  have ec : (ravelR x).cells.length = CA := HSC.out.2
  simp only [es, ec] at hv ⊢
  obtain ⟨W4, e4⟩ : ∃ W4, w3.alloc (.cells #[.slice y1 1 m1, .slice y2 CA m2] 25) = W4 := ⟨_, rfl⟩
  have B4 : Below w3.heap.size w3 W4 := by rw [← e4]; exact one_alloc _ _
  have z4 : W4.heap.size = w3.heap.size + 1 := by rw [← e4]; simp
  have B24 : Below w2.heap.size w2 W4 := hb3.trans (B4.mono hb3.size)
  have g4 := HG2.out.trans (B24.mono HG2.out.size)
  have y0 : W4.cell? ⟨w3.heap.size, 0, none⟩ = some (.slice y1 1 m1) := by rw [← e4]; exact cell_new0 w3 _ 25 0 _ rfl
  have y1' : W4.cell? ⟨w3.heap.size, 1, none⟩ = some (.slice y2 CA m2) := by rw [← e4]; exact cell_new0 w3 _ 25 1 _ rfl
  have HL : Hid (∀ W, Below W4.heap.size W4 W → ArIn (n + 2) 0 W (ravelR x) (.agg #[.slice y1 1 m1, .slice y2 CA m2]) ∧ W.cell? ⟨w3.heap.size, 0, none⟩ = some (.slice y1 1 m1) ∧ W.cell? ⟨w3.heap.size, 1, none⟩ = some (.slice y2 CA m2)) := fun W h => ⟨(hv.next B4).mono (Nat.zero_le _) h, (h.cell (p := ⟨w3.heap.size, 0, none⟩) (by show w3.heap.size < _; omega)).trans y0, (h.cell (p := ⟨w3.heap.size, 1, none⟩) (by show w3.heap.size < _; omega)).trans y1'⟩
  obtain ⟨n4, q0', q1'⟩ := HQ.out W4 g4
  have CA2 := mo_any (HX.out _ n4) 6 (fun h => absurd h (by decide))
  rw [HM6.out] at CA2
  have HG4 := hide g4
  clear CA1 hv hb3 B4 B24 g4 n4 es ec z4 q0 q1
  go_wp2_with fail
  clear e4 y0 y1'
  refine CA2.mono ?_
  rintro e w5 ⟨⟨v, rfl, hv⟩, hb5⟩
  obtain ⟨s1, l1, s2, l2, rfl, -, -⟩ := hv.form
  have es : (numsA x.shape).shape.length = 1 := rfl
  have ec : (numsA x.shape).cells.length = SA := by rw [← HSC.out.1]; exact numCs_len _ _
  simp only [es, ec] at hv ⊢
  obtain ⟨W6, e6⟩ : ∃ W6, w5.alloc (.cells #[.slice s1 1 l1, .slice s2 SA l2] 25) = W6 := ⟨_, rfl⟩
  have B6 : Below w5.heap.size w5 W6 := by rw [← e6]; exact one_alloc _ _
  have B46 : Below W4.heap.size W4 W6 := hb5.trans (B6.mono hb5.size)
  have s0 : W6.cell? ⟨w5.heap.size, 0, none⟩ = some (.slice s1 1 l1) := by rw [← e6]; exact cell_new0 w5 _ 25 0 _ rfl
  have s1' : W6.cell? ⟨w5.heap.size, 1, none⟩ = some (.slice s2 SA l2) := by rw [← e6]; exact cell_new0 w5 _ 25 1 _ rfl
  obtain ⟨hL6, t0, t1⟩ := HL.out W6 B46
  have g6 := HG4.out.trans (B46.mono HG4.out.size)
  have CA3 := reshape_any (hv.next B6) hL6 (Nat.zero_le _)
  rw [ravel_back HCH.out] at CA3
  have HG6 := hide g6
  clear CA2 hv hb5 B6 B46 g6 es ec hL6 q0' q1'
  go_wp2_with fail
  clear e6 s0 s1' t0 t1
  refine CA3.mono ?_
  rintro e w7 ⟨⟨v, rfl, hv⟩, hb7⟩
  obtain ⟨z1, j1, z2, j2, rfl, -, -⟩ := hv.form
  simp only [HSC.out.1, HSC.out.2] at hv ⊢
  obtain ⟨W8, e8⟩ : ∃ W8, w7.alloc (.cells #[.slice z1 SA j1, .slice z2 CA j2] 25) = W8 := ⟨_, rfl⟩
  have B8 : Below w7.heap.size w7 W8 := by rw [← e8]; exact one_alloc _ _
  have B68 : Below W6.heap.size W6 W8 := hb7.trans (B8.mono hb7.size)
  have z0 : W8.cell? ⟨w7.heap.size, 0, none⟩ = some (.slice z1 SA j1) := by rw [← e8]; exact cell_new0 w7 _ 25 0 _ rfl
  have z1' : W8.cell? ⟨w7.heap.size, 1, none⟩ = some (.slice z2 CA j2) := by rw [← e8]; exact cell_new0 w7 _ 25 1 _ rfl
  have g8 := HG6.out.trans (B68.mono HG6.out.size)
  obtain ⟨n8, q0, q1⟩ := HQ.out W8 g8
  have C4 := rsame_any (n := n + 2) ((HX.out _ n8).deep (by omega)) (hv.next B8)
  rw [cmpA_self] at C4
  have HG8 := hide g8
  clear CA3 hv hb7 B8 B68 g8 n8 HL
  go_wp2_with fail
  clear e8 z0 z1' q0 q1
  refine C4.mono ?_
  rintro e w9 ⟨rfl, hb9⟩
  have g9 := HG8.out.trans (hb9.mono HG8.out.size)
  have HG9 := hide g9
  have CW := works_any w9
  clear C4 hb9 g9
  simp only [decide_true]
  go_wp2_with fail
  refine CW.mono ?_
  rintro e wa ⟨rfl, hba⟩
  go_wp2
  go_ret
  exact ⟨rfl, HW.out _ _ HG9.out hba⟩
set_option maxRecDepth 100000 in
theorem lifted (os : Os) (started : os.Started) (H : Type) (enc : TypeId × Value → H) :
    ReturnsInHanded {} Try.checked os 6 .any (Rows.layoutRavelsSpec.pre6 enc Try.prog Try.f6 Rows.layoutRavelsRow.domain false) (Rows.layoutRavelsSpec.post enc Try.prog Try.f6 false true false false) := by
  refine returnsInHanded_of_change_sized (C := Try.checked) own started (by kernel_rfl) Try.func6
    (ChangeSpec.witness6 (enc := enc) (C := Try.checked) false ⟨#[], #[.agg #[.slice none 0 0, .slice none 0 0]], []⟩ 8 (by kernel_rfl) (by kernel_rfl) (by kernel_rfl) (by kernel_rfl)) ?_
  intro W base args ds gs before hval0 hW _ hsz0 _
  have hsz : (DataW.weightsEach Try.prog (Try.f6.params.toList ++ Rows.layoutRavelsSpec.plain.varTypes Try.prog) (ds ++ gs)).all (· ≤ reachBytes) = true := hsz0
  clear hsz0
  have hval : ∀ (j : Nat) t v, Try.f6.params[j]? = some t → args[j]? = some v → Value.okWide Try.prog W .any base t v := hval0
  have hW' := hW
  obtain ⟨p, q, hA0, hV, rfl, hfz, hnd⟩ := hW
  have hA : DataW.TrodAll enc Try.prog W 0 (fun _ => true) true Try.f6.params.toList args.toList ds p := hA0
  rw [Try.params6] at hA hval hsz
  obtain ⟨v0, vs0, d0, ds0, p0, q0, hargs, rfl, rfl, h0, r0⟩ := trodAll_cons hA
  obtain ⟨rfl, rfl, rfl⟩ := trodAll_nil r0
  obtain rfl : args = #[v0] := by cases args; simp_all
  obtain ⟨rfl, rfl⟩ := trodVars_none hV
  have k0 := h0
  have lt0 : ∀ x ∈ p0, x.block < W.heap.size := by obtain ⟨m, hm⟩ := k0; exact DataW.trod_lt m _ _ _ hm
  obtain ⟨n0, y0, c00, c01, hc0, w0⟩ := arr_of hsz (j := 0) rfl rfl h0
  obtain rfl := agg_two hc0
  clear hA0 hval0
  refine (walk n0 y0 c00 c01 W w0.1).mono fun e W' ⟨he, bel⟩ => ?_
  subst he
  exact ⟨_, rfl, _, _, _, [], _, [], hW', trodAll_mk1 (shut_bool Try.underlying4 _), (trodAll_cons_mk (Below.trod laidOut (by kernel_rfl) (of_decide_eq_true (by kernel_rfl)) k0 bel lt0) trodAll_mk0), rfl, bel.frame _, fun h => by cases h⟩
theorem over : Rows.layoutRavelsRow.holds Try.pinned (OpenSpec.ofChange Rows.layoutRavelsSpec) :=
  OpenClaim.holds_of_wide 6 Try.f6 rfl rfl rfl rfl rfl rfl rfl ⟨rfl, rfl, rfl, rfl, rfl⟩ rfl rfl rfl rfl rfl (by kernel_rfl) Try.func6 (by kernel_rfl)
    (of_decide_eq_true (by kernel_rfl)) (by unfold Func.isWrapper; first | (rw [if_pos (by decide +kernel)]; kernel_rfl) | (rw [if_neg (by decide +kernel)]; exact ⟨rfl, rfl⟩))
    (fun os started H enc _ => lifted os started H enc)
theorem proved : Rows.LayoutRavelsSaid := over
end Go.Proofs.Ytapknkgbkcdchaa.layoutRavels
namespace Go.Proofs.Ytapknkgbkcdchaa
theorem layoutRavels_holds : Rows.LayoutRavelsSaid := layoutRavels.proved
#print axioms layoutRavels_holds
end Go.Proofs.Ytapknkgbkcdchaa
