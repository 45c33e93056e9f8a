/-
  For all arrays the statement LayoutBack holds: turned round twice an array is what it was, what is put in a box comes out of it; no condition (the given row speaks of what a machine of 64 bits can hold).
-/
import Derived.Test.YtapknkgbkcdchaaLyS
namespace Go.Proofs.Ytapknkgbkcdchaa.layoutBack
open Go.ChangeShapes Go.WideShapes Go.ChangeAt Go.RowKit
set_option linter.unusedVariables false
set_option maxHeartbeats 4000000 in
theorem walk (n : Nat) (x : Ar) (c0 c1 : Value) (w : World) (hx : ArIn n 0 w x (.agg #[c0, c1])) :
    Calls Try.prog 5 #[.agg #[c0, c1]] w fun e w' => e = .returned (.bool true) ∧ Below w.heap.size w w' := by
  cases n with
  | zero => exact hx.elim
  | succ n =>
  obtain ⟨a1, k1, a2, k2, hv, -⟩ := hx.form
  simp only [Value.agg.injEq, Array.mk.injEq, List.cons.injEq, and_true] at hv
  obtain ⟨rfl, rfl⟩ := hv
  obtain ⟨SA, hSA⟩ : ∃ SA, x.shape.length = SA := ⟨_, rfl⟩
  obtain ⟨CA, hCA⟩ : ∃ CA, x.cells.length = CA := ⟨_, rfl⟩
  simp only [hSA, hCA] at hx ⊢
  have b0 := one_alloc w (.cells #[.slice a1 SA k1, .slice a2 CA k2] 25)
  have q0 : (w.alloc (.cells #[.slice a1 SA k1, .slice a2 CA k2] 25)).cell? ⟨w.heap.size, 0, none⟩ = some (.slice a1 SA k1) := cell_new0 w _ 25 0 _ rfl
  have q1 : (w.alloc (.cells #[.slice a1 SA k1, .slice a2 CA k2] 25)).cell? ⟨w.heap.size, 1, none⟩ = some (.slice a2 CA k2) := cell_new0 w _ 25 1 _ rfl
  obtain ⟨W1, e1⟩ : ∃ W1, w.alloc (.cells #[.slice a1 SA k1, .slice a2 CA k2] 25) = W1 := ⟨_, rfl⟩
  rw [e1] at b0 q0 q1
  have z1 : W1.heap.size = w.heap.size + 1 := by rw [← e1]; simp
  have HX : Hid (∀ W, Below w.heap.size w W → ArIn (n + 1) 0 W x (.agg #[.slice a1 SA k1, .slice a2 CA k2])) := fun W h => hx.next h
  have HQ : Hid (∀ W, Below W1.heap.size W1 W → Below w.heap.size w W ∧ W.cell? ⟨w.heap.size, 0, none⟩ = some (.slice a1 SA k1) ∧ W.cell? ⟨w.heap.size, 1, none⟩ = some (.slice a2 CA k2)) := fun W h => ⟨b0.trans (h.mono b0.size), (h.cell (p := ⟨w.heap.size, 0, none⟩) (by show w.heap.size < _; omega)).trans q0, (h.cell (p := ⟨w.heap.size, 1, none⟩) (by show w.heap.size < _; omega)).trans q1⟩
  have C0 := light_any (HX.out _ b0)
  have HSC := hide (And.intro hSA hCA)
  clear hx hSA hCA b0
  go_enter Try.func5, Try.ntmps5
  go_wp2_with fail
  clear e1 z1
  refine C0.mono ?_
  rintro e w1 ⟨⟨r, rfl⟩, hb1⟩
  have g1 := hb1
  obtain ⟨n1, q0', q1'⟩ := HQ.out w1 g1
  clear C0 hb1 q0 q1
  have HW : Hid (∀ W w', Below W1.heap.size W1 W → Below W.heap.size W w' → Below w.heap.size w w') := fun W w' h1 h2 => (HQ.out W h1).1.trans (h2.mono (HQ.out W h1).1.size)
  cases r with
  | false =>
    have CW := works_any w1
    have HG := hide g1
    clear g1 n1 q0' q1'
    go_wp2_with fail
    refine CW.mono ?_
    rintro e w2 ⟨rfl, hb2⟩
    go_wp2
    go_ret
    exact ⟨rfl, HW.out _ _ HG.out hb2⟩
  | true =>
  have C1 := rcheck_any (n + 1) x _ _ w1 (HX.out _ n1)
  have HG := hide g1
  clear g1 n1
  go_wp2_with fail
  refine C1.mono ?_
  rintro e w2 ⟨rfl, hb2⟩
  have g2 := HG.out.trans (hb2.mono HG.out.size)
  obtain ⟨E, hE⟩ : ∃ E, chkA 8 x = E := ⟨_, rfl⟩
  rw [hE]
  by_cases h0 : E = 0
  case neg =>
    have hne : (E == 0) = false := beq_eq_false_iff_ne.2 h0
    have CW := works_any w2
    have HG2 := hide g2
    clear g2 hb2 C1 hE HG q0' q1'
    go_wp2_with fail
    refine CW.mono ?_
    rintro e w3 ⟨rfl, hb3⟩
    go_wp2
    go_ret
    exact ⟨rfl, HW.out _ _ HG2.out hb3⟩
  subst h0
  have HCH := hide hE
  obtain ⟨W3, e3⟩ : ∃ W3, w2.alloc (.cells #[.int .i64 9, .int .i64 10, .int .i64 11] 3) = W3 := ⟨_, rfl⟩
  have B3 : Below w2.heap.size w2 W3 := by rw [← e3]; exact one_alloc _ _
  have g3 := g2.trans (B3.mono g2.size)
  have z3 : W3.heap.size = w2.heap.size + 1 := by rw [← e3]; simp
  have HOP : Hid (∀ W, Below W3.heap.size W3 W → ∀ j, j < 3 → ∃ op : Int, W.cell? ⟨w2.heap.size, j, none⟩ = some (.int .i64 op) ∧ (op = 9 ∨ op = 10 ∨ op = 11)) := by
    intro W h j hj
    have hc : ∀ i v, #[Value.int .i64 9, .int .i64 10, .int .i64 11][i]? = some v → W.cell? ⟨w2.heap.size, i, none⟩ = some v := fun i v hi => (h.cell (p := ⟨w2.heap.size, i, none⟩) (by show w2.heap.size < _; omega)).trans (by rw [← e3]; exact cell_new0 w2 _ 3 i v hi)
    have hj' : j = 0 ∨ j = 1 ∨ j = 2 := by omega
    rcases hj' with rfl | rfl | rfl
    · exact ⟨9, hc 0 _ rfl, Or.inl rfl⟩
    · exact ⟨10, hc 1 _ rfl, Or.inr (Or.inl rfl)⟩
    · exact ⟨11, hc 2 _ rfl, Or.inr (Or.inr rfl)⟩
  have HG3 := hide g3
  clear g2 g3 B3 z3 hb2 C1 hE HG q0' q1'
  go_wp2
  clear e3
  go_loopg [24] 3 (fun g i wr => ∃ j : Nat, g + j = 3 ∧ i = .int .i64 (j : Int) ∧ Below W3.heap.size W3 wr)
  case atStart => exact ⟨0, rfl, rfl, Below.refl _ _⟩
  case round =>
    obtain ⟨j, hg, rfl, hnx⟩ := hrel
    have g4 := HG3.out.trans (hnx.mono HG3.out.size)
    obtain ⟨n4, q0, q1⟩ := HQ.out wr g4
    by_cases hlt : j < 3
    · obtain ⟨op, hop, hops⟩ := HOP.out wr hnx j hlt
      obtain ⟨y, hy1, hy2⟩ := turn_back HCH.out (n + 1) (n + 2) op hops
      have hne17 : op = 17 → Caps (.agg #[.slice a1 SA k1, .slice a2 CA k2]) := fun h => by rcases hops with h' | h' | h' <;> omega
      have C2 := mo_any (HX.out _ n4) op hne17
      rw [hy1] at C2
      have HY2 := hide hy2
      have HOPS := hide hops
      have HG4 := hide (And.intro g4 hnx)
      clear hy1 hy2 hops hne17 g4 n4
      go_wp2_with fail
      refine C2.mono ?_
      rintro e w5 ⟨⟨v, rfl, hv⟩, hb5⟩
      obtain ⟨y1, m1, y2, m2, rfl, -, -⟩ := hv.form
      obtain ⟨SB, hSB⟩ : ∃ SB, y.shape.length = SB := ⟨_, rfl⟩
      obtain ⟨CB, hCB⟩ : ∃ CB, y.cells.length = CB := ⟨_, rfl⟩
      simp only [hSB, hCB] at hv ⊢
      obtain ⟨W6, e6⟩ : ∃ W6, w5.alloc (.cells #[.slice y1 SB m1, .slice y2 CB m2] 25) = W6 := ⟨_, rfl⟩
      have B6 : Below w5.heap.size w5 W6 := by rw [← e6]; exact one_alloc _ _
      have B46 : Below wr.heap.size wr W6 := hb5.trans (B6.mono hb5.size)
      have y0 : W6.cell? ⟨w5.heap.size, 0, none⟩ = some (.slice y1 SB m1) := by rw [← e6]; exact cell_new0 w5 _ 25 0 _ rfl
      have y1' : W6.cell? ⟨w5.heap.size, 1, none⟩ = some (.slice y2 CB m2) := by rw [← e6]; exact cell_new0 w5 _ 25 1 _ rfl
      have C3 := mo_any (hv.next B6) op (fun h => by rcases HOPS.out with h' | h' | h' <;> omega)
      rw [HY2.out] at C3
      have HB46 := hide B46
      clear C2 hv hb5 B6 B46 hSB hCB q0 q1 hop
      go_wp2_with fail
      clear e6 y0 y1'
      refine C3.mono ?_
      rintro e w7 ⟨⟨v, rfl, hv⟩, hb7⟩
      obtain ⟨z1, l1, z2, l2, rfl, -, -⟩ := hv.form
      simp only [HSC.out.1, HSC.out.2] at hv ⊢
      obtain ⟨W8, e8⟩ : ∃ W8, w7.alloc (.cells #[.slice z1 SA l1, .slice z2 CA l2] 25) = W8 := ⟨_, rfl⟩
      have B8 : Below w7.heap.size w7 W8 := by rw [← e8]; exact one_alloc _ _
      have B48 : Below wr.heap.size wr W8 := (HB46.out.trans (hb7.mono HB46.out.size)).trans (B8.mono (Nat.le_trans HB46.out.size hb7.size))
      have z0 : W8.cell? ⟨w7.heap.size, 0, none⟩ = some (.slice z1 SA l1) := by rw [← e8]; exact cell_new0 w7 _ 25 0 _ rfl
      have z1' : W8.cell? ⟨w7.heap.size, 1, none⟩ = some (.slice z2 CA l2) := by rw [← e8]; exact cell_new0 w7 _ 25 1 _ rfl
      have hnx8 := HG4.out.2.trans (B48.mono HG4.out.2.size)
      have g8 := HG3.out.trans (hnx8.mono HG3.out.size)
      obtain ⟨n8, q0, q1⟩ := HQ.out W8 g8
      have C4 := rsame_any (n := n + 3) ((HX.out _ n8).deep (by omega)) (hv.next B8)
      rw [cmpA_self] at C4
      have HNX8 := hide hnx8
      clear C3 hv hb7 B8 B48 hnx8 g8 n8
      go_wp2_with fail
      clear e8 z0 z1' q0 q1
      refine C4.mono ?_
      rintro e w9 ⟨rfl, hb9⟩
      have hnx9 := HNX8.out.trans (hb9.mono HNX8.out.size)
      clear C4 hb9
      go_wp2
      go_roundg (3 - (j + 1))
      case rel => exact ⟨j + 1, by omega, by go_num, hnx9⟩
      case measure => omega
    · have hje : j = 3 := by omega
      subst hje
      have C2 := mo_any (HX.out _ n4) 15 (fun h => absurd h (by decide))
      have hm : moR (n + 1) 15 x = enclR (n + 1) x := by rw [moR_ok HCH.out]; rfl
      rw [hm] at C2
      have hdl := deep_le 8 (n + 1) x HCH.out
      have HG4 := hide g4
      clear hm n4 g4 HOP
      by_cases h8 : 8 ≤ deepA (n + 1) x
      · have hE : enclR (n + 1) x = (zeroA, 15) := by unfold enclR; rw [if_pos h8]
        rw [hE] at C2
        have HD : Hid (deepA (n + 1) x = 8) := by unfold Hid; omega
        clear hE h8 hdl
        go_wp2_with fail
        refine C2.mono ?_
        rintro e w5 ⟨⟨v, rfl, hv⟩, hb5⟩
        obtain ⟨y1, m1, y2, m2, rfl, -, -⟩ := hv.form
        have es : zeroA.shape.length = 0 := rfl
        have ec : zeroA.cells.length = 0 := rfl
        rw [es, ec]
        have B5 : Below wr.heap.size wr (w5.alloc (.cells #[.slice y1 0 m1, .slice y2 0 m2] 25)) := hb5.trans ((one_alloc w5 _).mono hb5.size)
        have g5 := HG4.out.trans (B5.mono HG4.out.size)
        obtain ⟨n5, q0', q1'⟩ := HQ.out _ g5
        have C3 := rdeep_any (n + 1) 16 x _ _ _ (by omega) (chk_thin16 HCH.out) (HX.out _ n5)
        rw [HD.out] at C3
        have HG5 := hide g5
        clear C2 hv hb5 es ec B5 g5 n5 q0 q1
        go_wp2_with fail
        refine C3.mono ?_
        rintro e w6 ⟨rfl, hb6⟩
        have CW := works_any w6
        have g6 := HG5.out.trans (hb6.mono HG5.out.size)
        have HG6 := hide g6
        clear C3 hb6 g6 q0' q1'
        go_wp2_with fail
        refine CW.mono ?_
        rintro e w7 ⟨rfl, hb7⟩
        go_wp2
        go_ret
        exact ⟨rfl, HW.out _ _ HG6.out hb7⟩
      · have hE : enclR (n + 1) x = (.mk [] [(2, 0, [x])], 0) := by unfold enclR; rw [if_neg h8]
        rw [hE] at C2
        have h7 : chkA 7 x = 0 := chk_down 7 (n + 1) _ _ x _ (HX.out _ (HQ.out _ HG4.out).1) HCH.out (by omega)
        have HH7 := hide h7
        clear hE h8 hdl h7
        go_wp2_with fail
        refine C2.mono ?_
        rintro e w5 ⟨⟨v, rfl, hv⟩, hb5⟩
        obtain ⟨y1, m1, y2, m2, rfl, -, -⟩ := hv.form
        simp only [Ar.shape, Ar.cells, List.length_nil, List.length_cons, Nat.zero_add] at hv ⊢
        obtain ⟨W6, e6⟩ : ∃ W6, w5.alloc (.cells #[.slice y1 0 m1, .slice y2 1 m2] 25) = W6 := ⟨_, rfl⟩
        have B6 : Below w5.heap.size w5 W6 := by rw [← e6]; exact one_alloc _ _
        have B46 : Below wr.heap.size wr W6 := hb5.trans (B6.mono hb5.size)
        have y0 : W6.cell? ⟨w5.heap.size, 0, none⟩ = some (.slice y1 0 m1) := by rw [← e6]; exact cell_new0 w5 _ 25 0 _ rfl
        have y1' : W6.cell? ⟨w5.heap.size, 1, none⟩ = some (.slice y2 1 m2) := by rw [← e6]; exact cell_new0 w5 _ 25 1 _ rfl
        have C3 := mo_any (n := n + 1) (hv.next B6) 16 (fun h => absurd h (by decide))
        rw [disc_back HH7.out] at C3
        have HB46 := hide B46
        clear C2 hv hb5 B6 B46 q0 q1
        go_wp2_with fail
        clear e6 y0 y1'
        refine C3.mono ?_
        rintro e w7 ⟨⟨v, rfl, hv⟩, hb7⟩
        obtain ⟨z1, l1, z2, l2, rfl, -, -⟩ := hv.form
        simp only [HSC.out.1, HSC.out.2] at hv ⊢
        obtain ⟨W8, e8⟩ : ∃ W8, w7.alloc (.cells #[.slice z1 SA l1, .slice z2 CA l2] 25) = W8 := ⟨_, rfl⟩
        have B8 : Below w7.heap.size w7 W8 := by rw [← e8]; exact one_alloc _ _
        have B48 : Below wr.heap.size wr W8 := (HB46.out.trans (hb7.mono HB46.out.size)).trans (B8.mono (Nat.le_trans HB46.out.size hb7.size))
        have z0 : W8.cell? ⟨w7.heap.size, 0, none⟩ = some (.slice z1 SA l1) := by rw [← e8]; exact cell_new0 w7 _ 25 0 _ rfl
        have z1' : W8.cell? ⟨w7.heap.size, 1, none⟩ = some (.slice z2 CA l2) := by rw [← e8]; exact cell_new0 w7 _ 25 1 _ rfl
        have g8 := HG4.out.trans (B48.mono HG4.out.size)
        obtain ⟨n8, q0, q1⟩ := HQ.out W8 g8
        have C4 := rsame_any (n := n + 3) ((HX.out _ n8).deep (by omega)) (hv.next B8)
        rw [cmpA_self] at C4
        have HG8 := hide g8
        clear C3 hv hb7 B8 B48 g8 n8
        go_wp2_with fail
        clear e8 z0 z1' q0 q1
        refine C4.mono ?_
        rintro e w9 ⟨rfl, hb9⟩
        have g9 := HG8.out.trans (hb9.mono HG8.out.size)
        have HG9 := hide g9
        have CW := works_any w9
        clear C4 hb9 g9
        simp only [decide_true]
        go_wp2_with fail
        refine CW.mono ?_
        rintro e wa ⟨rfl, hba⟩
        go_wp2
        go_ret
        exact ⟨rfl, HW.out _ _ HG9.out hba⟩
set_option maxRecDepth 100000 in
theorem lifted (os : Os) (started : os.Started) (H : Type) (enc : TypeId × Value → H) :
    ReturnsInHanded {} Try.checked os 5 .any (Rows.layoutBackSpec.pre6 enc Try.prog Try.f5 Rows.layoutBackRow.domain false) (Rows.layoutBackSpec.post enc Try.prog Try.f5 false true false false) := by
  refine returnsInHanded_of_change_sized (C := Try.checked) own started (by kernel_rfl) Try.func5
    (ChangeSpec.witness6 (enc := enc) (C := Try.checked) false ⟨#[], #[.agg #[.slice none 0 0, .slice none 0 0]], []⟩ 8 (by kernel_rfl) (by kernel_rfl) (by kernel_rfl) (by kernel_rfl)) ?_
  intro W base args ds gs before hval0 hW _ hsz0 _
  have hsz : (DataW.weightsEach Try.prog (Try.f5.params.toList ++ Rows.layoutBackSpec.plain.varTypes Try.prog) (ds ++ gs)).all (· ≤ reachBytes) = true := hsz0
  clear hsz0
  have hval : ∀ (j : Nat) t v, Try.f5.params[j]? = some t → args[j]? = some v → Value.okWide Try.prog W .any base t v := hval0
  have hW' := hW
  obtain ⟨p, q, hA0, hV, rfl, hfz, hnd⟩ := hW
  have hA : DataW.TrodAll enc Try.prog W 0 (fun _ => true) true Try.f5.params.toList args.toList ds p := hA0
  rw [Try.params5] at hA hval hsz
  obtain ⟨v0, vs0, d0, ds0, p0, q0, hargs, rfl, rfl, h0, r0⟩ := trodAll_cons hA
  obtain ⟨rfl, rfl, rfl⟩ := trodAll_nil r0
  obtain rfl : args = #[v0] := by cases args; simp_all
  obtain ⟨rfl, rfl⟩ := trodVars_none hV
  have k0 := h0
  have lt0 : ∀ x ∈ p0, x.block < W.heap.size := by obtain ⟨m, hm⟩ := k0; exact DataW.trod_lt m _ _ _ hm
  obtain ⟨n0, y0, c00, c01, hc0, w0⟩ := arr_of hsz (j := 0) rfl rfl h0
  obtain rfl := agg_two hc0
  clear hA0 hval0
  refine (walk n0 y0 c00 c01 W w0.1).mono fun e W' ⟨he, bel⟩ => ?_
  subst he
  exact ⟨_, rfl, _, _, _, [], _, [], hW', trodAll_mk1 (shut_bool Try.underlying4 _), (trodAll_cons_mk (Below.trod laidOut (by kernel_rfl) (of_decide_eq_true (by kernel_rfl)) k0 bel lt0) trodAll_mk0), rfl, bel.frame _, fun h => by cases h⟩
theorem over : Rows.layoutBackRow.holds Try.pinned (OpenSpec.ofChange Rows.layoutBackSpec) :=
  OpenClaim.holds_of_wide 5 Try.f5 rfl rfl rfl rfl rfl rfl rfl ⟨rfl, rfl, rfl, rfl, rfl⟩ rfl rfl rfl rfl rfl (by kernel_rfl) Try.func5 (by kernel_rfl)
    (of_decide_eq_true (by kernel_rfl)) (by unfold Func.isWrapper; first | (rw [if_pos (by decide +kernel)]; kernel_rfl) | (rw [if_neg (by decide +kernel)]; exact ⟨rfl, rfl⟩))
    (fun os started H enc _ => lifted os started H enc)
theorem proved : Rows.LayoutBackSaid := over
end Go.Proofs.Ytapknkgbkcdchaa.layoutBack
namespace Go.Proofs.Ytapknkgbkcdchaa
theorem layoutBack_holds : Rows.LayoutBackSaid := layoutBack.proved
#print axioms layoutBack_holds
end Go.Proofs.Ytapknkgbkcdchaa
