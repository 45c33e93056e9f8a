/-
  For all arrays and all cells the statement ArrOrders holds: Cmp, Cell and Same of layer 3 answer as the document's; no condition (the given row speaks of what a machine of 64 bits can hold).
-/
import Derived.Test.YtednaamfgobkoaaOwnV
namespace Go.Proofs.Ytednaamfgobkoaa.arrOrders
open Go.ChangeShapes Go.WideShapes Go.ChangeAt Go.RowKit
set_option linter.unusedVariables false
theorem four_allocs (w : World) (o1 o2 o3 o4 : Obj) : Below w.heap.size w ((((w.alloc o1).alloc o2).alloc o3).alloc o4) := (two_allocs w o1 o2).trans ((two_allocs _ o3 o4).mono (by simp; omega))
theorem size_four (w : World) (o1 o2 o3 o4 : Obj) : ((((w.alloc o1).alloc o2).alloc o3).alloc o4).heap.size = w.heap.size + 4 := by simp
theorem cell_four (w : World) (o1 o2 o3 o4 : Obj) (b i : Nat) (v : Value) (hb : b < w.heap.size + 2) (h : ((w.alloc o1).alloc o2).cell? ⟨b, i, none⟩ = some v) : ((((w.alloc o1).alloc o2).alloc o3).alloc o4).cell? ⟨b, i, none⟩ = some v :=
  ((two_allocs ((w.alloc o1).alloc o2) o3 o4).cell (p := ⟨b, i, none⟩) (by simp; omega)).trans h
/-- Two cells put into one array. -/
theorem pair_in {N lo : Nat} {w : World} {c d : Ce} {z0 z1 y0 y1 : Int} {e2 f2 : Option Addr} {BC m2 BD o2 : Nat} (hc : CeIn (ArIn N lo w) lo w c (.int .i64 z0) (.int .i64 z1) (.slice e2 BC m2)) (hd : CeIn (ArIn N lo w) lo w d (.int .i64 y0) (.int .i64 y1) (.slice f2 BD o2)) (hlo : lo ≤ w.heap.size) :
    ArIn (N + 1) lo (w.alloc (.cells #[.int .i64 z0, .int .i64 z1, .slice e2 BC m2, .int .i64 y0, .int .i64 y1, .slice f2 BD o2] 33)) (.mk [] [c, d]) (.agg #[.slice none 0 0, .slice (some ⟨w.heap.size, 0, none⟩) 2 2]) := by
  refine arIn_mk (x := .mk [] [c, d]) (row_nil _ _ _) (by simp [Ar.cells]) ?_ rfl rfl
  refine Or.inr ⟨w.heap.size, 0, rfl, hlo, by simp, ?_⟩
  intro i hi
  have b := one_alloc w (.cells #[.int .i64 z0, .int .i64 z1, .slice e2 BC m2, .int .i64 y0, .int .i64 y1, .slice f2 BD o2] 33)
  have hi' : i < 2 := hi
  rcases (show i = 0 ∨ i = 1 by omega) with rfl | rfl
  · exact ⟨_, _, _, cell_new0 w _ 33 0 _ rfl, cell_new0 w _ 33 1 _ rfl, cell_new0 w _ 33 2 _ rfl, hc.mono (Nat.le_refl _) b fun x v h => h.next b⟩
  · exact ⟨_, _, _, cell_new0 w _ 33 3 _ rfl, cell_new0 w _ 33 4 _ rfl, cell_new0 w _ 33 5 _ rfl, hd.mono (Nat.le_refl _) b fun x v h => h.next b⟩
set_option maxHeartbeats 8000000 in
theorem walk1 (n : Nat) (x y : Ar) (c d : Ce) (c0 c1 p0 p1 r0 r1 r2 t0 t1 t2 : Value) (w : World) (hx : ArIn (n + 1) 0 w x (.agg #[c0, c1])) (hy : ArIn (n + 1) 0 w y (.agg #[p0, p1])) (hc : CeIn (ArIn (n + 1) 0 w) 0 w c r0 r1 r2) (hd : CeIn (ArIn (n + 1) 0 w) 0 w d t0 t1 t2) :
    Calls Try.prog 4 #[.agg #[c0, c1], .agg #[p0, p1], .agg #[r0, r1, r2], .agg #[t0, t1, t2]] w fun e w' => e = .returned (.bool true) ∧ Below w.heap.size w w' := by
  have hx' := hx
  have hy' := hy
  have hc' := hc
  have hd' := hd
  obtain ⟨a1, k1, a2, k2, hv, -⟩ := hx'
  simp only [Value.agg.injEq, Array.mk.injEq, List.cons.injEq, and_true] at hv
  obtain ⟨rfl, rfl⟩ := hv
  obtain ⟨b1, l1, b2, l2, hv, -⟩ := hy'
  simp only [Value.agg.injEq, Array.mk.injEq, List.cons.injEq, and_true] at hv
  obtain ⟨rfl, rfl⟩ := hv
  obtain ⟨rfl, rfl, e2, m2, rfl, -⟩ := hc'
  obtain ⟨rfl, rfl, f2, o2, rfl, -⟩ := hd'
  have HX : Hid (∀ W, Below w.heap.size w W → ArIn (n + 1) 0 W x (.agg #[.slice a1 x.shape.length k1, .slice a2 x.cells.length k2])) := fun W h => hx.next h
  have HY : Hid (∀ W, Below w.heap.size w W → ArIn (n + 1) 0 W y (.agg #[.slice b1 y.shape.length l1, .slice b2 y.cells.length l2])) := fun W h => hy.next h
  have HC : Hid (∀ W, Below w.heap.size w W → CeIn (ArIn (n + 1) 0 W) 0 W c (.int .i64 c.1) (.int .i64 c.2.1) (.slice e2 c.2.2.length m2)) := fun W h => hc.mono (Nat.le_refl _) h fun x v hv => hv.next h
  have HD : Hid (∀ W, Below w.heap.size w W → CeIn (ArIn (n + 1) 0 W) 0 W d (.int .i64 d.1) (.int .i64 d.2.1) (.slice f2 d.2.2.length o2)) := fun W h => hd.mono (Nat.le_refl _) h fun x v hv => hv.next h
  clear hx hy hc hd
  generalize x.shape.length = SA at *
  generalize x.cells.length = CA at *
  generalize y.shape.length = SB at *
  generalize y.cells.length = CB at *
  generalize c.2.2.length = BC at *
  generalize d.2.2.length = BD at *
  generalize c.1 = z0 at *
  generalize c.2.1 = z1 at *
  generalize d.1 = y0 at *
  generalize d.2.1 = y1 at *
  obtain ⟨w0, eW⟩ : ∃ w0, w0 = (((w.alloc (.cells #[.slice a1 SA k1, .slice a2 CA k2] 25)).alloc (.cells #[.slice b1 SB l1, .slice b2 CB l2] 25)).alloc (.cells #[.int .i64 z0, .int .i64 z1, .slice e2 BC m2] 33)).alloc (.cells #[.int .i64 y0, .int .i64 y1, .slice f2 BD o2] 33) := ⟨_, rfl⟩
  have B0 : Below w.heap.size w w0 := by rw [eW]; exact four_allocs _ _ _ _ _
  have s0 : w0.heap.size = w.heap.size + 4 := by rw [eW]; exact size_four _ _ _ _ _
  have KS : ∀ W, Below w0.heap.size w0 W → (Below w0.heap.size w0 W ∧ (W.cell? ⟨w.heap.size, 0, none⟩ = some (.slice a1 SA k1) ∧ W.cell? ⟨w.heap.size, 1, none⟩ = some (.slice a2 CA k2)) ∧ (W.cell? ⟨w.heap.size + 1, 0, none⟩ = some (.slice b1 SB l1) ∧ W.cell? ⟨w.heap.size + 1, 1, none⟩ = some (.slice b2 CB l2)) ∧ (W.cell? ⟨w.heap.size + 2, 0, none⟩ = some (.int .i64 z0) ∧ W.cell? ⟨w.heap.size + 2, 1, none⟩ = some (.int .i64 z1) ∧ W.cell? ⟨w.heap.size + 2, 2, none⟩ = some (.slice e2 BC m2)) ∧ (W.cell? ⟨w.heap.size + 3, 0, none⟩ = some (.int .i64 y0) ∧ W.cell? ⟨w.heap.size + 3, 1, none⟩ = some (.int .i64 y1) ∧ W.cell? ⟨w.heap.size + 3, 2, none⟩ = some (.slice f2 BD o2))) := by
    intro W h
    have g0 : w0.cell? ⟨w.heap.size, 0, none⟩ = some (.slice a1 SA k1) := by rw [eW]; exact cell_four w _ _ _ _ _ _ _ (by omega) (cell_new1 w _ 25 (0, 0) _ 0 _ rfl)
    have g1 : w0.cell? ⟨w.heap.size, 1, none⟩ = some (.slice a2 CA k2) := by rw [eW]; exact cell_four w _ _ _ _ _ _ _ (by omega) (cell_new1 w _ 25 (0, 0) _ 1 _ rfl)
    have g2 : w0.cell? ⟨w.heap.size + 1, 0, none⟩ = some (.slice b1 SB l1) := by rw [eW]; exact cell_four w _ _ _ _ _ _ _ (by omega) (cell_new2 w _ 25 (0, 0) _ 0 _ rfl)
    have g3 : w0.cell? ⟨w.heap.size + 1, 1, none⟩ = some (.slice b2 CB l2) := by rw [eW]; exact cell_four w _ _ _ _ _ _ _ (by omega) (cell_new2 w _ 25 (0, 0) _ 1 _ rfl)
    have hs2 : ((w.alloc (.cells #[.slice a1 SA k1, .slice a2 CA k2] 25)).alloc (.cells #[.slice b1 SB l1, .slice b2 CB l2] 25)).heap.size = w.heap.size + 2 := size_two _ _ _
    have h1 : ∀ i v, #[Value.int .i64 z0, .int .i64 z1, .slice e2 BC m2][i]? = some v → w0.cell? ⟨w.heap.size + 2, i, none⟩ = some v := by
      intro i v hi; rw [eW, ← hs2]; exact cell_new1 _ _ 33 (0, 0) _ i _ hi
    have h2 : ∀ i v, #[Value.int .i64 y0, .int .i64 y1, .slice f2 BD o2][i]? = some v → w0.cell? ⟨w.heap.size + 3, i, none⟩ = some v := by
      intro i v hi
      have := cell_new2 ((w.alloc (.cells #[.slice a1 SA k1, .slice a2 CA k2] 25)).alloc (.cells #[.slice b1 SB l1, .slice b2 CB l2] 25)) #[Value.int .i64 y0, .int .i64 y1, .slice f2 BD o2] 33 (0, 0) (.cells #[.int .i64 z0, .int .i64 z1, .slice e2 BC m2] 33) i v hi
      rw [hs2] at this
      rw [eW]; exact this
    have tr : ∀ b i v, b < w.heap.size + 4 → w0.cell? ⟨b, i, none⟩ = some v → W.cell? ⟨b, i, none⟩ = some v := fun b i v hb hh => (h.cell (p := ⟨b, i, none⟩) (by rw [s0]; exact hb)).trans hh
    exact ⟨h, ⟨tr _ _ _ (by omega) g0, tr _ _ _ (by omega) g1⟩, ⟨tr _ _ _ (by omega) g2, tr _ _ _ (by omega) g3⟩, ⟨tr _ _ _ (by omega) (h1 0 _ rfl), tr _ _ _ (by omega) (h1 1 _ rfl), tr _ _ _ (by omega) (h1 2 _ rfl)⟩, ⟨tr _ _ _ (by omega) (h2 0 _ rfl), tr _ _ _ (by omega) (h2 1 _ rfl), tr _ _ _ (by omega) (h2 2 _ rfl)⟩⟩
  have HKS := hide KS
  have HB0 := hide B0
  have C0 := light_any (HX.out _ B0)
  clear KS B0
  go_enter Try.func4, Try.ntmps4
  go_wp2_with fail
  rw [← eW]
  clear eW
  refine C0.mono ?_
  rintro e w1 ⟨⟨r1, rfl, -⟩, hb1⟩
  clear C0
  cases r1 with
  | false =>
    have HB1 := hide (HB0.out.trans (hb1.mono HB0.out.size))
    clear HX HY HC HD HKS HB0 hb1
    go_wp2_with fail
    refine (works_any _).mono ?_
    rintro e w2 ⟨rfl, hb2⟩
    go_wp2
    go_ret
    exact ⟨rfl, HB1.out.trans (hb2.mono HB1.out.size)⟩
  | true =>
  obtain ⟨-, -, ⟨q2, q3⟩, -⟩ := HKS.out _ hb1
  have C0 := light_any (HY.out _ (HB0.out.trans (hb1.mono HB0.out.size)))
  have H1 := hide hb1
  clear hb1
  go_wp2_with fail
  refine C0.mono ?_
  rintro e w2 ⟨⟨r2, rfl, -⟩, hb2⟩
  have H2 := hide (H1.out.trans (hb2.mono H1.out.size))
  clear C0 q2 q3 hb2 H1
  cases r2 with
  | false =>
    have HB2 := hide (HB0.out.trans (H2.out.mono HB0.out.size))
    clear HX HY HC HD HKS HB0 H2
    go_wp2_with fail
    refine (works_any _).mono ?_
    rintro e w3 ⟨rfl, hb3⟩
    go_wp2
    go_ret
    exact ⟨rfl, HB2.out.trans (hb3.mono HB2.out.size)⟩
  | true =>
  obtain ⟨-, -, -, ⟨q4, q5, q6⟩, ⟨q7, q8, q9⟩⟩ := HKS.out _ H2.out
  have bw2 := HB0.out.trans (H2.out.mono HB0.out.size)
  have C0 := light_any (pair_in (HC.out _ bw2) (HD.out _ bw2) (Nat.zero_le _))
  clear bw2
  go_wp2_with fail
  refine C0.mono ?_
  rintro e w3 ⟨⟨r3, rfl, -⟩, hb3⟩
  have H3 := hide (H2.out.trans ((one_alloc w2 _).trans (hb3.mono (one_alloc w2 _).size) |>.mono H2.out.size))
  have HB3 := hide (HB0.out.trans (H3.out.mono HB0.out.size))
  clear C0 q4 q5 q6 q7 q8 q9 hb3 H2
  cases r3 with
  | false =>
    clear HX HY HC HD HKS HB0 H3
    go_wp2_with fail
    refine (works_any _).mono ?_
    rintro e w4 ⟨rfl, hb4⟩
    go_wp2
    go_ret
    exact ⟨rfl, HB3.out.trans (hb4.mono HB3.out.size)⟩
  | true =>
  have KS : Hid (∀ W, Below w3.heap.size w3 W → (Below w3.heap.size w3 W ∧ (W.cell? ⟨w.heap.size, 0, none⟩ = some (.slice a1 SA k1) ∧ W.cell? ⟨w.heap.size, 1, none⟩ = some (.slice a2 CA k2)) ∧ (W.cell? ⟨w.heap.size + 1, 0, none⟩ = some (.slice b1 SB l1) ∧ W.cell? ⟨w.heap.size + 1, 1, none⟩ = some (.slice b2 CB l2)) ∧ (W.cell? ⟨w.heap.size + 2, 0, none⟩ = some (.int .i64 z0) ∧ W.cell? ⟨w.heap.size + 2, 1, none⟩ = some (.int .i64 z1) ∧ W.cell? ⟨w.heap.size + 2, 2, none⟩ = some (.slice e2 BC m2)) ∧ (W.cell? ⟨w.heap.size + 3, 0, none⟩ = some (.int .i64 y0) ∧ W.cell? ⟨w.heap.size + 3, 1, none⟩ = some (.int .i64 y1) ∧ W.cell? ⟨w.heap.size + 3, 2, none⟩ = some (.slice f2 BD o2)))) := fun W h => ⟨h, (HKS.out W (H3.out.trans (h.mono H3.out.size))).2⟩
  have KW : ∀ W, Below w3.heap.size w3 W → Below w.heap.size w W := fun W h => HB3.out.trans (h.mono HB3.out.size)
  have C1 : Hid (∀ W, (Below w3.heap.size w3 W ∧ (W.cell? ⟨w.heap.size, 0, none⟩ = some (.slice a1 SA k1) ∧ W.cell? ⟨w.heap.size, 1, none⟩ = some (.slice a2 CA k2)) ∧ (W.cell? ⟨w.heap.size + 1, 0, none⟩ = some (.slice b1 SB l1) ∧ W.cell? ⟨w.heap.size + 1, 1, none⟩ = some (.slice b2 CB l2)) ∧ (W.cell? ⟨w.heap.size + 2, 0, none⟩ = some (.int .i64 z0) ∧ W.cell? ⟨w.heap.size + 2, 1, none⟩ = some (.int .i64 z1) ∧ W.cell? ⟨w.heap.size + 2, 2, none⟩ = some (.slice e2 BC m2)) ∧ (W.cell? ⟨w.heap.size + 3, 0, none⟩ = some (.int .i64 y0) ∧ W.cell? ⟨w.heap.size + 3, 1, none⟩ = some (.int .i64 y1) ∧ W.cell? ⟨w.heap.size + 3, 2, none⟩ = some (.slice f2 BD o2))) → Calls Try.prog 15 #[.agg #[.slice a1 SA k1, .slice a2 CA k2], .agg #[.slice b1 SB l1, .slice b2 CB l2]] W fun e w' => e = .returned (.int .i64 (cmpA (n + 1) x y)) ∧ Below w3.heap.size w3 w') := by
    rintro W ⟨h, -⟩
    exact (cmp_any (n + 1) x y _ _ _ _ W (HX.out W (KW W h)) (HY.out W (KW W h))).mono fun e w' ⟨he, hb⟩ => ⟨he, h.trans (hb.mono h.size)⟩
  have C2 : Hid (∀ W, (Below w3.heap.size w3 W ∧ (W.cell? ⟨w.heap.size, 0, none⟩ = some (.slice a1 SA k1) ∧ W.cell? ⟨w.heap.size, 1, none⟩ = some (.slice a2 CA k2)) ∧ (W.cell? ⟨w.heap.size + 1, 0, none⟩ = some (.slice b1 SB l1) ∧ W.cell? ⟨w.heap.size + 1, 1, none⟩ = some (.slice b2 CB l2)) ∧ (W.cell? ⟨w.heap.size + 2, 0, none⟩ = some (.int .i64 z0) ∧ W.cell? ⟨w.heap.size + 2, 1, none⟩ = some (.int .i64 z1) ∧ W.cell? ⟨w.heap.size + 2, 2, none⟩ = some (.slice e2 BC m2)) ∧ (W.cell? ⟨w.heap.size + 3, 0, none⟩ = some (.int .i64 y0) ∧ W.cell? ⟨w.heap.size + 3, 1, none⟩ = some (.int .i64 y1) ∧ W.cell? ⟨w.heap.size + 3, 2, none⟩ = some (.slice f2 BD o2))) → Calls Try.prog 16 #[.agg #[.slice a1 SA k1, .slice a2 CA k2], .agg #[.slice b1 SB l1, .slice b2 CB l2]] W fun e w' => e = .returned (.int .i64 (cmpA (n + 1) x y)) ∧ Below w3.heap.size w3 w') := by
    rintro W ⟨h, -⟩
    exact (rcmp_any (n + 1) x y _ _ _ _ W (HX.out W (KW W h)) (HY.out W (KW W h))).mono fun e w' ⟨he, hb⟩ => ⟨he, h.trans (hb.mono h.size)⟩
  have C3 : Hid (∀ W, (Below w3.heap.size w3 W ∧ (W.cell? ⟨w.heap.size, 0, none⟩ = some (.slice a1 SA k1) ∧ W.cell? ⟨w.heap.size, 1, none⟩ = some (.slice a2 CA k2)) ∧ (W.cell? ⟨w.heap.size + 1, 0, none⟩ = some (.slice b1 SB l1) ∧ W.cell? ⟨w.heap.size + 1, 1, none⟩ = some (.slice b2 CB l2)) ∧ (W.cell? ⟨w.heap.size + 2, 0, none⟩ = some (.int .i64 z0) ∧ W.cell? ⟨w.heap.size + 2, 1, none⟩ = some (.int .i64 z1) ∧ W.cell? ⟨w.heap.size + 2, 2, none⟩ = some (.slice e2 BC m2)) ∧ (W.cell? ⟨w.heap.size + 3, 0, none⟩ = some (.int .i64 y0) ∧ W.cell? ⟨w.heap.size + 3, 1, none⟩ = some (.int .i64 y1) ∧ W.cell? ⟨w.heap.size + 3, 2, none⟩ = some (.slice f2 BD o2))) → Calls Try.prog 17 #[.agg #[.int .i64 z0, .int .i64 z1, .slice e2 BC m2], .agg #[.int .i64 y0, .int .i64 y1, .slice f2 BD o2]] W fun e w' => e = .returned (.int .i64 (cmpC (cmpA (n + 1)) c d)) ∧ Below w3.heap.size w3 w') := by
    rintro W ⟨h, -⟩
    exact (cell_any (n + 1) (cmp_any (n + 1)) c d _ _ W _ _ _ _ _ _ (HC.out W (KW W h)) (HD.out W (KW W h))).mono fun e w' ⟨he, hb⟩ => ⟨he, h.trans (hb.mono h.size)⟩
  have C4 : Hid (∀ W, (Below w3.heap.size w3 W ∧ (W.cell? ⟨w.heap.size, 0, none⟩ = some (.slice a1 SA k1) ∧ W.cell? ⟨w.heap.size, 1, none⟩ = some (.slice a2 CA k2)) ∧ (W.cell? ⟨w.heap.size + 1, 0, none⟩ = some (.slice b1 SB l1) ∧ W.cell? ⟨w.heap.size + 1, 1, none⟩ = some (.slice b2 CB l2)) ∧ (W.cell? ⟨w.heap.size + 2, 0, none⟩ = some (.int .i64 z0) ∧ W.cell? ⟨w.heap.size + 2, 1, none⟩ = some (.int .i64 z1) ∧ W.cell? ⟨w.heap.size + 2, 2, none⟩ = some (.slice e2 BC m2)) ∧ (W.cell? ⟨w.heap.size + 3, 0, none⟩ = some (.int .i64 y0) ∧ W.cell? ⟨w.heap.size + 3, 1, none⟩ = some (.int .i64 y1) ∧ W.cell? ⟨w.heap.size + 3, 2, none⟩ = some (.slice f2 BD o2))) → Calls Try.prog 18 #[.agg #[.int .i64 z0, .int .i64 z1, .slice e2 BC m2], .agg #[.int .i64 y0, .int .i64 y1, .slice f2 BD o2]] W fun e w' => e = .returned (.int .i64 (cmpC (cmpA (n + 1)) c d)) ∧ Below w3.heap.size w3 w') := by
    rintro W ⟨h, -⟩
    exact (rcell_any (n + 1) (rcmp_any (n + 1)) c d _ _ W _ _ _ _ _ _ (HC.out W (KW W h)) (HD.out W (KW W h))).mono fun e w' ⟨he, hb⟩ => ⟨he, h.trans (hb.mono h.size)⟩
  have C5 : Hid (∀ W, (Below w3.heap.size w3 W ∧ (W.cell? ⟨w.heap.size, 0, none⟩ = some (.slice a1 SA k1) ∧ W.cell? ⟨w.heap.size, 1, none⟩ = some (.slice a2 CA k2)) ∧ (W.cell? ⟨w.heap.size + 1, 0, none⟩ = some (.slice b1 SB l1) ∧ W.cell? ⟨w.heap.size + 1, 1, none⟩ = some (.slice b2 CB l2)) ∧ (W.cell? ⟨w.heap.size + 2, 0, none⟩ = some (.int .i64 z0) ∧ W.cell? ⟨w.heap.size + 2, 1, none⟩ = some (.int .i64 z1) ∧ W.cell? ⟨w.heap.size + 2, 2, none⟩ = some (.slice e2 BC m2)) ∧ (W.cell? ⟨w.heap.size + 3, 0, none⟩ = some (.int .i64 y0) ∧ W.cell? ⟨w.heap.size + 3, 1, none⟩ = some (.int .i64 y1) ∧ W.cell? ⟨w.heap.size + 3, 2, none⟩ = some (.slice f2 BD o2))) → Calls Try.prog 19 #[.agg #[.slice a1 SA k1, .slice a2 CA k2], .agg #[.slice b1 SB l1, .slice b2 CB l2]] W fun e w' => e = .returned (.bool (decide (cmpA (n + 1) x y = 0))) ∧ Below w3.heap.size w3 w') := by
    rintro W ⟨h, -⟩
    exact (same_any (HX.out W (KW W h)) (HY.out W (KW W h))).mono fun e w' ⟨he, hb⟩ => ⟨he, h.trans (hb.mono h.size)⟩
  have C6 : Hid (∀ W, (Below w3.heap.size w3 W ∧ (W.cell? ⟨w.heap.size, 0, none⟩ = some (.slice a1 SA k1) ∧ W.cell? ⟨w.heap.size, 1, none⟩ = some (.slice a2 CA k2)) ∧ (W.cell? ⟨w.heap.size + 1, 0, none⟩ = some (.slice b1 SB l1) ∧ W.cell? ⟨w.heap.size + 1, 1, none⟩ = some (.slice b2 CB l2)) ∧ (W.cell? ⟨w.heap.size + 2, 0, none⟩ = some (.int .i64 z0) ∧ W.cell? ⟨w.heap.size + 2, 1, none⟩ = some (.int .i64 z1) ∧ W.cell? ⟨w.heap.size + 2, 2, none⟩ = some (.slice e2 BC m2)) ∧ (W.cell? ⟨w.heap.size + 3, 0, none⟩ = some (.int .i64 y0) ∧ W.cell? ⟨w.heap.size + 3, 1, none⟩ = some (.int .i64 y1) ∧ W.cell? ⟨w.heap.size + 3, 2, none⟩ = some (.slice f2 BD o2))) → Calls Try.prog 20 #[.agg #[.slice a1 SA k1, .slice a2 CA k2], .agg #[.slice b1 SB l1, .slice b2 CB l2]] W fun e w' => e = .returned (.bool (decide (cmpA (n + 1) x y = 0))) ∧ Below w3.heap.size w3 w') := by
    rintro W ⟨h, -⟩
    exact (rsame_any (HX.out W (KW W h)) (HY.out W (KW W h))).mono fun e w' ⟨he, hb⟩ => ⟨he, h.trans (hb.mono h.size)⟩
  have C7 : Hid (∀ W, (Below w3.heap.size w3 W ∧ (W.cell? ⟨w.heap.size, 0, none⟩ = some (.slice a1 SA k1) ∧ W.cell? ⟨w.heap.size, 1, none⟩ = some (.slice a2 CA k2)) ∧ (W.cell? ⟨w.heap.size + 1, 0, none⟩ = some (.slice b1 SB l1) ∧ W.cell? ⟨w.heap.size + 1, 1, none⟩ = some (.slice b2 CB l2)) ∧ (W.cell? ⟨w.heap.size + 2, 0, none⟩ = some (.int .i64 z0) ∧ W.cell? ⟨w.heap.size + 2, 1, none⟩ = some (.int .i64 z1) ∧ W.cell? ⟨w.heap.size + 2, 2, none⟩ = some (.slice e2 BC m2)) ∧ (W.cell? ⟨w.heap.size + 3, 0, none⟩ = some (.int .i64 y0) ∧ W.cell? ⟨w.heap.size + 3, 1, none⟩ = some (.int .i64 y1) ∧ W.cell? ⟨w.heap.size + 3, 2, none⟩ = some (.slice f2 BD o2))) → Calls Try.prog 10 #[] W fun e w' => e = .returned (.bool true) ∧ Below w3.heap.size w3 w') := by
    rintro W ⟨h, -⟩
    exact (works_any W).mono fun e w' ⟨he, hb⟩ => ⟨he, h.trans (hb.mono h.size)⟩
  have HRR : Hid (Below w3.heap.size w3 w3.drew) := (Below.refl _ _).drew
  generalize decide (cmpA (n + 1) x y = 0) = Z at *
  generalize cmpA (n + 1) x y = E at *
  generalize cmpC (cmpA (n + 1)) c d = D at *
  clear HX HY HC HD HKS HB0 H3 KW
  go_wp2
  go_region_held3 (fun W => Below w3.heap.size w3 W ∧ (W.cell? ⟨w.heap.size, 0, none⟩ = some (.slice a1 SA k1) ∧ W.cell? ⟨w.heap.size, 1, none⟩ = some (.slice a2 CA k2)) ∧ (W.cell? ⟨w.heap.size + 1, 0, none⟩ = some (.slice b1 SB l1) ∧ W.cell? ⟨w.heap.size + 1, 1, none⟩ = some (.slice b2 CB l2)) ∧ (W.cell? ⟨w.heap.size + 2, 0, none⟩ = some (.int .i64 z0) ∧ W.cell? ⟨w.heap.size + 2, 1, none⟩ = some (.int .i64 z1) ∧ W.cell? ⟨w.heap.size + 2, 2, none⟩ = some (.slice e2 BC m2)) ∧ (W.cell? ⟨w.heap.size + 3, 0, none⟩ = some (.int .i64 y0) ∧ W.cell? ⟨w.heap.size + 3, 1, none⟩ = some (.int .i64 y1) ∧ W.cell? ⟨w.heap.size + 3, 2, none⟩ = some (.slice f2 BD o2)))
    (first | exact KS.out _ HRR.out | exact KS.out _ (by assumption))
    (first
      | (go_at_call 15; refine (C1.out _ (by assumption)).mono ?_; rintro e x1 ⟨rfl, hx1⟩)
      | (go_at_call 16; refine (C2.out _ (by assumption)).mono ?_; rintro e x2 ⟨rfl, hx2⟩)
      | (go_at_call 17; refine (C3.out _ (by assumption)).mono ?_; rintro e x3 ⟨rfl, hx3⟩)
      | (go_at_call 18; refine (C4.out _ (by assumption)).mono ?_; rintro e x4 ⟨rfl, hx4⟩)
      | (go_at_call 19; refine (C5.out _ (by assumption)).mono ?_; rintro e x5 ⟨rfl, hx5⟩)
      | (go_at_call 20; refine (C6.out _ (by assumption)).mono ?_; rintro e x6 ⟨rfl, hx6⟩)
      | (go_at_call 10; refine (C7.out _ (by assumption)).mono ?_; rintro e x7 ⟨rfl, hx7⟩))
  go_wp2
  go_ret
  exact ⟨rfl, HB3.out.trans (hx7.mono HB3.out.size)⟩
theorem walk (n0 : Nat) (x : Ar) (c0 c1 : Value) (n1 : Nat) (y : Ar) (p0 p1 : Value) (n2 : Nat) (c : Ce) (r0 r1 r2 : Value) (n3 : Nat) (d : Ce) (t0 t1 t2 : Value) (w : World) (hx : ArIn n0 0 w x (.agg #[c0, c1])) (hy : ArIn n1 0 w y (.agg #[p0, p1])) (hc : CeIn (ArIn n2 0 w) 0 w c r0 r1 r2) (hd : CeIn (ArIn n3 0 w) 0 w d t0 t1 t2) :
    Calls Try.prog 4 #[.agg #[c0, c1], .agg #[p0, p1], .agg #[r0, r1, r2], .agg #[t0, t1, t2]] w fun e w' => e = .returned (.bool true) ∧ Below w.heap.size w w' :=
  walk1 (n0 + n1 + n2 + n3) x y c d c0 c1 p0 p1 r0 r1 r2 t0 t1 t2 w (hx.deep (by omega)) (hy.deep (by omega)) (hc.deeper fun x v h => h.deep (by omega)) (hd.deeper fun x v h => h.deep (by omega))
set_option maxRecDepth 100000 in
theorem lifted (os : Os) (started : os.Started) (H : Type) (enc : TypeId × Value → H) :
    ReturnsInHanded {} Try.checked os 4 .any (Rows.arrOrdersSpec.pre6 enc Try.prog Try.f4 Rows.arrOrdersRow.domain false) (Rows.arrOrdersSpec.post enc Try.prog Try.f4 false true false false) := by
  refine returnsInHanded_of_change_sized (C := Try.checked) own started (by kernel_rfl) Try.func4
    (ChangeSpec.witness6 (enc := enc) (C := Try.checked) false ⟨#[], #[.agg #[.slice none 0 0, .slice none 0 0], .agg #[.slice none 0 0, .slice none 0 0], .agg #[.int .i64 0, .int .i64 0, .slice none 0 0], .agg #[.int .i64 0, .int .i64 0, .slice none 0 0]], []⟩ 8 (by kernel_rfl) (by kernel_rfl) (by kernel_rfl) (by kernel_rfl)) ?_
  intro W base args ds gs before hval0 hW _ hsz0 _
  have hsz : (DataW.weightsEach Try.prog (Try.f4.params.toList ++ Rows.arrOrdersSpec.plain.varTypes Try.prog) (ds ++ gs)).all (· ≤ reachBytes) = true := hsz0
  clear hsz0
  have hval : ∀ (j : Nat) t v, Try.f4.params[j]? = some t → args[j]? = some v → Value.okWide Try.prog W .any base t v := hval0
  have hW' := hW
  obtain ⟨p, q, hA0, hV, rfl, hfz, hnd⟩ := hW
  have hA : DataW.TrodAll enc Try.prog W 0 (fun _ => true) true Try.f4.params.toList args.toList ds p := hA0
  rw [Try.params4] at hA hval hsz
  obtain ⟨v0, vs0, d0, ds0, p0, q0, hargs, rfl, rfl, h0, r0⟩ := trodAll_cons hA
  obtain ⟨v1, vs1, d1, ds1, p1, q1, rfl, rfl, rfl, h1, r1⟩ := trodAll_cons r0
  obtain ⟨v2, vs2, d2, ds2, p2, q2, rfl, rfl, rfl, h2, r2⟩ := trodAll_cons r1
  obtain ⟨v3, vs3, d3, ds3, p3, q3, rfl, rfl, rfl, h3, r3⟩ := trodAll_cons r2
  obtain ⟨rfl, rfl, rfl⟩ := trodAll_nil r3
  obtain rfl : args = #[v0, v1, v2, v3] := by cases args; simp_all
  obtain ⟨rfl, rfl⟩ := trodVars_none hV
  have k0 := h0
  have lt0 : ∀ x ∈ p0, x.block < W.heap.size := by obtain ⟨m, hm⟩ := k0; exact DataW.trod_lt m _ _ _ hm
  obtain ⟨n0, y0, c00, c01, hc0, w0⟩ := arr_of hsz (j := 0) rfl rfl h0
  obtain rfl := agg_two hc0
  have k1 := h1
  have lt1 : ∀ x ∈ p1, x.block < W.heap.size := by obtain ⟨m, hm⟩ := k1; exact DataW.trod_lt m _ _ _ hm
  obtain ⟨n1, y1, c10, c11, hc1, w1⟩ := arr_of hsz (j := 1) rfl rfl h1
  obtain rfl := agg_two hc1
  have k2 := h2
  have lt2 : ∀ x ∈ p2, x.block < W.heap.size := by obtain ⟨m, hm⟩ := k2; exact DataW.trod_lt m _ _ _ hm
  obtain ⟨n2, y2, c20, c21, c22, hc2, w2⟩ := cell_of hsz (j := 2) rfl rfl h2
  obtain rfl := agg_three hc2
  have k3 := h3
  have lt3 : ∀ x ∈ p3, x.block < W.heap.size := by obtain ⟨m, hm⟩ := k3; exact DataW.trod_lt m _ _ _ hm
  obtain ⟨n3, y3, c30, c31, c32, hc3, w3⟩ := cell_of hsz (j := 3) rfl rfl h3
  obtain rfl := agg_three hc3
  clear hA0 hval0
  refine (walk n0 y0 c00 c01 n1 y1 c10 c11 n2 y2 c20 c21 c22 n3 y3 c30 c31 c32 W w0 w1 w2 w3).mono fun e W' ⟨he, bel⟩ => ?_
  subst he
  exact ⟨_, rfl, _, _, _, [], _, [], hW', trodAll_mk1 (shut_bool Try.underlying4 _), (trodAll_cons_mk (Below.trod laidOut (by kernel_rfl) (of_decide_eq_true (by kernel_rfl)) k0 bel lt0) (trodAll_cons_mk (Below.trod laidOut (by kernel_rfl) (of_decide_eq_true (by kernel_rfl)) k1 bel lt1) (trodAll_cons_mk (Below.trod laidOut (by kernel_rfl) (of_decide_eq_true (by kernel_rfl)) k2 bel lt2) (trodAll_cons_mk (Below.trod laidOut (by kernel_rfl) (of_decide_eq_true (by kernel_rfl)) k3 bel lt3) trodAll_mk0)))), rfl, bel.frame _, fun h => by cases h⟩
theorem over : Rows.arrOrdersRow.holds Try.pinned (OpenSpec.ofChange Rows.arrOrdersSpec) :=
  OpenClaim.holds_of_wide 4 Try.f4 rfl rfl rfl rfl rfl rfl rfl ⟨rfl, rfl, rfl, rfl, rfl⟩ rfl rfl rfl rfl rfl (by kernel_rfl) Try.func4 (by kernel_rfl)
    (of_decide_eq_true (by kernel_rfl)) (by unfold Func.isWrapper; first | (rw [if_pos (by decide +kernel)]; kernel_rfl) | (rw [if_neg (by decide +kernel)]; exact ⟨rfl, rfl⟩))
    (fun os started H enc _ => lifted os started H enc)
theorem proved : Rows.ArrOrdersSaid := over
end Go.Proofs.Ytednaamfgobkoaa.arrOrders
namespace Go.Proofs.Ytednaamfgobkoaa
theorem arrOrders_holds : Rows.ArrOrdersSaid := arrOrders.proved
#print axioms arrOrders_holds
end Go.Proofs.Ytednaamfgobkoaa
