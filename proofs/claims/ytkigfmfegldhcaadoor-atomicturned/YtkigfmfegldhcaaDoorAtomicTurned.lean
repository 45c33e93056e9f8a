/-
  For all int and all two arrays the statement AtomicTurned holds: with the arguments exchanged sums, products, lesser, greater, equal and unlike are the same, less is greater, at most is at least; no condition (the given row speaks of what a machine of 64 bits can hold, and of the table of layer 4 as its text lays it).
-/
import Derived.Test.YtkigfmfegldhcaaDoorAtK
import Derived.Test.YtkigfmfegldhcaaDoorAtC
namespace Go.Proofs.YtkigfmfegldhcaaDoor.atomicTurned
open Go.ChangeShapes Go.WideShapes Go.ChangeAt Go.RowKit
open Num (resV resE In64 sgnI absI)
set_option linter.unusedVariables false
/-- The function that is another one's with the arguments exchanged. -/
def Turns (op oth : Int) : Prop := (op = oth ∧ (op = 21 ∨ op = 23 ∨ op = 24 ∨ op = 25 ∨ op = 27 ∨ op = 28)) ∨ (op = 29 ∧ oth = 30) ∨ (op = 30 ∧ oth = 29) ∨ (op = 31 ∧ oth = 32) ∨ (op = 32 ∧ oth = 31)
theorem eqE_sym (c d : Ce) : eqE c d = eqE d c := by unfold eqE; simp only [or_comm]
theorem eqV_sym (op : Int) (c d : Ce) : eqV op c d = eqV op d c := by
  unfold eqV
  have e : (c.1 = d.1 ∧ c.2.1 = d.2.1) ↔ (d.1 = c.1 ∧ d.2.1 = c.2.1) := ⟨fun h => ⟨h.1.symm, h.2.symm⟩, fun h => ⟨h.1.symm, h.2.symm⟩⟩
  simp only [or_comm (a := c.1 = 2), decide_eq_decide.2 e]
theorem two_sym {op oth a b : Int} (h : Turns op oth) (h1 : op ≠ 27) (h2 : op ≠ 28) : twoE op a b = twoE oth b a ∧ twoV op a b = twoV oth b a := by
  rcases h with ⟨rfl, h | h | h | h | h | h⟩ | ⟨rfl, rfl⟩ | ⟨rfl, rfl⟩ | ⟨rfl, rfl⟩ | ⟨rfl, rfl⟩
  · subst h; simp [twoE, twoV, Int.add_comm]
  · subst h; simp [twoE, twoV, Int.mul_comm]
  · subst h; simp [twoE, twoV, Int.min_comm]
  · subst h; simp [twoE, twoV, Int.max_comm]
  · exact absurd h h1
  · exact absurd h h2
  · simp [twoE, twoV]
  · simp [twoE, twoV]
  · simp [twoE, twoV]
  · simp [twoE, twoV]
theorem turns_op {op oth : Int} (h : Turns op oth) : isOp op = true ∧ isOp oth = true ∧ op ≠ 54 ∧ oth ≠ 54 ∧ (op = 27 ∨ op = 28 → oth = op) ∧ (oth = 27 ∨ oth = 28 → op = oth) := by
  rcases h with ⟨rfl, h | h | h | h | h | h⟩ | ⟨rfl, rfl⟩ | ⟨rfl, rfl⟩ | ⟨rfl, rfl⟩ | ⟨rfl, rfl⟩ <;> (try subst h) <;> decide
theorem c2_sym {op oth : Int} (h : Turns op oth) (c d : Ce) : c2E op c d = c2E oth d c ∧ c2V op c d = c2V oth d c := by
  obtain ⟨h1, h2, -, -, h5, h6⟩ := turns_op h
  have eE : ∀ (o : Int) (c d : Ce), isOp o = true → c2E o c d = if o = 27 ∨ o = 28 then eqE c d else if c.1 = 0 ∧ d.1 = 0 then twoE o c.2.1 d.2.1 else 5 := fun o c d h => by simp [c2E, h]
  have eV : ∀ (o : Int) (c d : Ce), isOp o = true → c2V o c d = if o = 27 ∨ o = 28 then eqV o c d else if c.1 = 0 ∧ d.1 = 0 then twoV o c.2.1 d.2.1 else 0 := fun o c d h => by simp [c2V, h]
  rw [eE op c d h1, eE oth d c h2, eV op c d h1, eV oth d c h2]
  by_cases he : op = 27 ∨ op = 28
  · have e := h5 he
    subst e
    simp only [if_pos he]
    exact ⟨eqE_sym c d, eqV_sym _ c d⟩
  · have he' : ¬ (oth = 27 ∨ oth = 28) := fun k => he (by rw [h6 k]; exact k)
    simp only [if_neg he, if_neg he']
    by_cases hk : c.1 = 0 ∧ d.1 = 0
    · simp only [if_pos hk, if_pos hk.symm]
      exact two_sym h (fun k => he (Or.inl k)) (fun k => he (Or.inr k))
    · have hk' : ¬ (d.1 = 0 ∧ c.1 = 0) := fun k => hk k.symm
      simp only [if_neg hk, if_neg hk']
      exact ⟨trivial, trivial⟩
theorem dyN_sym {x y : Ar} (h : chkA 8 x = 0) (h2 : chkA 8 y = 0) (ha : agrE x.shape y.shape = 0) : dyN x y = dyN y x := by
  unfold dyN
  by_cases hx : x.shape = []
  · rw [if_pos hx]
    by_cases hy : y.shape = []
    · rw [if_pos hy]
      have := chk_atomic h hx
      have := chk_atomic h2 hy
      omega
    · rw [if_neg hy]
  · rw [if_neg hx]
    by_cases hy : y.shape = []
    · rw [if_pos hy]
    · rw [if_neg hy]
      have e := agr_ok ha hx hy
      have s1 := (chk_size h).2
      have s2 := (chk_size h2).2
      rw [e] at s1
      omega
theorem dy_sym {op oth : Int} (h : Turns op oth) {x y : Ar} (hx : chkA 8 x = 0) (hy : chkA 8 y = 0) : dyE oth y x = dyE op x y ∧ dyA oth y x = dyA op x y := by
  obtain ⟨h1, h2, h3, h4, -, -⟩ := turns_op h
  have hs := agr_sym x.shape y.shape
  by_cases ha : agrE x.shape y.shape = 0
  · have ha' : agrE y.shape x.shape = 0 := by rw [← hs.1]; exact ha
    have e : dyE oth y x = dyE op x y := by
      rw [dy_do hx hy h3 h1 ha, dy_do hy hx h4 h2 ha', dyN_sym hx hy ha]
      exact firstUp_congr fun i _ => (c2_sym h _ _).1.symm
    refine ⟨e, ?_⟩
    unfold dyA
    rw [e, hs.2]
    have : dyL oth y x = dyL op x y := by
      unfold dyL
      rw [dyN_sym hx hy ha]
      exact List.map_congr_left fun i _ => (c2_sym h _ _).2.symm
    rw [this]
  · have ha' : ¬ agrE y.shape x.shape = 0 := by rw [← hs.1]; exact ha
    obtain ⟨e1, e2⟩ := dy_agr hx hy h3 h1 ha
    obtain ⟨e3, e4⟩ := dy_agr hy hx h4 h2 ha'
    rw [e1, e2, e3, e4, hs.1]
    exact ⟨rfl, rfl⟩
set_option maxRecDepth 20000 in
set_option maxHeartbeats 16000000 in
theorem walk1 (op : Int) (n : Nat) (x y : Ar) (c0 c1 p0 p1 : Value) (w : World) (T : Tab w) (hx : ArIn (n + 1) 0 w x (.agg #[c0, c1])) (sx : Snd x) (hy : ArIn (n + 1) 0 w y (.agg #[p0, p1])) (sy : Snd y) :
    Calls Tryd.prog 7 #[.int .i64 op, .agg #[c0, c1], .agg #[p0, p1]] w fun e w' => e = .returned (.bool true) ∧ Below w.heap.size w w' := by
  have hx' := hx
  have hy' := hy
  obtain ⟨a1, k1, a2, k2, hv, -⟩ := hx'
  simp only [Value.agg.injEq, Array.mk.injEq, List.cons.injEq, and_true] at hv
  obtain ⟨rfl, rfl⟩ := hv
  obtain ⟨b1, l1, b2, l2, hv, -⟩ := hy'
  simp only [Value.agg.injEq, Array.mk.injEq, List.cons.injEq, and_true] at hv
  obtain ⟨rfl, rfl⟩ := hv
  obtain ⟨W0, eW⟩ : ∃ W0, W0 = (w.alloc (.cells #[.slice a1 x.shape.length k1, .slice a2 x.cells.length k2] 25)).alloc (.cells #[.slice b1 y.shape.length l1, .slice b2 y.cells.length l2] 25) := ⟨_, rfl⟩
  have B0 : Below w.heap.size w W0 := by rw [eW]; exact two_allocs _ _ _
  have s0 : W0.heap.size = w.heap.size + 2 := by rw [eW]; exact size_two _ _ _
  have KS : Hid (∀ W, Below W0.heap.size W0 W → (W.cell? ⟨w.heap.size, 0, none⟩ = some (.slice a1 x.shape.length k1) ∧ W.cell? ⟨w.heap.size, 1, none⟩ = some (.slice a2 x.cells.length k2)) ∧ W.cell? ⟨w.heap.size + 1, 0, none⟩ = some (.slice b1 y.shape.length l1) ∧ W.cell? ⟨w.heap.size + 1, 1, none⟩ = some (.slice b2 y.cells.length l2)) := by
    intro W h
    have t1 : ∀ i v, #[Value.slice a1 x.shape.length k1, .slice a2 x.cells.length k2][i]? = some v → W.cell? ⟨w.heap.size, i, none⟩ = some v := fun i v hv => (h.cell (p := ⟨w.heap.size, i, none⟩) (by show w.heap.size < _; omega)).trans (by rw [eW]; exact cell_new1 w _ 25 (0, 0) _ i _ hv)
    have t2 : ∀ i v, #[Value.slice b1 y.shape.length l1, .slice b2 y.cells.length l2][i]? = some v → W.cell? ⟨w.heap.size + 1, i, none⟩ = some v := fun i v hv => (h.cell (p := ⟨w.heap.size + 1, i, none⟩) (by show w.heap.size + 1 < _; omega)).trans (by rw [eW]; exact cell_new2 w _ 25 (0, 0) _ i _ hv)
    exact ⟨⟨t1 0 _ rfl, t1 1 _ rfl⟩, t2 0 _ rfl, t2 1 _ rfl⟩
  have HX : Hid (∀ W, Below w.heap.size w W → ArIn (n + 1) 0 W x (.agg #[.slice a1 x.shape.length k1, .slice a2 x.cells.length k2])) := fun W h => hx.next h
  have HY : Hid (∀ W, Below w.heap.size w W → ArIn (n + 1) 0 W y (.agg #[.slice b1 y.shape.length l1, .slice b2 y.cells.length l2])) := fun W h => hy.next h
  have HT := hide (fun W (h : Below w.heap.size w W) => T.next h)
  have HB := hide (fun W (h : Below W0.heap.size W0 W) => B0.trans (h.mono B0.size))
  have HSX := hide sx
  have HSY := hide sy
  clear hx hy T B0 s0 sx sy
  generalize x.shape.length = SA at *
  generalize x.cells.length = CA at *
  generalize y.shape.length = SB at *
  generalize y.cells.length = CB at *
  go_enter Tryd.func7, Tryd.ntmps7
  go_wp2_with fail
  rw [← eW]
  clear eW
  have J := Below.refl W0.heap.size W0
  refine (light_any (HX.out _ (HB.out _ J))).mono ?_
  rintro e t0 ⟨⟨r, rfl, -⟩, hb⟩
  replace J := J.trans (hb.mono J.size)
  clear hb
  cases r with
  | false =>
    have B := HB.out _ J
    clear HX HY KS HB
    go_wp2_with fail
    refine (works_any _ (HT.out _ B)).mono ?_
    rintro e w9 ⟨rfl, hb9⟩
    go_wp2
    go_ret
    exact ⟨rfl, B.trans (hb9.mono B.size)⟩
  | true =>
  obtain ⟨⟨q0, q1⟩, q2, q3⟩ := KS.out _ J
  go_wp2_with fail
  clear q0 q1 q2 q3
  refine (light_any (HY.out _ (HB.out _ J))).mono ?_
  rintro e t1 ⟨⟨r, rfl, -⟩, hb⟩
  replace J := J.trans (hb.mono J.size)
  clear hb
  cases r with
  | false =>
    have B := HB.out _ J
    clear HX HY KS HB
    go_wp2_with fail
    refine (works_any _ (HT.out _ B)).mono ?_
    rintro e w9 ⟨rfl, hb9⟩
    go_wp2
    go_ret
    exact ⟨rfl, B.trans (hb9.mono B.size)⟩
  | true =>
  obtain ⟨⟨q0, q1⟩, q2, q3⟩ := KS.out _ J
  have C := rcheck_any (n + 1) x _ _ _ (HX.out _ (HB.out _ J))
  by_cases hk2 : chkA 8 x = 0
  case neg =>
    generalize chkA 8 x = E at *
    have hE : (E == 0) = false := beq_eq_false_iff_ne.2 hk2
    go_wp2_with fail
    clear q0 q1 q2 q3
    refine C.mono ?_
    rintro e t2 ⟨rfl, hb⟩
    replace J := J.trans (hb.mono J.size)
    clear hb C
    have B := HB.out _ J
    clear HX HY KS HB
    go_wp2_with fail
    refine (works_any _ (HT.out _ B)).mono ?_
    rintro e w9 ⟨rfl, hb9⟩
    go_wp2
    go_ret
    exact ⟨rfl, B.trans (hb9.mono B.size)⟩
  case pos =>
  rw [hk2] at C
  go_wp2_with fail
  clear q0 q1 q2 q3
  refine C.mono ?_
  rintro e t2 ⟨rfl, hb⟩
  replace J := J.trans (hb.mono J.size)
  clear hb C
  obtain ⟨⟨q0, q1⟩, q2, q3⟩ := KS.out _ J
  have C := rcheck_any (n + 1) y _ _ _ (HY.out _ (HB.out _ J))
  by_cases hk3 : chkA 8 y = 0
  case neg =>
    generalize chkA 8 y = E at *
    have hE : (E == 0) = false := beq_eq_false_iff_ne.2 hk3
    go_wp2_with fail
    clear q0 q1 q2 q3
    refine C.mono ?_
    rintro e t3 ⟨rfl, hb⟩
    replace J := J.trans (hb.mono J.size)
    clear hb C
    have B := HB.out _ J
    clear HX HY KS HB
    go_wp2_with fail
    refine (works_any _ (HT.out _ B)).mono ?_
    rintro e w9 ⟨rfl, hb9⟩
    go_wp2
    go_ret
    exact ⟨rfl, B.trans (hb9.mono B.size)⟩
  case pos =>
  rw [hk3] at C
  go_wp2_with fail
  clear q0 q1 q2 q3
  refine C.mono ?_
  rintro e t3 ⟨rfl, hb⟩
  replace J := J.trans (hb.mono J.size)
  clear hb C
  have HD : Hid (∀ oth, Turns op oth → ∀ W, Below W0.heap.size W0 W → Calls Tryd.prog 18 #[.int .i64 oth, .agg #[.slice b1 SB l1, .slice b2 CB l2], .agg #[.slice a1 SA k1, .slice a2 CA k2]] W fun e w' => (∃ g1 m1 g2 m2 g3 m3, e = .returned (.tuple #[.agg #[.slice g1 m1 g2, .slice m2 g3 m3], .int .i64 (dyE op x y)]) ∧ ∀ W', Below w'.heap.size w' W' → ArIn 1 0 W' (dyA op x y) (.agg #[.slice g1 m1 g2, .slice m2 g3 m3])) ∧ Below W.heap.size W w') := by
    intro oth ht W h
    have := dy_any 0 (n + 1) (n + 1) 0 0 oth y x _ _ W (HT.out _ (HB.out _ h)) (HY.out _ (HB.out _ h)) (HX.out _ (HB.out _ h)) HSY.out HSX.out
    rw [(dy_sym ht hk2 hk3).1, (dy_sym ht hk2 hk3).2] at this
    refine this.mono ?_
    rintro e w' ⟨⟨v, rfl, hv⟩, hb⟩
    obtain ⟨g1, g2, m2, m3, rfl⟩ := hv.form
    exact ⟨⟨_, _, _, _, _, _, rfl, fun W' hW => hv.mono (Nat.zero_le _) hW⟩, hb⟩
  have HC : Hid (∀ W, Below W0.heap.size W0 W → Calls Tryd.prog 18 #[.int .i64 op, .agg #[.slice a1 SA k1, .slice a2 CA k2], .agg #[.slice b1 SB l1, .slice b2 CB l2]] W fun e w' => (∃ g1 m1 g2 m2 g3 m3, e = .returned (.tuple #[.agg #[.slice g1 m1 g2, .slice m2 g3 m3], .int .i64 (dyE op x y)]) ∧ ∀ W', Below w'.heap.size w' W' → ArIn 1 0 W' (dyA op x y) (.agg #[.slice g1 m1 g2, .slice m2 g3 m3])) ∧ Below W.heap.size W w') := by
    intro W h
    refine (dy_any 0 (n + 1) (n + 1) 0 0 op x y _ _ W (HT.out _ (HB.out _ h)) (HX.out _ (HB.out _ h)) (HY.out _ (HB.out _ h)) HSX.out HSY.out).mono ?_
    rintro e w' ⟨⟨v, rfl, hv⟩, hb⟩
    obtain ⟨g1, g2, m2, m3, rfl⟩ := hv.form
    exact ⟨⟨_, _, _, _, _, _, rfl, fun W' hW => hv.mono (Nat.zero_le _) hW⟩, hb⟩
  generalize dyE op x y = E at *
  generalize dyA op x y = RA at *
  clear HX HY HSX HSY hk2 hk3
  have hop : op = 21 ∨ op = 23 ∨ op = 24 ∨ op = 25 ∨ op = 27 ∨ op = 28 ∨ op = 29 ∨ op = 30 ∨ op = 31 ∨ op = 32 ∨ ¬ (op = 21 ∨ op = 23 ∨ op = 24 ∨ op = 25 ∨ op = 27 ∨ op = 28 ∨ op = 29 ∨ op = 30 ∨ op = 31 ∨ op = 32) := by omega
  rcases hop with rfl | rfl | rfl | rfl | rfl | rfl | rfl | rfl | rfl | rfl | hop
  · replace HD := hide (fun W h => HD.out 21 (by unfold Turns; decide) W h)
    obtain ⟨⟨q0, q1⟩, q2, q3⟩ := KS.out _ J
    go_wp2_with fail
    clear q0 q1 q2 q3
    refine (HC.out _ J).mono ?_
    rintro e w4 ⟨⟨g1, m1, g2, m2, g3, m3, rfl, hv4⟩, hb4⟩
    obtain ⟨W5, e5⟩ : ∃ W5, W5 = w4.alloc (.cells #[.slice g1 m1 g2, .slice m2 g3 m3] 25) := ⟨_, rfl⟩
    have b5 : Below w4.heap.size w4 W5 := by rw [e5]; exact one_alloc _ _
    have s5 : W5.heap.size = w4.heap.size + 1 := by rw [e5]; simp
    have J4 := J.trans (hb4.mono J.size)
    have J5 := J4.trans (b5.mono J4.size)
    have HP : Hid (∀ W, Below W5.heap.size W5 W → W.cell? ⟨w4.heap.size, 0, none⟩ = some (.slice g1 m1 g2) ∧ W.cell? ⟨w4.heap.size, 1, none⟩ = some (.slice m2 g3 m3)) := by
      intro W h
      have t1 : ∀ i v, #[Value.slice g1 m1 g2, .slice m2 g3 m3][i]? = some v → W.cell? ⟨w4.heap.size, i, none⟩ = some v := fun i v hv => (h.cell (p := ⟨w4.heap.size, i, none⟩) (by show w4.heap.size < _; omega)).trans (by rw [e5]; exact cell_new0 w4 _ 25 i _ hv)
      exact ⟨t1 0 _ rfl, t1 1 _ rfl⟩
    obtain ⟨⟨q0, q1⟩, q2, q3⟩ := KS.out _ J5
    rw [e5] at q0 q1 q2 q3
    go_wp2_with fail
    rw [← e5]
    clear q0 q1 q2 q3 e5 s5
    refine (HD.out _ J5).mono ?_
    rintro e w6 ⟨⟨h1, i1, h2, i2, h3, i3, rfl, hv6⟩, hb6⟩
    have n6 := one_alloc w6 (.cells #[.slice h1 i1 h2, .slice i2 h3 i3] 25)
    have hb67 := hb6.trans (n6.mono hb6.size)
    obtain ⟨x0, x1⟩ := HP.out _ hb67
    have C5 := rsame_any (hv4 _ (b5.trans (hb67.mono b5.size))) (hv6 _ n6)
    rw [decide_eq_true (cmpA_self 1 RA)] at C5
    have HC5 := hide C5
    have HB7 := hide (HB.out _ (J5.trans (hb67.mono J5.size)))
    clear C5 HP hv4 hv6 n6 hb67 hb6 b5 hb4 J4 J5 J KS HC HD HB
    go_wp2_with fail
    clear x0 x1
    refine HC5.out.mono ?_
    rintro e w8 ⟨rfl, hb8⟩
    have B8 := HB7.out.trans (hb8.mono HB7.out.size)
    have T8 := HT.out _ B8
    clear HT HC5
    go_wp2_with fail
    refine (works_any _ T8).mono ?_
    rintro e w9 ⟨rfl, hb9⟩
    go_wp2
    go_ret
    exact ⟨rfl, B8.trans (hb9.mono B8.size)⟩
  · replace HD := hide (fun W h => HD.out 23 (by unfold Turns; decide) W h)
    obtain ⟨⟨q0, q1⟩, q2, q3⟩ := KS.out _ J
    go_wp2_with fail
    clear q0 q1 q2 q3
    refine (HC.out _ J).mono ?_
    rintro e w4 ⟨⟨g1, m1, g2, m2, g3, m3, rfl, hv4⟩, hb4⟩
    obtain ⟨W5, e5⟩ : ∃ W5, W5 = w4.alloc (.cells #[.slice g1 m1 g2, .slice m2 g3 m3] 25) := ⟨_, rfl⟩
    have b5 : Below w4.heap.size w4 W5 := by rw [e5]; exact one_alloc _ _
    have s5 : W5.heap.size = w4.heap.size + 1 := by rw [e5]; simp
    have J4 := J.trans (hb4.mono J.size)
    have J5 := J4.trans (b5.mono J4.size)
    have HP : Hid (∀ W, Below W5.heap.size W5 W → W.cell? ⟨w4.heap.size, 0, none⟩ = some (.slice g1 m1 g2) ∧ W.cell? ⟨w4.heap.size, 1, none⟩ = some (.slice m2 g3 m3)) := by
      intro W h
      have t1 : ∀ i v, #[Value.slice g1 m1 g2, .slice m2 g3 m3][i]? = some v → W.cell? ⟨w4.heap.size, i, none⟩ = some v := fun i v hv => (h.cell (p := ⟨w4.heap.size, i, none⟩) (by show w4.heap.size < _; omega)).trans (by rw [e5]; exact cell_new0 w4 _ 25 i _ hv)
      exact ⟨t1 0 _ rfl, t1 1 _ rfl⟩
    obtain ⟨⟨q0, q1⟩, q2, q3⟩ := KS.out _ J5
    rw [e5] at q0 q1 q2 q3
    go_wp2_with fail
    rw [← e5]
    clear q0 q1 q2 q3 e5 s5
    refine (HD.out _ J5).mono ?_
    rintro e w6 ⟨⟨h1, i1, h2, i2, h3, i3, rfl, hv6⟩, hb6⟩
    have n6 := one_alloc w6 (.cells #[.slice h1 i1 h2, .slice i2 h3 i3] 25)
    have hb67 := hb6.trans (n6.mono hb6.size)
    obtain ⟨x0, x1⟩ := HP.out _ hb67
    have C5 := rsame_any (hv4 _ (b5.trans (hb67.mono b5.size))) (hv6 _ n6)
    rw [decide_eq_true (cmpA_self 1 RA)] at C5
    have HC5 := hide C5
    have HB7 := hide (HB.out _ (J5.trans (hb67.mono J5.size)))
    clear C5 HP hv4 hv6 n6 hb67 hb6 b5 hb4 J4 J5 J KS HC HD HB
    go_wp2_with fail
    clear x0 x1
    refine HC5.out.mono ?_
    rintro e w8 ⟨rfl, hb8⟩
    have B8 := HB7.out.trans (hb8.mono HB7.out.size)
    have T8 := HT.out _ B8
    clear HT HC5
    go_wp2_with fail
    refine (works_any _ T8).mono ?_
    rintro e w9 ⟨rfl, hb9⟩
    go_wp2
    go_ret
    exact ⟨rfl, B8.trans (hb9.mono B8.size)⟩
  · replace HD := hide (fun W h => HD.out 24 (by unfold Turns; decide) W h)
    obtain ⟨⟨q0, q1⟩, q2, q3⟩ := KS.out _ J
    go_wp2_with fail
    clear q0 q1 q2 q3
    refine (HC.out _ J).mono ?_
    rintro e w4 ⟨⟨g1, m1, g2, m2, g3, m3, rfl, hv4⟩, hb4⟩
    obtain ⟨W5, e5⟩ : ∃ W5, W5 = w4.alloc (.cells #[.slice g1 m1 g2, .slice m2 g3 m3] 25) := ⟨_, rfl⟩
    have b5 : Below w4.heap.size w4 W5 := by rw [e5]; exact one_alloc _ _
    have s5 : W5.heap.size = w4.heap.size + 1 := by rw [e5]; simp
    have J4 := J.trans (hb4.mono J.size)
    have J5 := J4.trans (b5.mono J4.size)
    have HP : Hid (∀ W, Below W5.heap.size W5 W → W.cell? ⟨w4.heap.size, 0, none⟩ = some (.slice g1 m1 g2) ∧ W.cell? ⟨w4.heap.size, 1, none⟩ = some (.slice m2 g3 m3)) := by
      intro W h
      have t1 : ∀ i v, #[Value.slice g1 m1 g2, .slice m2 g3 m3][i]? = some v → W.cell? ⟨w4.heap.size, i, none⟩ = some v := fun i v hv => (h.cell (p := ⟨w4.heap.size, i, none⟩) (by show w4.heap.size < _; omega)).trans (by rw [e5]; exact cell_new0 w4 _ 25 i _ hv)
      exact ⟨t1 0 _ rfl, t1 1 _ rfl⟩
    obtain ⟨⟨q0, q1⟩, q2, q3⟩ := KS.out _ J5
    rw [e5] at q0 q1 q2 q3
    go_wp2_with fail
    rw [← e5]
    clear q0 q1 q2 q3 e5 s5
    refine (HD.out _ J5).mono ?_
    rintro e w6 ⟨⟨h1, i1, h2, i2, h3, i3, rfl, hv6⟩, hb6⟩
    have n6 := one_alloc w6 (.cells #[.slice h1 i1 h2, .slice i2 h3 i3] 25)
    have hb67 := hb6.trans (n6.mono hb6.size)
    obtain ⟨x0, x1⟩ := HP.out _ hb67
    have C5 := rsame_any (hv4 _ (b5.trans (hb67.mono b5.size))) (hv6 _ n6)
    rw [decide_eq_true (cmpA_self 1 RA)] at C5
    have HC5 := hide C5
    have HB7 := hide (HB.out _ (J5.trans (hb67.mono J5.size)))
    clear C5 HP hv4 hv6 n6 hb67 hb6 b5 hb4 J4 J5 J KS HC HD HB
    go_wp2_with fail
    clear x0 x1
    refine HC5.out.mono ?_
    rintro e w8 ⟨rfl, hb8⟩
    have B8 := HB7.out.trans (hb8.mono HB7.out.size)
    have T8 := HT.out _ B8
    clear HT HC5
    go_wp2_with fail
    refine (works_any _ T8).mono ?_
    rintro e w9 ⟨rfl, hb9⟩
    go_wp2
    go_ret
    exact ⟨rfl, B8.trans (hb9.mono B8.size)⟩
  · replace HD := hide (fun W h => HD.out 25 (by unfold Turns; decide) W h)
    obtain ⟨⟨q0, q1⟩, q2, q3⟩ := KS.out _ J
    go_wp2_with fail
    clear q0 q1 q2 q3
    refine (HC.out _ J).mono ?_
    rintro e w4 ⟨⟨g1, m1, g2, m2, g3, m3, rfl, hv4⟩, hb4⟩
    obtain ⟨W5, e5⟩ : ∃ W5, W5 = w4.alloc (.cells #[.slice g1 m1 g2, .slice m2 g3 m3] 25) := ⟨_, rfl⟩
    have b5 : Below w4.heap.size w4 W5 := by rw [e5]; exact one_alloc _ _
    have s5 : W5.heap.size = w4.heap.size + 1 := by rw [e5]; simp
    have J4 := J.trans (hb4.mono J.size)
    have J5 := J4.trans (b5.mono J4.size)
    have HP : Hid (∀ W, Below W5.heap.size W5 W → W.cell? ⟨w4.heap.size, 0, none⟩ = some (.slice g1 m1 g2) ∧ W.cell? ⟨w4.heap.size, 1, none⟩ = some (.slice m2 g3 m3)) := by
      intro W h
      have t1 : ∀ i v, #[Value.slice g1 m1 g2, .slice m2 g3 m3][i]? = some v → W.cell? ⟨w4.heap.size, i, none⟩ = some v := fun i v hv => (h.cell (p := ⟨w4.heap.size, i, none⟩) (by show w4.heap.size < _; omega)).trans (by rw [e5]; exact cell_new0 w4 _ 25 i _ hv)
      exact ⟨t1 0 _ rfl, t1 1 _ rfl⟩
    obtain ⟨⟨q0, q1⟩, q2, q3⟩ := KS.out _ J5
    rw [e5] at q0 q1 q2 q3
    go_wp2_with fail
    rw [← e5]
    clear q0 q1 q2 q3 e5 s5
    refine (HD.out _ J5).mono ?_
    rintro e w6 ⟨⟨h1, i1, h2, i2, h3, i3, rfl, hv6⟩, hb6⟩
    have n6 := one_alloc w6 (.cells #[.slice h1 i1 h2, .slice i2 h3 i3] 25)
    have hb67 := hb6.trans (n6.mono hb6.size)
    obtain ⟨x0, x1⟩ := HP.out _ hb67
    have C5 := rsame_any (hv4 _ (b5.trans (hb67.mono b5.size))) (hv6 _ n6)
    rw [decide_eq_true (cmpA_self 1 RA)] at C5
    have HC5 := hide C5
    have HB7 := hide (HB.out _ (J5.trans (hb67.mono J5.size)))
    clear C5 HP hv4 hv6 n6 hb67 hb6 b5 hb4 J4 J5 J KS HC HD HB
    go_wp2_with fail
    clear x0 x1
    refine HC5.out.mono ?_
    rintro e w8 ⟨rfl, hb8⟩
    have B8 := HB7.out.trans (hb8.mono HB7.out.size)
    have T8 := HT.out _ B8
    clear HT HC5
    go_wp2_with fail
    refine (works_any _ T8).mono ?_
    rintro e w9 ⟨rfl, hb9⟩
    go_wp2
    go_ret
    exact ⟨rfl, B8.trans (hb9.mono B8.size)⟩
  · replace HD := hide (fun W h => HD.out 27 (by unfold Turns; decide) W h)
    obtain ⟨⟨q0, q1⟩, q2, q3⟩ := KS.out _ J
    go_wp2_with fail
    clear q0 q1 q2 q3
    refine (HC.out _ J).mono ?_
    rintro e w4 ⟨⟨g1, m1, g2, m2, g3, m3, rfl, hv4⟩, hb4⟩
    obtain ⟨W5, e5⟩ : ∃ W5, W5 = w4.alloc (.cells #[.slice g1 m1 g2, .slice m2 g3 m3] 25) := ⟨_, rfl⟩
    have b5 : Below w4.heap.size w4 W5 := by rw [e5]; exact one_alloc _ _
    have s5 : W5.heap.size = w4.heap.size + 1 := by rw [e5]; simp
    have J4 := J.trans (hb4.mono J.size)
    have J5 := J4.trans (b5.mono J4.size)
    have HP : Hid (∀ W, Below W5.heap.size W5 W → W.cell? ⟨w4.heap.size, 0, none⟩ = some (.slice g1 m1 g2) ∧ W.cell? ⟨w4.heap.size, 1, none⟩ = some (.slice m2 g3 m3)) := by
      intro W h
      have t1 : ∀ i v, #[Value.slice g1 m1 g2, .slice m2 g3 m3][i]? = some v → W.cell? ⟨w4.heap.size, i, none⟩ = some v := fun i v hv => (h.cell (p := ⟨w4.heap.size, i, none⟩) (by show w4.heap.size < _; omega)).trans (by rw [e5]; exact cell_new0 w4 _ 25 i _ hv)
      exact ⟨t1 0 _ rfl, t1 1 _ rfl⟩
    obtain ⟨⟨q0, q1⟩, q2, q3⟩ := KS.out _ J5
    rw [e5] at q0 q1 q2 q3
    go_wp2_with fail
    rw [← e5]
    clear q0 q1 q2 q3 e5 s5
    refine (HD.out _ J5).mono ?_
    rintro e w6 ⟨⟨h1, i1, h2, i2, h3, i3, rfl, hv6⟩, hb6⟩
    have n6 := one_alloc w6 (.cells #[.slice h1 i1 h2, .slice i2 h3 i3] 25)
    have hb67 := hb6.trans (n6.mono hb6.size)
    obtain ⟨x0, x1⟩ := HP.out _ hb67
    have C5 := rsame_any (hv4 _ (b5.trans (hb67.mono b5.size))) (hv6 _ n6)
    rw [decide_eq_true (cmpA_self 1 RA)] at C5
    have HC5 := hide C5
    have HB7 := hide (HB.out _ (J5.trans (hb67.mono J5.size)))
    clear C5 HP hv4 hv6 n6 hb67 hb6 b5 hb4 J4 J5 J KS HC HD HB
    go_wp2_with fail
    clear x0 x1
    refine HC5.out.mono ?_
    rintro e w8 ⟨rfl, hb8⟩
    have B8 := HB7.out.trans (hb8.mono HB7.out.size)
    have T8 := HT.out _ B8
    clear HT HC5
    go_wp2_with fail
    refine (works_any _ T8).mono ?_
    rintro e w9 ⟨rfl, hb9⟩
    go_wp2
    go_ret
    exact ⟨rfl, B8.trans (hb9.mono B8.size)⟩
  · replace HD := hide (fun W h => HD.out 28 (by unfold Turns; decide) W h)
    obtain ⟨⟨q0, q1⟩, q2, q3⟩ := KS.out _ J
    go_wp2_with fail
    clear q0 q1 q2 q3
    refine (HC.out _ J).mono ?_
    rintro e w4 ⟨⟨g1, m1, g2, m2, g3, m3, rfl, hv4⟩, hb4⟩
    obtain ⟨W5, e5⟩ : ∃ W5, W5 = w4.alloc (.cells #[.slice g1 m1 g2, .slice m2 g3 m3] 25) := ⟨_, rfl⟩
    have b5 : Below w4.heap.size w4 W5 := by rw [e5]; exact one_alloc _ _
    have s5 : W5.heap.size = w4.heap.size + 1 := by rw [e5]; simp
    have J4 := J.trans (hb4.mono J.size)
    have J5 := J4.trans (b5.mono J4.size)
    have HP : Hid (∀ W, Below W5.heap.size W5 W → W.cell? ⟨w4.heap.size, 0, none⟩ = some (.slice g1 m1 g2) ∧ W.cell? ⟨w4.heap.size, 1, none⟩ = some (.slice m2 g3 m3)) := by
      intro W h
      have t1 : ∀ i v, #[Value.slice g1 m1 g2, .slice m2 g3 m3][i]? = some v → W.cell? ⟨w4.heap.size, i, none⟩ = some v := fun i v hv => (h.cell (p := ⟨w4.heap.size, i, none⟩) (by show w4.heap.size < _; omega)).trans (by rw [e5]; exact cell_new0 w4 _ 25 i _ hv)
      exact ⟨t1 0 _ rfl, t1 1 _ rfl⟩
    obtain ⟨⟨q0, q1⟩, q2, q3⟩ := KS.out _ J5
    rw [e5] at q0 q1 q2 q3
    go_wp2_with fail
    rw [← e5]
    clear q0 q1 q2 q3 e5 s5
    refine (HD.out _ J5).mono ?_
    rintro e w6 ⟨⟨h1, i1, h2, i2, h3, i3, rfl, hv6⟩, hb6⟩
    have n6 := one_alloc w6 (.cells #[.slice h1 i1 h2, .slice i2 h3 i3] 25)
    have hb67 := hb6.trans (n6.mono hb6.size)
    obtain ⟨x0, x1⟩ := HP.out _ hb67
    have C5 := rsame_any (hv4 _ (b5.trans (hb67.mono b5.size))) (hv6 _ n6)
    rw [decide_eq_true (cmpA_self 1 RA)] at C5
    have HC5 := hide C5
    have HB7 := hide (HB.out _ (J5.trans (hb67.mono J5.size)))
    clear C5 HP hv4 hv6 n6 hb67 hb6 b5 hb4 J4 J5 J KS HC HD HB
    go_wp2_with fail
    clear x0 x1
    refine HC5.out.mono ?_
    rintro e w8 ⟨rfl, hb8⟩
    have B8 := HB7.out.trans (hb8.mono HB7.out.size)
    have T8 := HT.out _ B8
    clear HT HC5
    go_wp2_with fail
    refine (works_any _ T8).mono ?_
    rintro e w9 ⟨rfl, hb9⟩
    go_wp2
    go_ret
    exact ⟨rfl, B8.trans (hb9.mono B8.size)⟩
  · replace HD := hide (fun W h => HD.out 30 (by unfold Turns; decide) W h)
    obtain ⟨⟨q0, q1⟩, q2, q3⟩ := KS.out _ J
    go_wp2_with fail
    clear q0 q1 q2 q3
    refine (HC.out _ J).mono ?_
    rintro e w4 ⟨⟨g1, m1, g2, m2, g3, m3, rfl, hv4⟩, hb4⟩
    obtain ⟨W5, e5⟩ : ∃ W5, W5 = w4.alloc (.cells #[.slice g1 m1 g2, .slice m2 g3 m3] 25) := ⟨_, rfl⟩
    have b5 : Below w4.heap.size w4 W5 := by rw [e5]; exact one_alloc _ _
    have s5 : W5.heap.size = w4.heap.size + 1 := by rw [e5]; simp
    have J4 := J.trans (hb4.mono J.size)
    have J5 := J4.trans (b5.mono J4.size)
    have HP : Hid (∀ W, Below W5.heap.size W5 W → W.cell? ⟨w4.heap.size, 0, none⟩ = some (.slice g1 m1 g2) ∧ W.cell? ⟨w4.heap.size, 1, none⟩ = some (.slice m2 g3 m3)) := by
      intro W h
      have t1 : ∀ i v, #[Value.slice g1 m1 g2, .slice m2 g3 m3][i]? = some v → W.cell? ⟨w4.heap.size, i, none⟩ = some v := fun i v hv => (h.cell (p := ⟨w4.heap.size, i, none⟩) (by show w4.heap.size < _; omega)).trans (by rw [e5]; exact cell_new0 w4 _ 25 i _ hv)
      exact ⟨t1 0 _ rfl, t1 1 _ rfl⟩
    obtain ⟨⟨q0, q1⟩, q2, q3⟩ := KS.out _ J5
    rw [e5] at q0 q1 q2 q3
    go_wp2_with fail
    rw [← e5]
    clear q0 q1 q2 q3 e5 s5
    refine (HD.out _ J5).mono ?_
    rintro e w6 ⟨⟨h1, i1, h2, i2, h3, i3, rfl, hv6⟩, hb6⟩
    have n6 := one_alloc w6 (.cells #[.slice h1 i1 h2, .slice i2 h3 i3] 25)
    have hb67 := hb6.trans (n6.mono hb6.size)
    obtain ⟨x0, x1⟩ := HP.out _ hb67
    have C5 := rsame_any (hv4 _ (b5.trans (hb67.mono b5.size))) (hv6 _ n6)
    rw [decide_eq_true (cmpA_self 1 RA)] at C5
    have HC5 := hide C5
    have HB7 := hide (HB.out _ (J5.trans (hb67.mono J5.size)))
    clear C5 HP hv4 hv6 n6 hb67 hb6 b5 hb4 J4 J5 J KS HC HD HB
    go_wp2_with fail
    clear x0 x1
    refine HC5.out.mono ?_
    rintro e w8 ⟨rfl, hb8⟩
    have B8 := HB7.out.trans (hb8.mono HB7.out.size)
    have T8 := HT.out _ B8
    clear HT HC5
    go_wp2_with fail
    refine (works_any _ T8).mono ?_
    rintro e w9 ⟨rfl, hb9⟩
    go_wp2
    go_ret
    exact ⟨rfl, B8.trans (hb9.mono B8.size)⟩
  · replace HD := hide (fun W h => HD.out 29 (by unfold Turns; decide) W h)
    obtain ⟨⟨q0, q1⟩, q2, q3⟩ := KS.out _ J
    go_wp2_with fail
    clear q0 q1 q2 q3
    refine (HC.out _ J).mono ?_
    rintro e w4 ⟨⟨g1, m1, g2, m2, g3, m3, rfl, hv4⟩, hb4⟩
    obtain ⟨W5, e5⟩ : ∃ W5, W5 = w4.alloc (.cells #[.slice g1 m1 g2, .slice m2 g3 m3] 25) := ⟨_, rfl⟩
    have b5 : Below w4.heap.size w4 W5 := by rw [e5]; exact one_alloc _ _
    have s5 : W5.heap.size = w4.heap.size + 1 := by rw [e5]; simp
    have J4 := J.trans (hb4.mono J.size)
    have J5 := J4.trans (b5.mono J4.size)
    have HP : Hid (∀ W, Below W5.heap.size W5 W → W.cell? ⟨w4.heap.size, 0, none⟩ = some (.slice g1 m1 g2) ∧ W.cell? ⟨w4.heap.size, 1, none⟩ = some (.slice m2 g3 m3)) := by
      intro W h
      have t1 : ∀ i v, #[Value.slice g1 m1 g2, .slice m2 g3 m3][i]? = some v → W.cell? ⟨w4.heap.size, i, none⟩ = some v := fun i v hv => (h.cell (p := ⟨w4.heap.size, i, none⟩) (by show w4.heap.size < _; omega)).trans (by rw [e5]; exact cell_new0 w4 _ 25 i _ hv)
      exact ⟨t1 0 _ rfl, t1 1 _ rfl⟩
    obtain ⟨⟨q0, q1⟩, q2, q3⟩ := KS.out _ J5
    rw [e5] at q0 q1 q2 q3
    go_wp2_with fail
    rw [← e5]
    clear q0 q1 q2 q3 e5 s5
    refine (HD.out _ J5).mono ?_
    rintro e w6 ⟨⟨h1, i1, h2, i2, h3, i3, rfl, hv6⟩, hb6⟩
    have n6 := one_alloc w6 (.cells #[.slice h1 i1 h2, .slice i2 h3 i3] 25)
    have hb67 := hb6.trans (n6.mono hb6.size)
    obtain ⟨x0, x1⟩ := HP.out _ hb67
    have C5 := rsame_any (hv4 _ (b5.trans (hb67.mono b5.size))) (hv6 _ n6)
    rw [decide_eq_true (cmpA_self 1 RA)] at C5
    have HC5 := hide C5
    have HB7 := hide (HB.out _ (J5.trans (hb67.mono J5.size)))
    clear C5 HP hv4 hv6 n6 hb67 hb6 b5 hb4 J4 J5 J KS HC HD HB
    go_wp2_with fail
    clear x0 x1
    refine HC5.out.mono ?_
    rintro e w8 ⟨rfl, hb8⟩
    have B8 := HB7.out.trans (hb8.mono HB7.out.size)
    have T8 := HT.out _ B8
    clear HT HC5
    go_wp2_with fail
    refine (works_any _ T8).mono ?_
    rintro e w9 ⟨rfl, hb9⟩
    go_wp2
    go_ret
    exact ⟨rfl, B8.trans (hb9.mono B8.size)⟩
  · replace HD := hide (fun W h => HD.out 32 (by unfold Turns; decide) W h)
    obtain ⟨⟨q0, q1⟩, q2, q3⟩ := KS.out _ J
    go_wp2_with fail
    clear q0 q1 q2 q3
    refine (HC.out _ J).mono ?_
    rintro e w4 ⟨⟨g1, m1, g2, m2, g3, m3, rfl, hv4⟩, hb4⟩
    obtain ⟨W5, e5⟩ : ∃ W5, W5 = w4.alloc (.cells #[.slice g1 m1 g2, .slice m2 g3 m3] 25) := ⟨_, rfl⟩
    have b5 : Below w4.heap.size w4 W5 := by rw [e5]; exact one_alloc _ _
    have s5 : W5.heap.size = w4.heap.size + 1 := by rw [e5]; simp
    have J4 := J.trans (hb4.mono J.size)
    have J5 := J4.trans (b5.mono J4.size)
    have HP : Hid (∀ W, Below W5.heap.size W5 W → W.cell? ⟨w4.heap.size, 0, none⟩ = some (.slice g1 m1 g2) ∧ W.cell? ⟨w4.heap.size, 1, none⟩ = some (.slice m2 g3 m3)) := by
      intro W h
      have t1 : ∀ i v, #[Value.slice g1 m1 g2, .slice m2 g3 m3][i]? = some v → W.cell? ⟨w4.heap.size, i, none⟩ = some v := fun i v hv => (h.cell (p := ⟨w4.heap.size, i, none⟩) (by show w4.heap.size < _; omega)).trans (by rw [e5]; exact cell_new0 w4 _ 25 i _ hv)
      exact ⟨t1 0 _ rfl, t1 1 _ rfl⟩
    obtain ⟨⟨q0, q1⟩, q2, q3⟩ := KS.out _ J5
    rw [e5] at q0 q1 q2 q3
    go_wp2_with fail
    rw [← e5]
    clear q0 q1 q2 q3 e5 s5
    refine (HD.out _ J5).mono ?_
    rintro e w6 ⟨⟨h1, i1, h2, i2, h3, i3, rfl, hv6⟩, hb6⟩
    have n6 := one_alloc w6 (.cells #[.slice h1 i1 h2, .slice i2 h3 i3] 25)
    have hb67 := hb6.trans (n6.mono hb6.size)
    obtain ⟨x0, x1⟩ := HP.out _ hb67
    have C5 := rsame_any (hv4 _ (b5.trans (hb67.mono b5.size))) (hv6 _ n6)
    rw [decide_eq_true (cmpA_self 1 RA)] at C5
    have HC5 := hide C5
    have HB7 := hide (HB.out _ (J5.trans (hb67.mono J5.size)))
    clear C5 HP hv4 hv6 n6 hb67 hb6 b5 hb4 J4 J5 J KS HC HD HB
    go_wp2_with fail
    clear x0 x1
    refine HC5.out.mono ?_
    rintro e w8 ⟨rfl, hb8⟩
    have B8 := HB7.out.trans (hb8.mono HB7.out.size)
    have T8 := HT.out _ B8
    clear HT HC5
    go_wp2_with fail
    refine (works_any _ T8).mono ?_
    rintro e w9 ⟨rfl, hb9⟩
    go_wp2
    go_ret
    exact ⟨rfl, B8.trans (hb9.mono B8.size)⟩
  · replace HD := hide (fun W h => HD.out 31 (by unfold Turns; decide) W h)
    obtain ⟨⟨q0, q1⟩, q2, q3⟩ := KS.out _ J
    go_wp2_with fail
    clear q0 q1 q2 q3
    refine (HC.out _ J).mono ?_
    rintro e w4 ⟨⟨g1, m1, g2, m2, g3, m3, rfl, hv4⟩, hb4⟩
    obtain ⟨W5, e5⟩ : ∃ W5, W5 = w4.alloc (.cells #[.slice g1 m1 g2, .slice m2 g3 m3] 25) := ⟨_, rfl⟩
    have b5 : Below w4.heap.size w4 W5 := by rw [e5]; exact one_alloc _ _
    have s5 : W5.heap.size = w4.heap.size + 1 := by rw [e5]; simp
    have J4 := J.trans (hb4.mono J.size)
    have J5 := J4.trans (b5.mono J4.size)
    have HP : Hid (∀ W, Below W5.heap.size W5 W → W.cell? ⟨w4.heap.size, 0, none⟩ = some (.slice g1 m1 g2) ∧ W.cell? ⟨w4.heap.size, 1, none⟩ = some (.slice m2 g3 m3)) := by
      intro W h
      have t1 : ∀ i v, #[Value.slice g1 m1 g2, .slice m2 g3 m3][i]? = some v → W.cell? ⟨w4.heap.size, i, none⟩ = some v := fun i v hv => (h.cell (p := ⟨w4.heap.size, i, none⟩) (by show w4.heap.size < _; omega)).trans (by rw [e5]; exact cell_new0 w4 _ 25 i _ hv)
      exact ⟨t1 0 _ rfl, t1 1 _ rfl⟩
    obtain ⟨⟨q0, q1⟩, q2, q3⟩ := KS.out _ J5
    rw [e5] at q0 q1 q2 q3
    go_wp2_with fail
    rw [← e5]
    clear q0 q1 q2 q3 e5 s5
    refine (HD.out _ J5).mono ?_
    rintro e w6 ⟨⟨h1, i1, h2, i2, h3, i3, rfl, hv6⟩, hb6⟩
    have n6 := one_alloc w6 (.cells #[.slice h1 i1 h2, .slice i2 h3 i3] 25)
    have hb67 := hb6.trans (n6.mono hb6.size)
    obtain ⟨x0, x1⟩ := HP.out _ hb67
    have C5 := rsame_any (hv4 _ (b5.trans (hb67.mono b5.size))) (hv6 _ n6)
    rw [decide_eq_true (cmpA_self 1 RA)] at C5
    have HC5 := hide C5
    have HB7 := hide (HB.out _ (J5.trans (hb67.mono J5.size)))
    clear C5 HP hv4 hv6 n6 hb67 hb6 b5 hb4 J4 J5 J KS HC HD HB
    go_wp2_with fail
    clear x0 x1
    refine HC5.out.mono ?_
    rintro e w8 ⟨rfl, hb8⟩
    have B8 := HB7.out.trans (hb8.mono HB7.out.size)
    have T8 := HT.out _ B8
    clear HT HC5
    go_wp2_with fail
    refine (works_any _ T8).mono ?_
    rintro e w9 ⟨rfl, hb9⟩
    go_wp2
    go_ret
    exact ⟨rfl, B8.trans (hb9.mono B8.size)⟩
  · have B := HB.out _ J
    have g21 : (op == 21) = false := beq_eq_false_iff_ne.2 (by omega)
    have g23 : (op == 23) = false := beq_eq_false_iff_ne.2 (by omega)
    have g24 : (op == 24) = false := beq_eq_false_iff_ne.2 (by omega)
    have g25 : (op == 25) = false := beq_eq_false_iff_ne.2 (by omega)
    have g27 : (op == 27) = false := beq_eq_false_iff_ne.2 (by omega)
    have g28 : (op == 28) = false := beq_eq_false_iff_ne.2 (by omega)
    have g29 : (op == 29) = false := beq_eq_false_iff_ne.2 (by omega)
    have g30 : (op == 30) = false := beq_eq_false_iff_ne.2 (by omega)
    have g31 : (op == 31) = false := beq_eq_false_iff_ne.2 (by omega)
    have g32 : (op == 32) = false := beq_eq_false_iff_ne.2 (by omega)
    clear hop HC HD
    clear KS HB
    go_wp2_with fail
    refine (works_any _ (HT.out _ B)).mono ?_
    rintro e w9 ⟨rfl, hb9⟩
    go_wp2
    go_ret
    exact ⟨rfl, B.trans (hb9.mono B.size)⟩
theorem walk (op : Int) (n0 : Nat) (x : Ar) (c0 c1 : Value) (n1 : Nat) (y : Ar) (p0 p1 : Value) (w : World) (T : Tab w) (ho : I64 op) (hx : ArIn n0 0 w x (.agg #[c0, c1])) (sx : Snd x) (hy : ArIn n1 0 w y (.agg #[p0, p1])) (sy : Snd y) :
    Calls Tryd.prog 7 #[.int .i64 op, .agg #[c0, c1], .agg #[p0, p1]] w fun e w' => e = .returned (.bool true) ∧ Below w.heap.size w w' :=
  walk1 op (n0 + n1) x y c0 c1 p0 p1 w T (hx.deep (by omega)) sx (hy.deep (by omega)) sy
theorem laid_met (os : Os) : laidMet Tryd.prog Rows.atomicTurnedRow.laid ((laidWorld os).forCall (fun _ _ => 0) ⟨#[], #[.int .i64 0, .agg #[.slice none 0 0, .slice none 0 0], .agg #[.slice none 0 0, .slice none 0 0]], []⟩).memory :=
  laidMet_of_run' 8 (by kernel_rfl) (by kernel_rfl)
theorem reads (os : Os) {H : Type} (enc : TypeId × Value → H) : ∃ places, DataW.whole enc Tryd.prog ((laidWorld os).forCall (fun _ _ => 0) ⟨#[], #[.int .i64 0, .agg #[.slice none 0 0, .slice none 0 0], .agg #[.slice none 0 0, .slice none 0 0]], []⟩).memory Tryd.f7.params.toList Rows.atomicTurnedSpec.vars false #[Value.int .i64 0, Value.agg #[.slice none 0 0, .slice none 0 0], Value.agg #[.slice none 0 0, .slice none 0 0]].toList 8 = some ([.lit (.int .i64 0), .agg [.nil, .nil], .agg [.nil, .nil]], [], places) :=
  ⟨[], by kernel_rfl⟩
set_option maxRecDepth 100000 in
theorem lifted (os : Os) (started : os.Started) (H : Type) (enc : TypeId × Value → H) (F : Stop.Interp) :
    ReturnsInHanded {} Tryd.checked os 7 .any ((OpenSpec.ofChange Rows.atomicTurnedSpec).preRow enc Tryd.prog Tryd.f7 Rows.atomicTurnedRow.domain false Rows.atomicTurnedRow.laid) (((OpenSpec.ofChange Rows.atomicTurnedSpec).at F).post enc Tryd.prog Tryd.f7 false true false false) := by
  obtain ⟨places, hx⟩ := reads os enc
  refine returnsInHanded_of_row (C := Tryd.checked) (s := OpenSpec.ofChange Rows.atomicTurnedSpec) own started (by kernel_rfl) Tryd.func7
    (witness_row_at (enc := enc) (C := Tryd.checked) false (laidWorld os) #[.int .i64 0, .agg #[.slice none 0 0, .slice none 0 0], .agg #[.slice none 0 0, .slice none 0 0]] rfl (by kernel_rfl) (by kernel_rfl) (by kernel_rfl)
      (OpenSpec.preRow_of_cond 8 hx (by kernel_rfl) (fun k hk => by cases hk) (by kernel_rfl) (laid_met os))) ?_
  intro W base args ds gs before hval0 hW _ hcond hsz0 hL _ _
  have hsz : (DataW.weightsEach Tryd.prog (Tryd.f7.params.toList ++ Rows.atomicTurnedSpec.plain.varTypes Tryd.prog) (ds ++ gs)).all (· ≤ reachBytes) = true := hsz0
  clear hsz0
  have hval : ∀ (j : Nat) t v, Tryd.f7.params[j]? = some t → args[j]? = some v → Value.okWide Tryd.prog W .any base t v := hval0
  have hW' := hW
  obtain ⟨p, q, hA0, hV, rfl, hfz, hnd⟩ := hW
  have hA : DataW.TrodAll enc Tryd.prog W 0 (fun _ => true) true Tryd.f7.params.toList args.toList ds p := hA0
  rw [Tryd.params7] at hA hval hsz
  obtain ⟨v0, vs0, d0, ds0, p0, q0, hargs, rfl, rfl, h0, r0⟩ := trodAll_cons hA
  obtain ⟨v1, vs1, d1, ds1, p1, q1, rfl, rfl, rfl, h1, r1⟩ := trodAll_cons r0
  obtain ⟨v2, vs2, d2, ds2, p2, q2, rfl, rfl, rfl, h2, r2⟩ := trodAll_cons r1
  obtain ⟨rfl, rfl, rfl⟩ := trodAll_nil r2
  obtain rfl : args = #[v0, v1, v2] := by cases args; simp_all
  obtain ⟨rfl, rfl⟩ := trodVars_none hV
  obtain ⟨x0, rfl, rfl, rfl, w0⟩ := open_int Tryd.underlying3 (hval 0 3 v0 rfl rfl) h0
  have k1 := h1
  have lt1 : ∀ x ∈ p1, x.block < W.heap.size := by obtain ⟨m, hm⟩ := k1; exact DataW.trod_lt m _ _ _ hm
  obtain ⟨n1, y1, c10, c11, hc1, w1, s1⟩ := arr_of hsz (j := 1) rfl rfl h1
  obtain rfl := agg_two hc1
  have k2 := h2
  have lt2 : ∀ x ∈ p2, x.block < W.heap.size := by obtain ⟨m, hm⟩ := k2; exact DataW.trod_lt m _ _ _ hm
  obtain ⟨n2, y2, c20, c21, hc2, w2, s2⟩ := arr_of hsz (j := 2) rfl rfl h2
  obtain rfl := agg_two hc2
  clear hA0 hval0
  refine (walk x0 n1 y1 c10 c11 n2 y2 c20 c21 W (tab_of hL) (bounds_i64 w0) w1 s1 w2 s2).mono fun e W' ⟨he, bel⟩ => ?_
  subst he
  exact ⟨_, rfl, _, _, _, [], _, [], hW', trodAll_mk1 (shut_bool Tryd.underlying4 _), (trodAll_cons_mk (shut_int Tryd.underlying3 w0) (trodAll_cons_mk (Below.trod laidOut (by kernel_rfl) (of_decide_eq_true (by kernel_rfl)) k1 bel lt1) (trodAll_cons_mk (Below.trod laidOut (by kernel_rfl) (of_decide_eq_true (by kernel_rfl)) k2 bel lt2) trodAll_mk0))), rfl, bel.frame _, fun h => by cases h⟩
theorem said : Rows.AtomicTurnedSaid :=
  OpenClaim.holds_of_cond 7 Tryd.f7 rfl rfl rfl rfl rfl rfl rfl ⟨rfl, rfl, rfl, rfl, rfl⟩ rfl rfl rfl rfl rfl (by kernel_rfl) Tryd.func7 (by kernel_rfl)
    (of_decide_eq_true (by kernel_rfl)) (by unfold Func.isWrapper; first | (rw [if_pos (by decide +kernel)]; kernel_rfl) | (rw [if_neg (by decide +kernel)]; exact ⟨rfl, rfl⟩))
    (fun os started H enc _ F => by rw [OpenClaim.pre_eq_preRow]; exact lifted os started H enc F)
theorem plain (f : FuncId) (fn : Func) (hf : Tryd.pinned.checked.prog.funcNamed "triglyph/triglyphlaw04.AtomicTurned" = some f) (hfn : Tryd.pinned.checked.prog.funcs[f]? = some fn) :
    false = Tryd.pinned.checked.prog.looks [] ∧ ∀ (j : Nat) t, fn.params[j]? = some t → Tryd.pinned.checked.prog.wantsStandIn t = false := by
  obtain rfl : f = 7 := Option.some.inj ((show Tryd.prog.funcNamed "triglyph/triglyphlaw04.AtomicTurned" = some 7 by kernel_rfl).symm.trans hf) |>.symm
  obtain rfl : fn = Tryd.f7 := (Option.some.inj (Tryd.func7.symm.trans hfn)).symm
  refine ⟨by kernel_rfl, fun j t ht => ?_⟩
  rw [Tryd.params7] at ht
  have hm : t = 3 ∨ t = 25 := by simpa using Array.mem_of_getElem? ht
  rcases hm with rfl | rfl
  · exact (show Tryd.prog.wantsStandIn 3 = false by kernel_rfl)
  · exact (show Tryd.prog.wantsStandIn 25 = false by kernel_rfl)
theorem proved : Rows.AtomicTurnedCardSaid :=
  Claim7.holds_tied_plain_at .later [] _ _ _ _ said (fun _ h => by cases h) (by kernel_rfl) (fun _ h => by cases h) atomicTurned_row_tie rfl ⟨rfl, rfl⟩ (by kernel_rfl) rfl plain (by kernel_rfl)
end Go.Proofs.YtkigfmfegldhcaaDoor.atomicTurned
namespace Go.Proofs.YtkigfmfegldhcaaDoor
theorem atomicTurned_holds : Rows.AtomicTurnedCardSaid := atomicTurned.proved
#print axioms atomicTurned_holds
end Go.Proofs.YtkigfmfegldhcaaDoor
