/-
  The contracts of layer 5's listed, enclosed and disclosed.
-/
import Derived.Test.YtmjncdhahdpplaaLyI
namespace Go.Proofs.Ytmjncdhahdpplaa
open Go.ChangeShapes Go.WideShapes Go.ChangeAt Go.RowKit
set_option linter.unusedVariables false
set_option maxRecDepth 100000
set_option maxHeartbeats 2000000 in
theorem listed_any {n lo : Nat} {x : Ar} {va : Value} {w : World} (hx : ArIn (n + 1) lo w x va) (hchk : chkA 8 x = 0) : Calls Try.prog 37 #[va] w fun e w' => Gives2 (n + 1) w.heap.size (listR x).1 (listR x).2 w e w' := by
  obtain ⟨a1, c1, a2, c2, rfl, R, hc⟩ := hx.form
  have I := in2_new w (.slice a1 x.shape.length c1) (.slice a2 x.cells.length c2)
  obtain ⟨W2, e2⟩ : ∃ W2, (w.alloc (.cells #[.slice a1 x.shape.length c1, .slice a2 x.cells.length c2] 25)).alloc (.cells #[.slice none 0 0, .slice none 0 0] 25) = W2 := ⟨_, rfl⟩
  have hz2 : W2.heap.size = w.heap.size + 2 := by rw [← e2]; simp
  rw [e2] at I
  have q0 := I.q0
  have q1 := I.q1
  have hl := R.1
  have HI := hide I
  obtain ⟨l8, c16⟩ := chk_len hchk
  have CC := copy_at n 8 x lo _ W2 hchk (hx.next I.bel)
  by_cases h8 : 8 ≤ x.shape.length
  · have HE : Hid (listR x = (zeroA, 6)) := by unfold listR Hid; rw [if_pos h8]
    have p0 := I.p0
    have p1 := I.p1
    have f0 := I.f0
    have f1 := I.f1
    have h8' : ((8 : Nat) : Int) ≤ (x.shape.length : Int) := by omega
    have HT := hide (I.put (.slice none 0 0) (.slice none 0 0))
    clear CC R hc I hx hchk
    generalize x.shape.length = SA at *
    generalize x.cells.length = CA at *
    go_enter Try.func37, Try.ntmps37
    go_wp2
    exact bodyPost_ret (v := .tuple #[.agg #[.slice none 0 0, .slice none 0 0], .int .i64 6]) (by simp [results, Try.results37, go_sem, HT.out.1, HT.out.2]) rfl (gives2_of HE.out (zeroA_in _ _ _) (HI.out.fin _ _))
  · have HE : Hid (listR x = (.mk (1 :: x.shape) x.cells, 0)) := by unfold listR Hid; rw [if_neg h8]
    obtain ⟨SA, hSA⟩ : ∃ SA, x.shape.length = SA := ⟨_, rfl⟩
    obtain ⟨CA, hCA⟩ : ∃ CA, x.cells.length = CA := ⟨_, rfl⟩
    have HSC := hide (And.intro hSA hCA)
    rw [hSA, hCA] at CC e2
    rw [hSA] at q0 l8 h8 hl ⊢
    rw [hCA] at q1 c16 ⊢
    clear R hc I hx hchk hSA hCA
    go_enter Try.func37, Try.ntmps37
    go_wp2_with fail
    clear e2 q0 q1
    refine CC.mono ?_
    rintro e w1 ⟨⟨v, rfl, -, bs, bc, rfl, hbs0, hbs1, hrow, hcs⟩, hb1⟩
    rw [hz2] at hbs0 hcs
    have I1 := HI.out.next hb1.b
    obtain ⟨W3, e3⟩ : ∃ W3, w1.alloc (.cells #[.slice (some ⟨bs, 0, none⟩) SA SA, .slice (some ⟨bc, 0, none⟩) CA CA] 25) = W3 := ⟨_, rfl⟩
    obtain ⟨W4, e4⟩ : ∃ W4, W3.alloc (.cells #[.int .i64 1] 3) = W4 := ⟨_, rfl⟩
    have B3 : Below w1.heap.size w1 W3 := by rw [← e3]; exact one_alloc _ _
    have z3 : W3.heap.size = w1.heap.size + 1 := by rw [← e3]; simp
    have B4 : Below W3.heap.size W3 W4 := by rw [← e4]; exact one_alloc _ _
    have z4 : W4.heap.size = w1.heap.size + 2 := by rw [← e4]; simp [z3]
    have B14 : Below w1.heap.size w1 W4 := B3.trans (B4.mono (by omega))
    have o0 : W3.cell? ⟨w1.heap.size, 0, none⟩ = some (.slice (some ⟨bs, 0, none⟩) SA SA) := by rw [← e3]; exact cell_new0 w1 _ 25 0 _ rfl
    have o1 : W3.cell? ⟨w1.heap.size, 1, none⟩ = some (.slice (some ⟨bc, 0, none⟩) CA CA) := by rw [← e3]; exact cell_new0 w1 _ 25 1 _ rfl
    have of : ∀ i, W3.frozen? ⟨w1.heap.size, i, none⟩ = false := fun i => by rw [← e3]; exact frozen_new w1 _ 25 i
    have v0 : W4.cell? ⟨w1.heap.size + 1, 0, none⟩ = some (.int .i64 1) := by rw [← z3, ← e4]; exact cell_new0 W3 _ 3 0 _ rfl
    have IN := insert_any x.shape bs (w1.heap.size + 1) W4 (by rw [HSC.out.1]; exact l8) (fun i hi => (B14.cell (p := ⟨bs, i, none⟩) hbs1).trans (hrow i hi)) v0 (by omega) (by omega)
    rw [HSC.out.1] at IN
    have I4 := I1.next B14
    have HI4 := hide I4
    have HO := hide (And.intro ((B4.cell (p := ⟨w1.heap.size, 0, none⟩) (by show w1.heap.size < _; omega)).trans o0) (And.intro ((B4.cell (p := ⟨w1.heap.size, 1, none⟩) (by show w1.heap.size < _; omega)).trans o1) ((B4.frozen (p := ⟨w1.heap.size, 0, none⟩) (by show w1.heap.size < _; omega)).trans (of 0))))
    have HCS := hide hcs
    have HB := hide (And.intro hbs0 (And.intro hbs1 (And.intro z4 (And.intro B14 I1.size))))
    rw [HSC.out.1, HSC.out.2]
    clear CC hrow hcs hb1 B3 B14 B4 I1 I4 v0 o1 HI hbs0 hbs1
    go_wp2_with fail
    clear e3 e4 o0 of z3 z4
    refine IN.mono ?_
    rintro e w5 ⟨⟨a, cap, rfl, R5⟩, hb5⟩
    obtain ⟨g1, g2, g3, g4, g5⟩ := HB.out
    have k0 := (hb5.cell (p := ⟨w1.heap.size, 0, none⟩) (by show w1.heap.size < _; omega)).trans HO.out.1
    have k1 := (hb5.cell (p := ⟨w1.heap.size, 1, none⟩) (by show w1.heap.size < _; omega)).trans HO.out.2.1
    have k2 := (hb5.frozen (p := ⟨w1.heap.size, 0, none⟩) (by show w1.heap.size < _; omega)).trans HO.out.2.2
    have z5 : W4.heap.size ≤ w5.heap.size := hb5.size
    obtain ⟨w6, e6⟩ : ∃ w6, w5.setCell ⟨w1.heap.size, 0, none⟩ (.slice a (SA + 1) cap) = w6 := ⟨_, rfl⟩
    have I6 := (HI4.out.next hb5).set (b := w1.heap.size) (i := 0) (by omega) (.slice a (SA + 1) cap)
    rw [e6] at I6
    have m0 : w6.cell? ⟨w1.heap.size, 0, none⟩ = some (.slice a (SA + 1) cap) := by rw [← e6]; exact World.cell?_setCell_same' _ _ _ (by rw [k0]; rfl)
    have m1 : w6.cell? ⟨w1.heap.size, 1, none⟩ = some (.slice (some ⟨bc, 0, none⟩) CA CA) := by rw [← e6, World.cell?_setCell_other _ _ _ _ (by simp)]; exact k1
    have K6 : Keeps (w1.heap.size + 1) w5 w6 := by rw [← e6]; exact (Keeps.refl _ _).setCell (p := ⟨w1.heap.size, 0, none⟩) (by show w1.heap.size < _; omega) _
    have R6 : Row (w.heap.size + 2) w6 a (1 :: x.shape) := ((R5.low (lo' := w1.heap.size + 1) (by omega)).keeps K6).low (by omega)
    have C6 : CellsIn n (w.heap.size + 2) w6 x.cells (some ⟨bc, 0, none⟩) := HCS.out w6 (by have := K6.1; omega) fun k h1 h2 => by
      rw [← e6, Below.heap_setCell _ _ _ _ (by show k ≠ w1.heap.size; omega), hb5.block k (by omega)]
      exact g4.block k h1
    have A6 : ArIn (n + 1) (w.heap.size + 2) w6 (.mk (1 :: x.shape) x.cells) (.agg #[.slice a (SA + 1) cap, .slice (some ⟨bc, 0, none⟩) CA CA]) := arIn_mk (x := .mk (1 :: x.shape) x.cells) R6 (by show x.cells.length ≤ _; rw [HSC.out.2]; omega) C6 (by show (1 :: x.shape).length = _; rw [List.length_cons, HSC.out.1]) HSC.out.2
    have p0 := I6.p0
    have p1 := I6.p1
    have f0 := I6.f0
    have f1 := I6.f1
    have HT := hide (I6.put (.slice a (SA + 1) cap) (.slice (some ⟨bc, 0, none⟩) CA CA))
    have HF := hide (I6.give A6 (Nat.le_refl _))
    have HFI := hide I6.fin
    clear I6 A6 C6 R6 K6 R5 hb5 IN HI4 HO HCS HB g1 g2 g3 g4 g5 z5
    go_wp2
    exact bodyPost_ret (v := .tuple #[.agg #[.slice a (SA + 1) cap, .slice (some ⟨bc, 0, none⟩) CA CA], .int .i64 0]) (by simp [results, Try.results37, go_sem, HT.out.1, HT.out.2]) rfl (gives2_of HE.out (HF.out _ _) (HFI.out _ _))
/-- A box with an array in it. -/
theorem box_in {n lo : Nat} {w : World} {x : Ar} {u0 u1 : Value} {b d : Nat} (hx : ArIn n lo w x (.agg #[u0, u1])) (hb : lo ≤ b) (hd : lo ≤ d) (hbl : b < w.heap.size) (hdl : d < w.heap.size) (c0 : w.cell? ⟨b, 0, none⟩ = some u0) (c1 : w.cell? ⟨b, 1, none⟩ = some u1)
    (d0 : w.cell? ⟨d, 0, none⟩ = some (.int .i64 2)) (d1 : w.cell? ⟨d, 1, none⟩ = some (.int .i64 0)) (d2 : w.cell? ⟨d, 2, none⟩ = some (.slice (some ⟨b, 0, none⟩) 1 1)) : ArIn (n + 1) lo w (.mk [] [(2, 0, [x])]) (.agg #[.slice none 0 0, .slice (some ⟨d, 0, none⟩) 1 1]) := by
  refine arIn_mk (x := .mk [] [(2, 0, [x])]) (row_nil _ _ _) (by simp [Ar.cells]) (Or.inr ⟨d, 0, rfl, hd, hdl, fun i hi => ?_⟩) rfl rfl
  have hi0 : i = 0 := by simpa [Ar.cells] using hi
  subst hi0
  refine ⟨_, _, _, d0, d1, d2, rfl, rfl, _, _, rfl, by simp [cAt, Ar.cells], Or.inr ⟨b, 0, rfl, hb, hbl, fun k hk => ?_⟩⟩
  have hk0 : k = 0 := by simpa [cAt, Ar.cells] using hk
  subst hk0
  exact ⟨_, _, c0, c1, hx⟩
set_option maxHeartbeats 2000000 in
theorem enclosed_any {n lo : Nat} {x : Ar} {va : Value} {w : World} (hx : ArIn (n + 1) lo w x va) (hchk : chkA 8 x = 0) : Calls Try.prog 34 #[va] w fun e w' => Gives2 (n + 2) w.heap.size (enclR (n + 1) x).1 (enclR (n + 1) x).2 w e w' := by
  obtain ⟨a1, c1, a2, c2, rfl, R, hc⟩ := hx.form
  have I := in2_new w (.slice a1 x.shape.length c1) (.slice a2 x.cells.length c2)
  obtain ⟨W2, e2⟩ : ∃ W2, (w.alloc (.cells #[.slice a1 x.shape.length c1, .slice a2 x.cells.length c2] 25)).alloc (.cells #[.slice none 0 0, .slice none 0 0] 25) = W2 := ⟨_, rfl⟩
  have hz2 : W2.heap.size = w.heap.size + 2 := by rw [← e2]; simp
  rw [e2] at I
  have q0 := I.q0
  have q1 := I.q1
  have CD := deep_any (n + 1) 16 x _ _ W2 (by omega) (chk_thin16 hchk) (hx.next I.bel)
  have HI := hide I
  have HX := hide hx
  have HCH := hide hchk
  have HE : Hid (enclR (n + 1) x = if 8 ≤ deepA (n + 1) x then (zeroA, 15) else (.mk [] [(2, 0, [x])], 0)) := rfl
  obtain ⟨SA, hSA⟩ : ∃ SA, x.shape.length = SA := ⟨_, rfl⟩
  obtain ⟨CA, hCA⟩ : ∃ CA, x.cells.length = CA := ⟨_, rfl⟩
  have HSC := hide (And.intro hSA hCA)
  simp only [hSA, hCA] at CD e2 q0 q1 HI HX ⊢
  generalize deepA (n + 1) x = D at *
  clear R hc I hx hchk hSA hCA
  go_enter Try.func34, Try.ntmps34
  go_wp2_with fail
  clear e2 q0 q1
  refine CD.mono ?_
  rintro e w1 ⟨rfl, hb1⟩
  have I1 := HI.out.next hb1
  have q0 := I1.q0
  have q1 := I1.q1
  have HI1 := hide I1
  by_cases h8 : 8 ≤ D
  · have p0 := I1.p0
    have p1 := I1.p1
    have f0 := I1.f0
    have f1 := I1.f1
    have HT := hide (I1.put (.slice none 0 0) (.slice none 0 0))
    have HE5 : Hid (enclR (n + 1) x = (zeroA, 15)) := by unfold Hid; rw [HE.out, if_pos h8]
    clear I1 hb1 CD HI HX HE q0 q1
    go_wp2
    exact bodyPost_ret (v := .tuple #[.agg #[.slice none 0 0, .slice none 0 0], .int .i64 15]) (by simp [results, Try.results34, go_sem, HT.out.1, HT.out.2]) rfl (gives2_of HE5.out (zeroA_in _ _ _) (HI1.out.fin _ _))
  · have CC := copyA HCH.out (HX.out.next I1.bel)
    have HE5 : Hid (enclR (n + 1) x = (.mk [] [(2, 0, [x])], 0)) := by unfold Hid; rw [HE.out, if_neg h8]
    clear I1 hb1 CD HI HX HE
    go_wp2_with fail
    refine CC.mono ?_
    rintro e w2 ⟨⟨v, rfl, hv⟩, hb2⟩
    obtain ⟨y1, m1, y2, m2, rfl, -, -⟩ := hv.form
    rw [HSC.out.1, HSC.out.2] at hv ⊢
    have I2 := HI1.out.next hb2
    obtain ⟨W3, e3⟩ : ∃ W3, w2.alloc (.cells #[.slice y1 SA m1, .slice y2 CA m2] 25) = W3 := ⟨_, rfl⟩
    obtain ⟨W4, e4⟩ : ∃ W4, W3.alloc (.cells #[.int .i64 2, .int .i64 0, .slice (some ⟨w2.heap.size, 0, none⟩) 1 1] 36) = W4 := ⟨_, rfl⟩
    have B3 : Below w2.heap.size w2 W3 := by rw [← e3]; exact one_alloc _ _
    have z3 : W3.heap.size = w2.heap.size + 1 := by rw [← e3]; simp
    have B4 : Below W3.heap.size W3 W4 := by rw [← e4]; exact one_alloc _ _
    have z4 : W4.heap.size = w2.heap.size + 2 := by rw [← e4]; simp [z3]
    have B24 : Below w2.heap.size w2 W4 := B3.trans (B4.mono (by omega))
    have o0 : W3.cell? ⟨w2.heap.size, 0, none⟩ = some (.slice y1 SA m1) := by rw [← e3]; exact cell_new0 w2 _ 25 0 _ rfl
    have o1 : W3.cell? ⟨w2.heap.size, 1, none⟩ = some (.slice y2 CA m2) := by rw [← e3]; exact cell_new0 w2 _ 25 1 _ rfl
    have v0 : W4.cell? ⟨w2.heap.size + 1, 0, none⟩ = some (.int .i64 2) := by rw [← z3, ← e4]; exact cell_new0 W3 _ 36 0 _ rfl
    have v1 : W4.cell? ⟨w2.heap.size + 1, 1, none⟩ = some (.int .i64 0) := by rw [← z3, ← e4]; exact cell_new0 W3 _ 36 1 _ rfl
    have v2 : W4.cell? ⟨w2.heap.size + 1, 2, none⟩ = some (.slice (some ⟨w2.heap.size, 0, none⟩) 1 1) := by rw [← z3, ← e4]; exact cell_new0 W3 _ 36 2 _ rfl
    have I4 := I2.next B24
    have hs2 := I2.size
    have hs1 := HI1.out.size
    have hw12 := hb2.size
    have A4 : ArIn (n + 2) (w.heap.size + 2) W4 (.mk [] [(2, 0, [x])]) (.agg #[.slice none 0 0, .slice (some ⟨w2.heap.size + 1, 0, none⟩) 1 1]) := box_in ((hv.next B24).mono hs1 (Below.refl _ _)) (by omega) (by omega) (by omega) (by omega) ((B4.cell (p := ⟨w2.heap.size, 0, none⟩) (by show w2.heap.size < _; omega)).trans o0) ((B4.cell (p := ⟨w2.heap.size, 1, none⟩) (by show w2.heap.size < _; omega)).trans o1) v0 v1 v2
    have p0 := I4.p0
    have p1 := I4.p1
    have f0 := I4.f0
    have f1 := I4.f1
    have HT := hide (I4.put (.slice none 0 0) (.slice (some ⟨w2.heap.size + 1, 0, none⟩) 1 1))
    have HF := hide (I4.give A4 (Nat.le_refl _))
    have HFI := hide I4.fin
    clear I4 A4 hv hb2 HI1 I2 CC B3 B4 B24 o0 o1 v0 v1 v2 hs1 hs2 hw12 z4 q0 q1 hz2
    go_wp2
    exact bodyPost_ret (v := .tuple #[.agg #[.slice none 0 0, .slice (some ⟨w2.heap.size + 1, 0, none⟩) 1 1], .int .i64 0]) (by simp [results, Try.results34, go_sem, HT.out.1, HT.out.2]) rfl (gives2_of HE5.out (HF.out _ _) (HFI.out _ _))
end Go.Proofs.Ytmjncdhahdpplaa
