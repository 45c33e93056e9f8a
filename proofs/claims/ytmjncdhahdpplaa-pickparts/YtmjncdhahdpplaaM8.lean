/-
  What comes of Drop may be; pieces and Dy of Drop.
  A variable that holds an array; what calls of Atom and Dy give, for regions that draw their order.
  The contract of layer 6's statements' works.
  The contract of layer 6's oftenAs: so many places from 0 on, each so often as counts say.
  The contract of layer 6's repeated.
  The contracts of layer 6's pieces and Dy for RepF and RepL, and of the document's Listed.
  Rotations by atoms: what comes has the same shape; twice is once by the sum; by as many as there are is nothing.
  Layer 6's Dy of arrays that may not be.
  To look one item up, and to take one of what is left without those ahead of it, come to the same. Mathematics.
  Repeated by ones an array is itself; by noughts it has no item left. Mathematics.
  The contracts of slices.Clone with what its row owns, and of slices.Insert of a one ahead of, or behind, such a row.
-/
import Derived.Test.YtmjncdhahdpplaaM7
import Derived.Lib.Overlaps
namespace Go.Proofs.Ytmjncdhahdpplaa
open Go.ChangeShapes Go.WideShapes Go.ChangeAt Go.RowKit
set_option linter.unusedVariables false
set_option maxRecDepth 100000
set_option maxHeartbeats 4000000 in
theorem pieces_43 {n lo lo' : Nat} {x y : Ar} {va vb : Value} {w0 w : World} (hx : ArIn (n + 1) lo w0 x va) (hy : ArIn (n + 1) lo' w0 y vb) (hb0 : Below w0.heap.size w0 w) (hcx : chkA 8 x = 0) (hcy : chkA 8 y = 0) (hcapx : Caps va) (hcapy : Caps vb) (hI64 : I64 (numR x).1) :
    Calls Try.prog 46 #[.int .i64 43, va, vb] w fun e w' => Gives2K (n + 1) w0 (drpR x (lstA y)).1 (drpR x (lstA y)).2 w e w' := by
  obtain ⟨a1, c1, a2, c2, rfl, R, hc⟩ := hx.form
  obtain ⟨b1, d1, b2, d2, rfl, R', hc'⟩ := hy.form
  have I := in3_new w (.slice a1 x.shape.length c1) (.slice a2 x.cells.length c2) (.slice b1 y.shape.length d1) (.slice b2 y.cells.length d2)
  obtain ⟨W3, e3⟩ : ∃ W3, ((w.alloc (.cells #[.slice a1 x.shape.length c1, .slice a2 x.cells.length c2] 25)).alloc (.cells #[.slice b1 y.shape.length d1, .slice b2 y.cells.length d2] 25)).alloc (.cells #[.slice none 0 0, .slice none 0 0] 25) = W3 := ⟨_, rfl⟩
  rw [e3] at I
  have NB : Below w0.heap.size w0 W3 := hb0.trans (I.bel.mono hb0.size)
  have q0 := I.q0
  have q1 := I.q1
  have r0 := I.r0
  have r1 := I.r1
  have HI := hide I
  have HNB := hide NB
  obtain ⟨lx8, cx16⟩ := chk_len hcx
  obtain ⟨ly8, cy16⟩ := chk_len hcy
  obtain ⟨k1, k2, k3⟩ := lst_facts hcy
  have HC1 := hide (plisted_row hy NB.drew hcapy)
  have HC2 : Hid (∀ W s1 j1, Below w0.heap.size w0 W → Row 0 W s1 (lstA y).shape → (lstA y).shape.length ≤ j1 → Calls Try.prog 77 #[.agg #[.slice a1 x.shape.length c1, .slice a2 x.cells.length c2], .agg #[.slice s1 (lstA y).shape.length j1, .slice b2 y.cells.length d2]] W fun e w' => Gives2K (n + 1) w0 (drpR x (lstA y)).1 (drpR x (lstA y)).2 W e w') := by
    intro W s1 j1 hW hRW hj
    have := dropped_row (y := lstA y) (b2 := b2) (d1 := j1) (d2 := d2) hx hRW (by rw [k2]; exact hc') hW hcx k1 (by rw [k2]; exact ⟨_, _, _, _, _, _, rfl, hj, (caps_form hcapy).2⟩) k3 hI64
    rw [k2] at this
    exact this
  obtain ⟨⟨Y, EY⟩, hR⟩ : ∃ p, drpR x (lstA y) = p := ⟨_, rfl⟩
  rw [hR] at HC2 ⊢
  simp only at HC2 ⊢
  unfold LstIs at HC1
  obtain ⟨SL, hSL⟩ : ∃ SL, (lstA y).shape.length = SL := ⟨_, rfl⟩
  rw [hSL] at HC1 HC2
  obtain ⟨lsh, hlsh⟩ : ∃ l, (lstA y).shape = l := ⟨_, rfl⟩
  rw [hlsh] at HC1 HC2
  have HID : Hid (In3 w (.slice a1 x.shape.length c1) (.slice a2 x.cells.length c2) (.slice b1 y.shape.length d1) (.slice b2 y.cells.length d2) W3.drew) := I.next (Below.refl _ _).drew
  clear hR R hc R' hc' hx hy hcx hcy hcapx hcapy NB I hb0 k1 k2 k3 hSL hlsh hI64
  generalize x.shape.length = SX at *
  generalize x.cells.length = CX at *
  generalize y.shape.length = SY at *
  generalize y.cells.length = CY at *
  go_enter Try.func46, Try.ntmps46
  go_wp2
  clear e3
  go_region_with (first
    | (go_at_call 76; refine HC1.out.mono ?_; rintro e w1 ⟨⟨s1, j1, rfl, hj, hrw⟩, hb1⟩; have I1 := HID.out.next hb1; have t0 := I1.q0; have t1 := I1.q1; have NB1 := (HNB.out.drew.trans (hb1.mono HNB.out.drew.size)); have RW1 := hrw w1 NB1 (Keeps.refl _ _))
    | (go_at_call 77; refine (HC2.out _ _ _ NB1 RW1 hj).mono ?_; rintro e w2 ⟨⟨v, rfl, hcv, hv⟩, hb2⟩; obtain ⟨z1, m1, z2, m2, rfl, -, -⟩ := (hv w2 (NB1.trans (hb2.mono NB1.size)) (Keeps.refl _ _)).form; have I2 := I1.next hb2; have p0 := I2.p0; have p1 := I2.p1; have f0 := I2.f0; have f1 := I2.f1))
  all_goals
    have HT := hide (I2.put (.slice z1 Y.shape.length m1) (.slice z2 Y.cells.length m2))
    have HCV := hide hcv
    have hs3 := I1.size
    have HF : Hid (∀ u v W, Below w0.heap.size w0 W → Keeps w.heap.size ((w2.setCell ⟨w.heap.size + 2, 0, none⟩ u).setCell ⟨w.heap.size + 2, 1, none⟩ v) W → ArIn (n + 1) 0 W Y (.agg #[.slice z1 Y.shape.length m1, .slice z2 Y.cells.length m2])) := by
      intro u v W hW hK
      exact hv W hW (((keeps_three w2 w.heap.size u v).trans (hK.mono (show w.heap.size ≤ w.heap.size + 3 by omega))).mono hs3)
    have HFI := hide I2.fin
    clear I2 hv hcv hb2 HI hs3 q0 q1 r0 r1 HNB I1 t0 t1 NB1 RW1 hrw hb1 HC1 HC2 HID
    generalize Y.shape.length = YS at *
    generalize Y.cells.length = YC at *
    go_wp2
    exact bodyPost_ret (v := .tuple #[.agg #[.slice z1 YS m1, .slice z2 YC m2], .int .i64 EY]) (by simp [results, Try.results46, go_sem, HT.out.1, HT.out.2]) rfl ⟨⟨_, rfl, HCV.out, HF.out _ _⟩, HFI.out _ _⟩
theorem drp_chk {x y : Ar} (hy : chkA 8 y = 0) (hS : 0 < y.shape.length) : (¬ (drpR x y).2 = 0 → (drpR x y).1 = zeroA) ∧ ((drpR x y).2 = 0 → chkA 8 (drpR x y).1 = 0) := by
  unfold drpR
  by_cases h1 : (numR x).2 = 0
  case neg => rw [if_pos h1]; exact ⟨fun _ => rfl, fun h => absurd h h1⟩
  rw [if_neg (by simpa using h1)]
  refine ⟨fun h => absurd rfl h, fun _ => ?_⟩
  have hDb := (chk_axes hy).1 (gI y.shape 0) (getD_mem hS)
  obtain ⟨D, hD⟩ : ∃ D : Nat, gI y.shape 0 = (D : Int) := ⟨(gI y.shape 0).toNat, by omega⟩
  rw [hD, Int.toNat_natCast]
  have hle := drp_le (numR x).1 D
  generalize drpF (numR x).1 D = f at *
  generalize drpN (numR x).1 D = L at *
  have hsz : sizeE (y.shape.set 0 ((fromL f L).length : Int)) = 0 := by rw [fromL_len]; exact drop_size hy hS hD (by omega)
  have hA := alongA_cells hy hS (l := fromL f L) (fun i hi => by
    rw [fromL_len] at hi
    rw [fromL_at f L i hi, hD]
    omega) hsz
  have e : alongA y 0 (fromL f L) = .mk (y.shape.set 0 ((fromL f L).length : Int)) (alongA y 0 (fromL f L)).cells := rfl
  rw [e]
  refine chk_of hy hsz hA.1.symm ?_ hA.2
  rintro ⟨z, hz, hl⟩
  rcases List.mem_or_eq_of_mem_set hz with h | h
  · exact ((chkA_iff 8 y).1 hy).2.2.1 ⟨z, h, hl⟩
  · rw [fromL_len] at h; omega
theorem dy_43 {n lo lo' : Nat} {x y : Ar} {va vb : Value} {w : World} (hx : ArIn (n + 1) lo w x va) (hy : ArIn (n + 1) lo' w y vb) (hcx : chkA 8 x = 0) (hcy : chkA 8 y = 0) (kx : Caps va) (ky : Caps vb) (hI : I64 (numR x).1) : Calls Try.prog 19 #[.int .i64 43, va, vb] w fun e w' => GivesD (n + 1) (drpR x (lstA y)).1 (drpR x (lstA y)).2 w e w' :=
  dy_of hx hy hcx hcy (fun W hW => pieces_43 hx hy hW hcx hcy kx ky hI) (drp_chk (lst_facts hcy).1 (lst_facts hcy).2.2).1 (drp_chk (lst_facts hcy).1 (lst_facts hcy).2.2).2
end Go.Proofs.Ytmjncdhahdpplaa
namespace Go.Proofs.Ytmjncdhahdpplaa
open Go.ChangeShapes Go.WideShapes Go.ChangeAt Go.RowKit
set_option linter.unusedVariables false
set_option maxRecDepth 100000
/-- A block laid for a variable, still as it was laid. -/
def Zb (w : World) (b : Nat) : Prop := w.cell? ⟨b, 0, none⟩ = some (.slice none 0 0) ∧ w.cell? ⟨b, 1, none⟩ = some (.slice none 0 0) ∧ w.frozen? ⟨b, 0, none⟩ = false ∧ w.frozen? ⟨b, 1, none⟩ = false ∧ b < w.heap.size
theorem Zb.next {w w' : World} {b : Nat} (h : Zb w b) (hb : Below w.heap.size w w') : Zb w' b := by
  obtain ⟨h1, h2, h3, h4, h5⟩ := h
  exact ⟨(hb.cell (p := ⟨b, 0, none⟩) h5).trans h1, (hb.cell (p := ⟨b, 1, none⟩) h5).trans h2, (hb.frozen (p := ⟨b, 0, none⟩) h5).trans h3, (hb.frozen (p := ⟨b, 1, none⟩) h5).trans h4, Nat.lt_of_lt_of_le h5 hb.size⟩
theorem Zb.new (w : World) : Zb (w.alloc (.cells #[.slice none 0 0, .slice none 0 0] 25)) w.heap.size := ⟨cell_new0 w _ 25 0 _ rfl, cell_new0 w _ 25 1 _ rfl, frozen_new w _ 25 0, frozen_new w _ 25 1, by simp⟩
theorem Zb.drew {w : World} {b : Nat} (h : Zb w b) : Zb w.drew b := h.next (Below.refl _ _).drew
/-- A variable that holds an array. -/
structure Var (n : Nat) (w : World) (b : Nat) (x : Ar) (u v : Value) : Prop where
  lt : b < w.heap.size
  c0 : w.cell? ⟨b, 0, none⟩ = some u
  c1 : w.cell? ⟨b, 1, none⟩ = some v
  ar : ArIn n 0 w x (.agg #[u, v])
  cap : Caps (.agg #[u, v])
theorem Var.next {n : Nat} {w w' : World} {b : Nat} {x : Ar} {u v : Value} (h : Var n w b x u v) (hb : Below w.heap.size w w') : Var n w' b x u v := ⟨Nat.lt_of_lt_of_le h.lt hb.size, (hb.cell (p := ⟨b, 0, none⟩) h.lt).trans h.c0, (hb.cell (p := ⟨b, 1, none⟩) h.lt).trans h.c1, h.ar.next hb, h.cap⟩
theorem var_new {n lo : Nat} {W3 w5 : World} {x : Ar} {u v : Value} (g : Below W3.heap.size W3 w5) (hz : ArIn n lo w5 x (.agg #[u, v])) (hc : Caps (.agg #[u, v])) : Below W3.heap.size W3 (w5.alloc (.cells #[u, v] 25)) ∧ Var n (w5.alloc (.cells #[u, v] 25)) w5.heap.size x u v := ⟨g.alloc g.size _, by simp, cell_new0 w5 _ 25 0 _ rfl, cell_new0 w5 _ 25 1 _ rfl, (hz.mono (Nat.zero_le _) (one_alloc _ _)), hc⟩
theorem var_old {n B : Nat} {W3 w4 w5 : World} {x : Ar} {u v : Value} (t : Zb w4 B) (hB : W3.heap.size ≤ B) (g : Below W3.heap.size W3 w5) (hb : Below w4.heap.size w4 w5) (hz : ArIn n w4.heap.size w5 x (.agg #[u, v])) (hc : Caps (.agg #[u, v])) : Below W3.heap.size W3 ((w5.setCell ⟨B, 0, none⟩ u).setCell ⟨B, 1, none⟩ v) ∧ Var n ((w5.setCell ⟨B, 0, none⟩ u).setCell ⟨B, 1, none⟩ v) B x u v := by
  obtain ⟨k0, k1, k2, k3, k4⟩ := t.next hb
  have st := set_two k0 k1 u v
  have hk := ((Keeps.refl w4.heap.size w5).setCell (p := ⟨B, 0, none⟩) t.2.2.2.2 u).setCell (p := ⟨B, 1, none⟩) t.2.2.2.2 v
  exact ⟨(g.setCell (p := ⟨B, 0, none⟩) hB u).setCell (p := ⟨B, 1, none⟩) hB v, by simpa using k4, by rw [World.cell?_setCell_other _ _ _ _ (by simp)]; exact st.1, st.2, (hz.keeps hk).mono (Nat.zero_le _) (Below.refl _ _), hc⟩
/-- What a call of Atom gives, in a form for regions that draw. -/
theorem atom_at (n : Nat) (k : Int) (W3 W : World) (h : Below W3.heap.size W3 W) : Calls Try.prog 22 #[.int .i64 k] W fun e w' => (∃ y1 n1 y2 n2, e = .returned (.agg #[.slice y1 0 n1, .slice y2 1 n2]) ∧ Caps (.agg #[.slice y1 0 n1, .slice y2 1 n2]) ∧ ArIn (n + 1) 0 w' (atomA k) (.agg #[.slice y1 0 n1, .slice y2 1 n2])) ∧ Below W3.heap.size W3 w' ∧ Below W.heap.size W w' := by
  refine (ratomK_any n k W).mono ?_
  rintro e w' ⟨⟨v, rfl, kc, hv⟩, hb⟩
  obtain ⟨y1, n1, y2, n2, rfl, -, -⟩ := hv.form
  exact ⟨⟨_, _, _, _, rfl, kc, hv.mono (Nat.zero_le _) (Below.refl _ _)⟩, h.trans (hb.mono h.size), hb⟩
/-- What a call of Dy gives, in such a form. -/
theorem dy_at {n YS YC : Nat} {Y : Ar} {E : Int} {args : Array Value} {R : Ar × Int} {W3 W : World} (h : Below W3.heap.size W3 W) (C : Calls Try.prog 19 args W fun e w' => GivesD (n + 1) R.1 R.2 W e w') (hR : R = (Y, E)) (hs : Y.shape.length = YS) (hc : Y.cells.length = YC) :
    Calls Try.prog 19 args W fun e w' => (∃ z1 l1 z2 l2, e = .returned (.tuple #[.agg #[.slice z1 YS l1, .slice z2 YC l2], .int .i64 E]) ∧ Caps (.agg #[.slice z1 YS l1, .slice z2 YC l2]) ∧ ArIn (n + 1) W.heap.size w' Y (.agg #[.slice z1 YS l1, .slice z2 YC l2])) ∧ Below W3.heap.size W3 w' ∧ Below W.heap.size W w' := by
  subst hR hs hc
  refine C.mono ?_
  rintro e w' ⟨⟨v, rfl, kc, hv⟩, hb⟩
  obtain ⟨y1, n1, y2, n2, rfl, -, -⟩ := hv.form
  exact ⟨⟨_, _, _, _, rfl, kc, hv⟩, h.trans (hb.mono h.size), hb⟩
end Go.Proofs.Ytmjncdhahdpplaa
namespace Go.Proofs.Ytmjncdhahdpplaa
open Go.ChangeShapes Go.WideShapes Go.ChangeAt Go.RowKit
set_option linter.unusedVariables false
set_option maxRecDepth 100000
theorem w_take : (takR (atomA (-5)) (lstA (numsA [1, 2, 3]))).2 = 0 ∧ (takR (atomA (-5)) (lstA (numsA [1, 2, 3]))).1.shape.length = 1 ∧ (takR (atomA (-5)) (lstA (numsA [1, 2, 3]))).1.cells.length = 5 ∧ (cAt (takR (atomA (-5)) (lstA (numsA [1, 2, 3]))).1.cells 2).2.1 = 1 := by decide
theorem w_from : (lookR (numsA [2, 0]) (numsA [1, 2, 3])).2 = 0 ∧ (lookR (numsA [2, 0]) (numsA [1, 2, 3])).1.shape.length = 1 ∧ (lookR (numsA [2, 0]) (numsA [1, 2, 3])).1.cells.length = 2 ∧ (cAt (lookR (numsA [2, 0]) (numsA [1, 2, 3])).1.cells 0).2.1 = 3 := by decide
theorem w_at : (lookR (atomA 3) (numsA [1, 2, 3])).2 = 8 ∧ (lookR (atomA 3) (numsA [1, 2, 3])).1.shape.length = 0 ∧ (lookR (atomA 3) (numsA [1, 2, 3])).1.cells.length = 0 := by decide
theorem chk_123 : chkA 8 (numsA [1, 2, 3]) = 0 := chk_nums _ (by decide)
theorem chk_20 : chkA 8 (numsA [2, 0]) = 0 := chk_nums _ (by decide)
set_option maxHeartbeats 8000000 in
theorem pworks_any (w : World) : Calls Try.prog 18 #[] w fun e w' => e = .returned (.bool true) ∧ Below w.heap.size w w' := by
  have HB0 := hide (one_alloc w (.cells #[.int .i64 1, .int .i64 2, .int .i64 3] 2))
  have C1 := rnumsK_any 0 [1, 2, 3] _ 3 _ ((row_new w [1, 2, 3] 2 (0, 0) (by simp)).low (Nat.zero_le _)) (by decide)
  simp only [List.map_cons, List.map_nil, List.length_cons, List.length_nil, Nat.zero_add] at C1
  go_enter Try.func18, Try.ntmps18
  go_wp2_with fail
  refine C1.mono ?_
  rintro e w2 ⟨⟨v, rfl, kc, hv⟩, hb2⟩
  obtain ⟨x1, m1, x2, m2, rfl, -, -⟩ := hv.form
  have es : (numsA [1, 2, 3]).shape.length = 1 := rfl
  have ec : (numsA [1, 2, 3]).cells.length = 3 := rfl
  simp only [es, ec] at hv kc ⊢
  obtain ⟨W3, e3⟩ : ∃ W3, w2.alloc (.cells #[.slice x1 1 m1, .slice x2 3 m2] 25) = W3 := ⟨_, rfl⟩
  obtain ⟨B3, V3⟩ := var_new (W3 := w) (HB0.out.trans (hb2.mono HB0.out.size)) hv kc
  rw [e3] at B3 V3
  have HBW := hide B3
  have HV : Hid (∀ W, Below W3.heap.size W3 W → Var 1 W w2.heap.size (numsA [1, 2, 3]) (.slice x1 1 m1) (.slice x2 3 m2)) := fun W h => V3.next h
  have KS : Hid (∀ W, Below W3.heap.size W3 W → (Below W3.heap.size W3 W ∧ W.cell? ⟨w2.heap.size, 0, none⟩ = some (.slice x1 1 m1) ∧ W.cell? ⟨w2.heap.size, 1, none⟩ = some (.slice x2 3 m2))) := fun W h => ⟨h, (HV.out W h).c0, (HV.out W h).c1⟩
  obtain ⟨⟨T, ET⟩, hT⟩ : ∃ p, takR (atomA (-5)) (lstA (numsA [1, 2, 3])) = p := ⟨_, rfl⟩
  have HT := hide w_take
  rw [hT] at HT
  obtain ⟨t1, t2, t3, t4⟩ := HT.out
  simp only at t1 t2 t3 t4
  subst t1
  have HT4 := hide t4
  have CA : Hid (∀ W, Below W3.heap.size W3 W → _) := fun W h => atom_at 0 (-5) W3 W h
  have CD : Hid (∀ W, Below W3.heap.size W3 W → ∀ y1 n1 y2 n2, Caps (.agg #[.slice y1 0 n1, .slice y2 1 n2]) → ArIn 1 0 W (atomA (-5)) (.agg #[.slice y1 0 n1, .slice y2 1 n2]) → _) := fun W h y1 n1 y2 n2 kc hy => dy_at h (dy_42 hy (HV.out W h).ar (chk_atom _) chk_123 kc (HV.out W h).cap) hT t2 t3
  clear hv kc hb2 es ec B3 V3 C1 HB0 HT t2 t3 t4
  go_wp2
  clear e3
  go_cut [2, 3] from 10 to 15 (fun sx sy wx => ∃ B z1 l1 z2 l2, sx = .pointer (some ⟨B, 0, none⟩) ∧ sy = .int .i64 0 ∧ Below W3.heap.size W3 wx ∧ Var 1 wx B T (.slice z1 1 l1) (.slice z2 5 l2))
  case first =>
    have HD0 : Hid (Below W3.heap.size W3 W3.drew) := (Below.refl _ _).drew
    have HD1 : Hid (Below W3.heap.size W3 (W3.alloc (.cells #[.slice none 0 0, .slice none 0 0] 25)).drew) := (one_alloc _ _).drew
    have HD2 : Hid (Below W3.heap.size W3 (W3.drew.alloc (.cells #[.slice none 0 0, .slice none 0 0] 25))) := (Below.refl _ _).drew.alloc (Nat.le_refl _) _
    have HAL : Hid (∀ W o, Below W3.heap.size W3 W → Below W3.heap.size W3 (W.alloc o)) := fun W o h => h.alloc h.size o
    have HSET : Hid (∀ W b u v, Below W3.heap.size W3 W → W3.heap.size ≤ b → Below W3.heap.size W3 ((W.setCell ⟨b, 0, none⟩ u).setCell ⟨b, 1, none⟩ v)) := fun W b u v h hb => (h.setCell (p := ⟨b, 0, none⟩) hb u).setCell (p := ⟨b, 1, none⟩) hb v
    have HLE : Hid (W3.heap.size ≤ W3.heap.size) := Nat.le_refl _
    go_region_held3 (fun W => Below W3.heap.size W3 W ∧ W.cell? ⟨w2.heap.size, 0, none⟩ = some (.slice x1 1 m1) ∧ W.cell? ⟨w2.heap.size, 1, none⟩ = some (.slice x2 3 m2))
      (first | with_reducible exact KS.out _ HD0.out | with_reducible exact KS.out _ HD1.out | with_reducible exact KS.out _ HD2.out | with_reducible exact KS.out _ (by with_reducible assumption) | with_reducible exact KS.out _ (HAL.out _ _ (by with_reducible assumption)) | with_reducible exact KS.out _ (HSET.out _ _ _ _ (by with_reducible assumption) (by with_reducible assumption)) | with_reducible exact KS.out _ (HSET.out _ _ _ _ (by with_reducible assumption) HLE.out))
      (first
        | (go_at_call 22; first
            | ((with_reducible refine (CA.out _ HD0.out).mono ?_); rintro e w4 ⟨⟨y1, n1, y2, n2, rfl, kc, hy⟩, g4, hb4⟩; have s4 := g4.size; clear hb4)
            | ((with_reducible refine (CA.out _ HD1.out).mono ?_); rintro e w4 ⟨⟨y1, n1, y2, n2, rfl, kc, hy⟩, g4, hb4⟩; have t4 := (Zb.new W3).drew.next hb4; clear hb4)
            | ((with_reducible refine (CA.out _ HD2.out).mono ?_); rintro e w4 ⟨⟨y1, n1, y2, n2, rfl, kc, hy⟩, g4, hb4⟩; have t4 := (Zb.new W3.drew).next hb4; clear hb4))
        | (go_at_call 19; first
            | ((with_reducible refine (CD.out w4 g4 y1 n1 y2 n2 kc hy).mono ?_); rintro e w5 ⟨⟨z1, l1, z2, l2, rfl, hc, hz⟩, g5, hb5⟩; first | (obtain ⟨k0, k1, k2, k3, -⟩ := t4.next hb5) | skip)
            | ((with_reducible refine (CD.out (w4.alloc (.cells #[.slice none 0 0, .slice none 0 0] 25)) (g4.alloc g4.size _) y1 n1 y2 n2 kc (hy.next (one_alloc _ _))).mono ?_); rintro e w5 ⟨⟨z1, l1, z2, l2, rfl, hc, hz⟩, g5, hb5⟩; obtain ⟨k0, k1, k2, k3, -⟩ := (Zb.new w4).next hb5)))
    all_goals
      go_wp2
      go_meet
    all_goals
      case rel =>
        first
          | exact ⟨_, _, _, _, _, rfl, rfl, var_new g5 hz hc⟩
          | exact ⟨_, _, _, _, _, rfl, rfl, var_old (Zb.new w4) g4.size g5 hb5 hz hc⟩
          | exact ⟨_, _, _, _, _, rfl, rfl, var_old t4 (Nat.le_refl _) g5 hb5 hz hc⟩
  case rest =>
  obtain ⟨B, z1, l1, z2, l2, rfl, rfl, g6, V6⟩ := hcut
  generalize wc = wA at *
  have HG6 := hide g6
  have HV6 : Hid (∀ W, Below wA.heap.size wA W → Var 1 W B T (.slice z1 1 l1) (.slice z2 5 l2)) := fun W h => V6.next h
  have HVA : Hid (∀ W, Below wA.heap.size wA W → Var 1 W w2.heap.size (numsA [1, 2, 3]) (.slice x1 1 m1) (.slice x2 3 m2)) := fun W h => HV.out W (HG6.out.trans (h.mono HG6.out.size))
  clear CA CD KS hT g6 V6
  obtain ⟨⟨F, EF⟩, hF⟩ : ∃ p, lookR (numsA [2, 0]) (numsA [1, 2, 3]) = p := ⟨_, rfl⟩
  have HT := hide w_from
  rw [hF] at HT
  obtain ⟨t1, t2, t3, t4⟩ := HT.out
  simp only at t1 t2 t3 t4
  subst t1
  have HF4 := hide t4
  have CN : Hid (∀ W b, Below wA.heap.size wA W → Row 0 W (some ⟨b, 0, none⟩) [2, 0] → Calls Try.prog 25 #[.slice (some ⟨b, 0, none⟩) 2 2] W fun e w' => (∃ y1 n1 y2 n2, e = .returned (.agg #[.slice y1 1 n1, .slice y2 2 n2]) ∧ Caps (.agg #[.slice y1 1 n1, .slice y2 2 n2]) ∧ ArIn 1 0 w' (numsA [2, 0]) (.agg #[.slice y1 1 n1, .slice y2 2 n2])) ∧ Below wA.heap.size wA w' ∧ Below W.heap.size W w') := by
    intro W b h hR
    refine (rnumsK_any 0 [2, 0] _ 2 W hR (by decide)).mono ?_
    rintro e w' ⟨⟨v, rfl, kc, hv⟩, hb⟩
    obtain ⟨y1, n1, y2, n2, rfl, -, -⟩ := hv.form
    exact ⟨⟨_, _, _, _, rfl, kc, hv.mono (Nat.zero_le _) (Below.refl _ _)⟩, h.trans (hb.mono h.size), hb⟩
  have CD : Hid (∀ W, Below wA.heap.size wA W → ∀ y1 n1 y2 n2, Caps (.agg #[.slice y1 1 n1, .slice y2 2 n2]) → ArIn 1 0 W (numsA [2, 0]) (.agg #[.slice y1 1 n1, .slice y2 2 n2]) → _) := fun W h y1 n1 y2 n2 kc hy => dy_at h (dy_52 hy (HVA.out W h).ar chk_20 chk_123 kc (HVA.out W h).cap) hF t2 t3
  have KS : Hid (∀ W, Below wA.heap.size wA W → (Below wA.heap.size wA W ∧ W.cell? ⟨w2.heap.size, 0, none⟩ = some (.slice x1 1 m1) ∧ W.cell? ⟨w2.heap.size, 1, none⟩ = some (.slice x2 3 m2))) := fun W h => ⟨h, (HVA.out W h).c0, (HVA.out W h).c1⟩
  clear HT t2 t3 t4 HV
  go_wp2
  go_cut [4, 5] from 16 to 22 (fun sx sy wx => ∃ B z1 l1 z2 l2, sx = .pointer (some ⟨B, 0, none⟩) ∧ sy = .int .i64 0 ∧ Below wA.heap.size wA wx ∧ Var 1 wx B F (.slice z1 1 l1) (.slice z2 2 l2))
  case first =>
    have NW := fun (W : World) => (row_new W [2, 0] 2 (0, 0) (by simp)).low (Nat.zero_le _)
    have HA : Hid (Below wA.heap.size wA (wA.alloc (.cells #[.int .i64 2, .int .i64 0] 2)).drew ∧ Row 0 (wA.alloc (.cells #[.int .i64 2, .int .i64 0] 2)).drew (some ⟨wA.heap.size, 0, none⟩) [2, 0]) := ⟨(one_alloc _ _).drew, (row_new wA [2, 0] 2 (0, 0) (by simp)).low (Nat.zero_le _)⟩
    have sZ : (wA.alloc (.cells #[.slice none 0 0, .slice none 0 0] 25)).heap.size = wA.heap.size + 1 := by simp
    have sL : (wA.alloc (.cells #[.int .i64 2, .int .i64 0] 2)).heap.size = wA.heap.size + 1 := by simp
    have HB : Hid (Below wA.heap.size wA ((wA.alloc (.cells #[.slice none 0 0, .slice none 0 0] 25)).alloc (.cells #[.int .i64 2, .int .i64 0] 2)).drew ∧ Row 0 ((wA.alloc (.cells #[.slice none 0 0, .slice none 0 0] 25)).alloc (.cells #[.int .i64 2, .int .i64 0] 2)).drew (some ⟨wA.heap.size + 1, 0, none⟩) [2, 0]) := ⟨(two_allocs wA _ _).drew, by
      have := (row_new (wA.alloc (.cells #[.slice none 0 0, .slice none 0 0] 25)) [2, 0] 2 (0, 0) (by simp)).low (Nat.zero_le _)
      rw [sZ] at this
      exact this⟩
    have HC : Hid (Below wA.heap.size wA ((wA.alloc (.cells #[.int .i64 2, .int .i64 0] 2)).alloc (.cells #[.slice none 0 0, .slice none 0 0] 25)).drew ∧ Row 0 ((wA.alloc (.cells #[.int .i64 2, .int .i64 0] 2)).alloc (.cells #[.slice none 0 0, .slice none 0 0] 25)).drew (some ⟨wA.heap.size, 0, none⟩) [2, 0]) := ⟨(two_allocs wA _ _).drew, Row.next (w := wA.alloc (.cells #[.int .i64 2, .int .i64 0] 2)) ((row_new wA [2, 0] 2 (0, 0) (by simp)).low (Nat.zero_le _)) (one_alloc (wA.alloc (.cells #[.int .i64 2, .int .i64 0] 2)) (.cells #[.slice none 0 0, .slice none 0 0] 25)).drew⟩
    have ZBB : Hid (Zb ((wA.alloc (.cells #[.slice none 0 0, .slice none 0 0] 25)).alloc (.cells #[.int .i64 2, .int .i64 0] 2)).drew wA.heap.size) := ((Zb.new wA).next (one_alloc _ _)).drew
    have ZBC : Hid (Zb ((wA.alloc (.cells #[.int .i64 2, .int .i64 0] 2)).alloc (.cells #[.slice none 0 0, .slice none 0 0] 25)).drew (wA.heap.size + 1)) := by
      have := (Zb.new (wA.alloc (.cells #[.int .i64 2, .int .i64 0] 2))).drew
      rw [sL] at this
      exact this
    have HRR : Hid (Below wA.heap.size wA wA.drew) := (Below.refl _ _).drew
    have HZA : Hid (Below wA.heap.size wA (wA.alloc (.cells #[.slice none 0 0, .slice none 0 0] 25)).drew) := (one_alloc _ _).drew
    have HAL : Hid (∀ W o, Below wA.heap.size wA W → Below wA.heap.size wA (W.alloc o)) := fun W o h => h.alloc h.size o
    have HSET : Hid (∀ W b u v, Below wA.heap.size wA W → wA.heap.size ≤ b → Below wA.heap.size wA ((W.setCell ⟨b, 0, none⟩ u).setCell ⟨b, 1, none⟩ v)) := fun W b u v h hb => (h.setCell (p := ⟨b, 0, none⟩) hb u).setCell (p := ⟨b, 1, none⟩) hb v
    have le0 : Hid (wA.heap.size ≤ wA.heap.size ∧ wA.heap.size ≤ wA.heap.size + 1) := ⟨Nat.le_refl _, Nat.le_succ _⟩
    clear NW sZ sL
    go_region_held3 (fun W => Below wA.heap.size wA W ∧ W.cell? ⟨w2.heap.size, 0, none⟩ = some (.slice x1 1 m1) ∧ W.cell? ⟨w2.heap.size, 1, none⟩ = some (.slice x2 3 m2))
      (first | with_reducible exact KS.out _ HA.out.1 | with_reducible exact KS.out _ HB.out.1 | with_reducible exact KS.out _ HC.out.1 | with_reducible exact KS.out _ HRR.out | with_reducible exact KS.out _ HZA.out | with_reducible exact KS.out _ (by with_reducible assumption) | with_reducible exact KS.out _ (HAL.out _ _ (by with_reducible assumption)) | with_reducible exact KS.out _ (HSET.out _ _ _ _ (by with_reducible assumption) (by with_reducible assumption)) | with_reducible exact KS.out _ (HSET.out _ _ _ _ (by with_reducible assumption) le0.out.1) | with_reducible exact KS.out _ (HSET.out _ _ _ _ (by with_reducible assumption) le0.out.2))
      (first
        | (go_at_call 25; first
            | ((with_reducible refine (CN.out _ _ HA.out.1 HA.out.2).mono ?_); rintro e w4 ⟨⟨y1, n1, y2, n2, rfl, kc, hy⟩, g4, hb4⟩; have s4 := g4.size; clear hb4)
            | ((with_reducible refine (CN.out _ _ HB.out.1 HB.out.2).mono ?_); rintro e w4 ⟨⟨y1, n1, y2, n2, rfl, kc, hy⟩, g4, hb4⟩; have t4 := ZBB.out.next hb4; clear hb4)
            | ((with_reducible refine (CN.out _ _ HC.out.1 HC.out.2).mono ?_); rintro e w4 ⟨⟨y1, n1, y2, n2, rfl, kc, hy⟩, g4, hb4⟩; have t4 := ZBC.out.next hb4; clear hb4))
        | (go_at_call 19; first
            | ((with_reducible refine (CD.out w4 g4 y1 n1 y2 n2 kc hy).mono ?_); rintro e w5 ⟨⟨z1, l1, z2, l2, rfl, hc, hz⟩, g5, hb5⟩; first | (obtain ⟨k0, k1, k2, k3, -⟩ := t4.next hb5) | skip)
            | ((with_reducible refine (CD.out (w4.alloc (.cells #[.slice none 0 0, .slice none 0 0] 25)) (g4.alloc g4.size _) y1 n1 y2 n2 kc (hy.next (one_alloc _ _))).mono ?_); rintro e w5 ⟨⟨z1, l1, z2, l2, rfl, hc, hz⟩, g5, hb5⟩; obtain ⟨k0, k1, k2, k3, -⟩ := (Zb.new w4).next hb5)))
    all_goals
      go_wp2
      go_meet
    all_goals
      case rel =>
        first
          | exact ⟨_, _, _, _, _, rfl, rfl, var_new g5 hz hc⟩
          | exact ⟨_, _, _, _, _, rfl, rfl, var_old (Zb.new w4) g4.size g5 hb5 hz hc⟩
          | exact ⟨_, _, _, _, _, rfl, rfl, var_old t4 le0.out.1 g5 hb5 hz hc⟩
          | exact ⟨_, _, _, _, _, rfl, rfl, var_old t4 le0.out.2 g5 hb5 hz hc⟩
  case rest =>
  obtain ⟨B2, f1, j1, f2, j2, rfl, rfl, g7, V7⟩ := hcut
  generalize wc = wB at *
  have HG7 := hide g7
  have HV7 : Hid (∀ W, Below wB.heap.size wB W → Var 1 W B2 F (.slice f1 1 j1) (.slice f2 2 j2)) := fun W h => V7.next h
  have HV6B : Hid (∀ W, Below wB.heap.size wB W → Var 1 W B T (.slice z1 1 l1) (.slice z2 5 l2)) := fun W h => HV6.out W (HG7.out.trans (h.mono HG7.out.size))
  have HVB : Hid (∀ W, Below wB.heap.size wB W → Var 1 W w2.heap.size (numsA [1, 2, 3]) (.slice x1 1 m1) (.slice x2 3 m2)) := fun W h => HVA.out W (HG7.out.trans (h.mono HG7.out.size))
  clear CN CD KS hF g7 V7 HV6 HVA
  obtain ⟨⟨G, EG⟩, hGG⟩ : ∃ p, lookR (atomA 3) (numsA [1, 2, 3]) = p := ⟨_, rfl⟩
  have HT := hide w_at
  rw [hGG] at HT
  obtain ⟨t1, t2, t3⟩ := HT.out
  simp only at t1 t2 t3
  subst t1
  have CA : Hid (∀ W, Below wB.heap.size wB W → _) := fun W h => atom_at 0 3 wB W h
  have CD : Hid (∀ W, Below wB.heap.size wB W → ∀ y1 n1 y2 n2, Caps (.agg #[.slice y1 0 n1, .slice y2 1 n2]) → ArIn 1 0 W (atomA 3) (.agg #[.slice y1 0 n1, .slice y2 1 n2]) → _) := fun W h y1 n1 y2 n2 kc hy => dy_at h (dy_53 (HVB.out W h).ar hy chk_123 (chk_atom _) (HVB.out W h).cap kc) hGG t2 t3
  have KS : Hid (∀ W, Below wB.heap.size wB W → (Below wB.heap.size wB W ∧ W.cell? ⟨w2.heap.size, 0, none⟩ = some (.slice x1 1 m1) ∧ W.cell? ⟨w2.heap.size, 1, none⟩ = some (.slice x2 3 m2))) := fun W h => ⟨h, (HVB.out W h).c0, (HVB.out W h).c1⟩
  clear HT t2 t3 HVB
  go_wp2
  go_cut [6, 7] from 23 to 28 (fun sx sy wx => ∃ B z1 l1 z2 l2, sx = .pointer (some ⟨B, 0, none⟩) ∧ sy = .int .i64 8 ∧ Below wB.heap.size wB wx ∧ Var 1 wx B G (.slice z1 0 l1) (.slice z2 0 l2))
  case first =>
    have HD0 : Hid (Below wB.heap.size wB wB.drew) := (Below.refl _ _).drew
    have HD1 : Hid (Below wB.heap.size wB (wB.alloc (.cells #[.slice none 0 0, .slice none 0 0] 25)).drew) := (one_alloc _ _).drew
    have HD2 : Hid (Below wB.heap.size wB (wB.drew.alloc (.cells #[.slice none 0 0, .slice none 0 0] 25))) := (Below.refl _ _).drew.alloc (Nat.le_refl _) _
    have HAL : Hid (∀ W o, Below wB.heap.size wB W → Below wB.heap.size wB (W.alloc o)) := fun W o h => h.alloc h.size o
    have HSET : Hid (∀ W b u v, Below wB.heap.size wB W → wB.heap.size ≤ b → Below wB.heap.size wB ((W.setCell ⟨b, 0, none⟩ u).setCell ⟨b, 1, none⟩ v)) := fun W b u v h hb => (h.setCell (p := ⟨b, 0, none⟩) hb u).setCell (p := ⟨b, 1, none⟩) hb v
    have HLE : Hid (wB.heap.size ≤ wB.heap.size) := Nat.le_refl _
    go_region_held3 (fun W => Below wB.heap.size wB W ∧ W.cell? ⟨w2.heap.size, 0, none⟩ = some (.slice x1 1 m1) ∧ W.cell? ⟨w2.heap.size, 1, none⟩ = some (.slice x2 3 m2))
      (first | with_reducible exact KS.out _ HD0.out | with_reducible exact KS.out _ HD1.out | with_reducible exact KS.out _ HD2.out | with_reducible exact KS.out _ (by with_reducible assumption) | with_reducible exact KS.out _ (HAL.out _ _ (by with_reducible assumption)) | with_reducible exact KS.out _ (HSET.out _ _ _ _ (by with_reducible assumption) (by with_reducible assumption)) | with_reducible exact KS.out _ (HSET.out _ _ _ _ (by with_reducible assumption) HLE.out))
      (first
        | (go_at_call 22; first
            | ((with_reducible refine (CA.out _ HD0.out).mono ?_); rintro e w4 ⟨⟨y1, n1, y2, n2, rfl, kc, hy⟩, g4, hb4⟩; have s4 := g4.size; clear hb4)
            | ((with_reducible refine (CA.out _ HD1.out).mono ?_); rintro e w4 ⟨⟨y1, n1, y2, n2, rfl, kc, hy⟩, g4, hb4⟩; have t4 := (Zb.new wB).drew.next hb4; clear hb4)
            | ((with_reducible refine (CA.out _ HD2.out).mono ?_); rintro e w4 ⟨⟨y1, n1, y2, n2, rfl, kc, hy⟩, g4, hb4⟩; have t4 := (Zb.new wB.drew).next hb4; clear hb4))
        | (go_at_call 19; first
            | ((with_reducible refine (CD.out w4 g4 y1 n1 y2 n2 kc hy).mono ?_); rintro e w5 ⟨⟨z1, l1, z2, l2, rfl, hc, hz⟩, g5, hb5⟩; first | (obtain ⟨k0, k1, k2, k3, -⟩ := t4.next hb5) | skip)
            | ((with_reducible refine (CD.out (w4.alloc (.cells #[.slice none 0 0, .slice none 0 0] 25)) (g4.alloc g4.size _) y1 n1 y2 n2 kc (hy.next (one_alloc _ _))).mono ?_); rintro e w5 ⟨⟨z1, l1, z2, l2, rfl, hc, hz⟩, g5, hb5⟩; obtain ⟨k0, k1, k2, k3, -⟩ := (Zb.new w4).next hb5)))
    all_goals
      go_wp2
      go_meet
    all_goals
      case rel =>
        first
          | exact ⟨_, _, _, _, _, rfl, rfl, var_new g5 hz hc⟩
          | exact ⟨_, _, _, _, _, rfl, rfl, var_old (Zb.new w4) g4.size g5 hb5 hz hc⟩
          | exact ⟨_, _, _, _, _, rfl, rfl, var_old t4 (Nat.le_refl _) g5 hb5 hz hc⟩
  case rest =>
  obtain ⟨B3, h1, i1, h2, i2, rfl, rfl, g8, V8⟩ := hcut
  obtain ⟨v0, v1⟩ : _ ∧ _ := ⟨(HV6B.out wc g8).c1, (HV7.out wc g8).c1⟩
  obtain ⟨q1, q2, q3, q4, hq, -, hqc⟩ := (HV6B.out wc g8).ar.form
  simp only [Value.agg.injEq, Array.mk.injEq, List.cons.injEq, Value.slice.injEq, and_true] at hq
  obtain ⟨-, rfl, hq5, -⟩ := hq
  obtain ⟨ab, cb, hcf⟩ := cells_fn hqc
  obtain ⟨r, o, rfl, -, hr, hcells⟩ := hcf (by rw [← hq5]; decide)
  have hrc := (hcells 2 (by rw [← hq5]; decide)).2.1
  rw [HT4.out] at hrc
  have hrc' : wc.cell? ⟨r, o + 6 + 1, none⟩ = some (.int .i64 1) := by simpa using hrc
  obtain ⟨p1, p2, p3, p4, hp, -, hpc⟩ := (HV7.out wc g8).ar.form
  simp only [Value.agg.injEq, Array.mk.injEq, List.cons.injEq, Value.slice.injEq, and_true] at hp
  obtain ⟨-, rfl, hp5, -⟩ := hp
  obtain ⟨ab', cb', hcf'⟩ := cells_fn hpc
  obtain ⟨r', o', rfl, -, hr', hcells'⟩ := hcf' (by rw [← hp5]; decide)
  have hsc := (hcells' 0 (by rw [← hp5]; decide)).2.1
  rw [HF4.out] at hsc
  have hsc' : wc.cell? ⟨r', o' + 1, none⟩ = some (.int .i64 3) := by simpa using hsc
  have HBF : Hid (Below w.heap.size w wc) := HBW.out.trans ((HG6.out.trans ((HG7.out.trans (g8.mono HG7.out.size)).mono HG6.out.size)).mono HBW.out.size)
  clear hcells hcells' hcf hcf' hrc hsc hq5 hp5 g8 V8 HV6B HV7 HG6 HG7 HBW CA CD KS hqc hpc hGG
  go_wp2
  go_ret
  exact ⟨rfl, HBF.out⟩
end Go.Proofs.Ytmjncdhahdpplaa
namespace Go.Proofs.Ytmjncdhahdpplaa
open Go.ChangeShapes Go.WideShapes Go.ChangeAt Go.RowKit
set_option linter.unusedVariables false
set_option maxRecDepth 100000
/-- How often a place stands. -/
def oCnt (cs : List Ce) (i : Nat) : Int := (cAt cs (i % cs.length)).2.1
/-- The places, each so often as it stands. -/
def oftL (cs : List Ce) : Nat → List Int
  | 0 => []
  | i + 1 => oftL cs i ++ List.replicate (oCnt cs i).toNat (i : Int)
theorem oftL_len (cs : List Ce) (i : Nat) : (oftL cs (i + 1)).length = (oftL cs i).length + (oCnt cs i).toNat := by simp [oftL]
theorem oftL_mono (cs : List Ce) {i j : Nat} (h : i ≤ j) : (oftL cs i).length ≤ (oftL cs j).length := by
  induction j with
  | zero => rw [Nat.le_zero.1 h]; exact Nat.le_refl _
  | succ j ih =>
    rcases Nat.lt_or_ge i (j + 1) with h1 | h1
    · rw [oftL_len]; have := ih (by omega); omega
    · rw [Nat.le_antisymm h h1]; exact Nat.le_refl _
def OftP (cs : List Ce) (long : Nat) (w w' : World) (a : Option Addr) (N cap : Nat) (E : Int) : Prop := (16384 < (oftL cs long).length ∧ E = 12) ∨ ((oftL cs long).length ≤ 16384 ∧ E = 0 ∧ N = (oftL cs long).length ∧ Own1 w w' a cap (oftL cs long))
def OftIs (cs : List Ce) (long : Nat) (w : World) (e : Ending) (w' : World) : Prop := (∃ a N cap E, e = .returned (.tuple #[.slice a N cap, .int .i64 E]) ∧ OftP cs long w w' a N cap E) ∧ Below w.heap.size w w'
set_option maxHeartbeats 4000000 in
theorem often_any {n lo : Nat} (cs : List Ce) (a2 : Option Addr) (c2 long : Nat) (w : World) (hc : CellsIn n lo w cs a2) (hlen : cs.length ≤ 16384) (hlong : long ≤ 16384) (h0 : 0 < long → 0 < cs.length) (hpos : ∀ i, i < cs.length → 0 ≤ (cAt cs i).2.1) :
    Calls Try.prog 103 #[.slice a2 cs.length c2, .int .i64 (long : Int)] w fun e w' => OftIs cs long w e w' := by
  obtain ⟨i3, hi3, hz30, hz31, hz32⟩ := infoI3
  obtain ⟨ab, cb, hcf⟩ := cells_fn hc
  have HCF := hide hcf
  have HP := hide hpos
  have HH0 := hide h0
  obtain ⟨CA, hCA⟩ : ∃ CA, cs.length = CA := ⟨_, rfl⟩
  have HCA := hide hCA
  rw [hCA] at hlen HCF HP HH0 ⊢
  have HO : Hid ((w.alloc (.cells #[] 3)).ownsRow w.heap.size 3 1 (.slice (some ⟨w.heap.size, 0, none⟩) 0 0) 0 []) := World.ownsRow_lit (base := w.heap.size) (e := 3) (size := 1) w #[] 0 (Nat.le_refl _) (by unfold maxLen; omega) rfl
  have HB := hide (one_alloc w (.cells #[] 3))
  clear hc hcf hpos h0 hCA
  go_enter Try.func103, Try.ntmps103
  go_wp2
  go_loopg [6, 11] long (fun g mv i wr => ∃ (j : Nat) (a : Option Addr) (c : Nat), g + j = long ∧ i = .int .i64 (j : Int) ∧ mv = .slice a (oftL cs j).length c ∧ Below w.heap.size w wr ∧ (oftL cs j).length ≤ 16384 ∧ wr.ownsRow w.heap.size 3 1 (.slice a (oftL cs j).length c) (oftL cs j).length ((oftL cs j).map (Value.int .i64)))
  case atStart => exact ⟨0, _, _, rfl, rfl, rfl, HB.out, by simp [oftL], HO.out⟩
  case round =>
    clear HO HB
    obtain ⟨j, a0, c0, hg, rfl, rfl, hbw, hL, hown⟩ := hrel
    by_cases hlt : j < long
    · have hCp := HH0.out (by omega)
      have hq : j % CA < CA := Nat.mod_lt _ hCp
      obtain ⟨b, off, rfl, -, hb, hcells⟩ := HCF.out hCp
      obtain ⟨-, g1, -, -⟩ := hcells (j % CA) hq
      have u1 := (hbw.cell (p := ⟨b, off + j % CA * 3 + 1, none⟩) hb).trans g1
      have HCNT : Hid (oCnt cs j = (cAt cs (j % CA)).2.1) := by unfold Hid oCnt; rw [HCA.out]
      have hN0 := HP.out (j % CA) hq
      have htm : (j : Int).tmod (CA : Int) = ((j % CA : Nat) : Int) := by rw [Int.tmod_eq_emod_of_nonneg (by omega)]; omega
      have hne : ¬ (CA : Int) = 0 := by omega
      have hne' : ¬ CA = 0 := by omega
      generalize (cAt cs (j % CA)).2.1 = NN at *
      generalize j % CA = q at *
      obtain ⟨L, hLL⟩ : ∃ L, (oftL cs j).length = L := ⟨_, rfl⟩
      have HL := hide hLL
      rw [hLL] at hL hown
      simp only [hLL]
      by_cases hbig : (16384 : Int) - (L : Int) < NN
      · have HF : Hid (OftIs cs long w (.returned (.tuple #[.slice none 0 0, .int .i64 12])) wr) := by
          refine ⟨⟨_, _, _, _, rfl, Or.inl ⟨?_, rfl⟩⟩, hbw⟩
          have h1 := oftL_mono cs (show j + 1 ≤ long by omega)
          rw [oftL_len, HCNT.out, HL.out] at h1
          omega
        clear hown hbw hcells g1 hLL
        go_wp2
        exact bodyPost_ret (v := .tuple #[.slice none 0 0, .int .i64 12]) (by simp [results, Try.results103, go_sem]) rfl HF.out
      · have HIN := hide (And.intro hbw hown)
        have hNle : NN ≤ 16384 := by omega
        have HSTEP : Hid (oftL cs (j + 1) = oftL cs j ++ List.replicate NN.toNat (j : Int)) := by
          unfold Hid
          show oftL cs j ++ List.replicate (oCnt cs j).toNat (j : Int) = _
          rw [HCNT.out]
        clear hown hbw hcells g1 hLL HCNT
        go_wp2
        go_loopg [6, 28] NN.toNat (fun g mv i wr => ∃ (t : Nat) (a : Option Addr) (c : Nat), g + t = NN.toNat ∧ i = .int .i64 (t : Int) ∧ mv = .slice a (L + t) c ∧ Below w.heap.size w wr ∧ wr.ownsRow w.heap.size 3 1 (.slice a (L + t) c) (L + t) ((oftL cs j ++ List.replicate t (j : Int)).map (Value.int .i64)))
        case atStart => exact ⟨0, _, _, rfl, rfl, rfl, HIN.out.1, by simpa using HIN.out.2⟩
        case round =>
          clear HIN
          obtain ⟨t, a5, c5, hgt, rfl, rfl, hbq, hownq⟩ := hrel
          by_cases htl : t < NN.toNat
          · have htN : (t : Int) < NN := by omega
            obtain ⟨W1, e1⟩ : ∃ W1, wr.alloc (.cells #[.int .i64 (j : Int)] 3) = W1 := ⟨_, rfl⟩
            have B1 : Below wr.heap.size wr W1 := by rw [← e1]; exact one_alloc _ _
            have HOWN : Hid (W1.ownsRow w.heap.size 3 1 (.slice a5 (L + t) c5) (L + t) ((oftL cs j ++ List.replicate t (j : Int)).map (Value.int .i64))) := by rw [← e1]; exact hownq.alloc _
            have HLI : Hid (Lies W1 (some ⟨wr.heap.size, 0, none⟩) [.int .i64 (j : Int)]) := by
              have : Row 0 W1 (some ⟨wr.heap.size, 0, none⟩) [(j : Int)] := by rw [← e1]; exact row_one (by simp) (Nat.zero_le _) (cell_new0 wr _ 3 0 _ rfl)
              exact this.lies
            have HBW : Hid (Below w.heap.size w W1) := hbq.trans (B1.mono hbq.size)
            clear hownq hbq B1
            go_wp2_with (at_builtin; refine wpList_append_any rfl _ _ 22 rfl w.heap.size 3 i3 (.int .i64 0) 1 8 Try.underlying22 hi3 hz30 hz31 hz32 rfl (by decide) _ (L + t) _ rfl HOWN.out (some ⟨wr.heap.size, 0, none⟩) 1 1 [.int .i64 (j : Int)] rfl rfl HLI.out ?c3 ?c4 HBW.out.size ?_)
            case c3 => unfold maxLen; omega
            case c4 => omega
            intro v' w5 hown5 hb5
            obtain ⟨a6, c6, rfl⟩ : ∃ a c, v' = .slice a (L + (t + 1)) c := by obtain ⟨a, c, h, -⟩ := owns_cap hown5; exact ⟨a, c, h⟩
            have HF : Hid (Below w.heap.size w w5 ∧ w5.ownsRow w.heap.size 3 1 (.slice a6 (L + (t + 1)) c6) (L + (t + 1)) ((oftL cs j ++ List.replicate (t + 1) (j : Int)).map (Value.int .i64))) := ⟨HBW.out.trans hb5, by
              have e : (oftL cs j ++ List.replicate (t + 1) (j : Int)).map (Value.int .i64) = (oftL cs j ++ List.replicate t (j : Int)).map (Value.int .i64) ++ [.int .i64 (j : Int)] := by simp [List.replicate_succ']
              rw [e]; simp only [List.map_append, List.map_replicate, List.append_assoc]; exact hown5⟩
            clear hown5 hb5 HOWN HLI HBW e1
            go_wp2
            go_roundg (NN.toNat - (t + 1))
            case rel => exact ⟨t + 1, _, _, by omega, by go_num, rfl, HF.out.1, HF.out.2⟩
            case measure => omega
          · have hte : ¬ (t : Int) < NN := by omega
            have hteq : t = NN.toNat := by omega
            have HF : Hid (Below w.heap.size w wr ∧ (oftL cs (j + 1)).length ≤ 16384 ∧ wr.ownsRow w.heap.size 3 1 (.slice a5 (L + t) c5) (oftL cs (j + 1)).length ((oftL cs (j + 1)).map (Value.int .i64)) ∧ (oftL cs (j + 1)).length = L + t) := by
              rw [HSTEP.out, ← hteq, List.length_append, List.length_replicate, HL.out]
              exact ⟨hbq, by omega, hownq, rfl⟩
            clear hbq hownq hteq
            go_wp2
            go_roundg (long - (j + 1))
            case rel => exact ⟨j + 1, _, _, by omega, by go_num, by rw [HF.out.2.2.2], HF.out.1, HF.out.2.1, by rw [HF.out.2.2.2] at *; exact HF.out.2.2.1⟩
            case measure => omega
    · have hje : j = long := by omega
      subst hje
      obtain ⟨a, cap, he, ho⟩ := own1_of hL hown
      simp only [Value.slice.injEq] at he
      obtain ⟨rfl, -, rfl⟩ := he
      have HF : Hid (OftIs cs j w (.returned (.tuple #[.slice a0 (oftL cs j).length c0, .int .i64 0])) wr) := ⟨⟨_, _, _, _, rfl, Or.inr ⟨hL, rfl, rfl, ho⟩⟩, hbw⟩
      clear hown ho hbw
      generalize (oftL cs j).length = L at *
      go_wp2
      exact bodyPost_ret (v := .tuple #[.slice a0 L c0, .int .i64 0]) (by simp [results, Try.results103, go_sem]) rfl HF.out
end Go.Proofs.Ytmjncdhahdpplaa
namespace Go.Proofs.Ytmjncdhahdpplaa
open Go.ChangeShapes Go.WideShapes Go.ChangeAt Go.RowKit
set_option linter.unusedVariables false
set_option maxRecDepth 100000
theorem belowN {B : Nat} {a w : World} (h : Below B a w) (n : Nat) : Below B a (w.drewN n) := h.trans ⟨rfl, rfl, rfl, Nat.le_refl _, fun _ _ => rfl⟩
theorem oftL_mem (cs : List Ce) (j : Nat) {z : Int} (h : z ∈ oftL cs j) : 0 ≤ z ∧ z < (j : Int) := by
  induction j with
  | zero => simp [oftL] at h
  | succ j ih =>
    rcases List.mem_append.1 h with h1 | h1
    · have := ih h1; omega
    · have := List.eq_of_mem_replicate h1; omega
theorem oftL_in (cs : List Ce) (j i : Nat) (hi : i < (oftL cs j).length) : 0 ≤ gI (oftL cs j) i ∧ gI (oftL cs j) i < (j : Int) := oftL_mem cs j (getD_mem hi)
def repF (x : Ar) (i : Nat) : Int := if ¬ (cAt x.cells i).1 = 0 ∨ (cAt x.cells i).2.1 < 0 then 5 else 0
def repR (x y : Ar) (k : Nat) : Ar × Int :=
  if 1 < x.shape.length then (zeroA, 6) else if ¬ firstUp (repF x) x.cells.length = 0 then (zeroA, 5) else
  if x.shape.length = 1 ∧ ¬ (x.cells.length : Int) = gI y.shape k then (zeroA, 7) else
  if 16384 < (oftL x.cells (gI y.shape k).toNat).length then (zeroA, 12) else
  if ¬ sizeE (y.shape.set k ((oftL x.cells (gI y.shape k).toNat).length : Int)) = 0 then (zeroA, sizeE (y.shape.set k ((oftL x.cells (gI y.shape k).toNat).length : Int))) else
  (alongA y k (oftL x.cells (gI y.shape k).toNat), 0)
theorem repF_pos {x : Ar} {N : Nat} (h : firstUp (repF x) N = 0) (i : Nat) (hi : i < N) : (cAt x.cells i).1 = 0 ∧ 0 ≤ (cAt x.cells i).2.1 := by
  have h1 := firstUp_zero h i (by omega)
  have h2 := firstUp_zero h (i + 1) (by omega)
  rw [firstUp_step h1] at h2
  unfold repF at h2
  by_cases hc : ¬ (cAt x.cells i).1 = 0 ∨ (cAt x.cells i).2.1 < 0
  · rw [if_pos hc] at h2; omega
  · exact ⟨Classical.not_not.1 fun h => hc (Or.inl h), by omega⟩
set_option maxHeartbeats 8000000 in
theorem repeated_row {n m lo lo' lo2 k : Nat} {x y : Ar} {va : Value} {b1 b2 : Option Addr} {d1 d2 : Nat} {w0 w : World} (hx : ArIn (m + 1) lo w0 x va) (R' : Row lo2 w b1 y.shape) (hc' : CellsIn n lo' w0 y.cells b2) (hb0 : Below w0.heap.size w0 w) (hcx : chkA 8 x = 0) (hcy : chkA 8 y = 0) (hcap : Caps (.agg #[.slice b1 y.shape.length d1, .slice b2 y.cells.length d2])) (hk : k < y.shape.length) :
    Calls Try.prog 81 #[va, .agg #[.slice b1 y.shape.length d1, .slice b2 y.cells.length d2], .int .i64 (k : Int)] w fun e w' => Gives2K (n + 1) w0 (repR x y k).1 (repR x y k).2 w e w' := by
  obtain ⟨a1, c1, a2, c2, rfl, R, hc⟩ := hx.form
  have I := in3_new w (.slice a1 x.shape.length c1) (.slice a2 x.cells.length c2) (.slice b1 y.shape.length d1) (.slice b2 y.cells.length d2)
  obtain ⟨W3, e3⟩ : ∃ W3, ((w.alloc (.cells #[.slice a1 x.shape.length c1, .slice a2 x.cells.length c2] 25)).alloc (.cells #[.slice b1 y.shape.length d1, .slice b2 y.cells.length d2] 25)).alloc (.cells #[.slice none 0 0, .slice none 0 0] 25) = W3 := ⟨_, rfl⟩
  rw [e3] at I
  have HI := hide I
  have HB0 := hide hb0
  have HY := hide (And.intro hc' (And.intro hcy hcap))
  have HRY := hide R'
  have HXC := hide hc
  obtain ⟨lx8, cx16⟩ := chk_len hcx
  obtain ⟨ly8, cy16⟩ := chk_len hcy
  have hDb := (chk_axes hcy).1 (gI y.shape k) (getD_mem hk)
  obtain ⟨D, hD⟩ : ∃ D : Nat, gI y.shape k = (D : Int) := ⟨(gI y.shape k).toNat, by omega⟩
  have hD16 : D ≤ 16384 := by omega
  have HA1 := hide (fun h => (atom_one hcx h).2)
  have HE : Hid (repR x y k = if 1 < x.shape.length then (zeroA, 6) else if ¬ firstUp (repF x) x.cells.length = 0 then (zeroA, 5) else if x.shape.length = 1 ∧ ¬ (x.cells.length : Int) = (D : Int) then (zeroA, 7) else if 16384 < (oftL x.cells D).length then (zeroA, 12) else if ¬ sizeE (y.shape.set k ((oftL x.cells D).length : Int)) = 0 then (zeroA, sizeE (y.shape.set k ((oftL x.cells D).length : Int))) else (alongA y k (oftL x.cells D), 0)) := by unfold Hid repR; rw [hD, Int.toNat_natCast]
  have HD := hide hD
  obtain ⟨by', oy, rfl, hby, hcy0⟩ := row_at R' (j := k) hk
  have eg : y.shape[k]?.getD 0 = (D : Int) := hD
  rw [eg] at hcy0
  have HCY0 := hide (And.intro hby hcy0)
  obtain ⟨ab, cb, hcf⟩ := cells_fn hc
  have HCF := hide hcf
  have q0 := I.q0
  have q1 := I.q1
  have p0 := I.p0
  have p1 := I.p1
  have f0 := I.f0
  have f1 := I.f1
  have HT0 := hide (I.put (.slice none 0 0) (.slice none 0 0))
  have HGO : Hid (∀ l a c W, Row lo2 W a l → _) := fun l a c W (h : Row lo2 W a l) hl hk' long => reshaped_any l a c k long W h hl hk'
  obtain ⟨SX, hSX⟩ : ∃ SX, x.shape.length = SX := ⟨_, rfl⟩
  obtain ⟨CX, hCX⟩ : ∃ CX, x.cells.length = CX := ⟨_, rfl⟩
  obtain ⟨SY, hSY⟩ : ∃ SY, y.shape.length = SY := ⟨_, rfl⟩
  obtain ⟨CY, hCY⟩ : ∃ CY, y.cells.length = CY := ⟨_, rfl⟩
  have HSC := hide (And.intro hSX (And.intro hCX (And.intro hSY hCY)))
  simp only [hSX, hCX, hSY, hCY] at e3 q0 q1 HI HY HE HA1 HCF lx8 cx16 ly8 cy16 hk ⊢
  clear R hc I hx R' hc' hSX hCX hSY hCY hb0 hcx hcy hcap hD hby hcy0 eg hDb hcf HGO
  by_cases hS1 : 1 < SX
  · have HE5 : Hid (repR x y k = (zeroA, 6)) := by unfold Hid; rw [HE.out, if_pos hS1]
    clear HE HY HRY HXC
    go_enter Try.func81, Try.ntmps81
    go_wp2
    exact bodyPost_ret (v := .tuple #[.agg #[.slice none 0 0, .slice none 0 0], .int .i64 6]) (by simp [results, Try.results81, go_sem, HT0.out.1, HT0.out.2]) rfl (gives2k_of HE5.out caps_nil (fun _ _ _ => zeroA_in _ _ _) (HI.out.fin _ _))
  clear HT0 p0 p1 f0 f1
  go_enter Try.func81, Try.ntmps81
  go_wp2
  clear e3 q0 q1
  go_loopg [23] CX (fun g i wr => ∃ j : Nat, g + j = CX ∧ i = .int .i64 (j : Int) ∧ firstUp (repF x) j = 0 ∧ Below W3.heap.size W3 wr)
  case atStart => exact ⟨0, rfl, rfl, rfl, Below.refl _ _⟩
  case round =>
    obtain ⟨j, hgj, rfl, hfu, hBr⟩ := hrel
    have I6 := HI.out.next hBr
    have hNB := HB0.out.trans (I6.bel.mono HB0.out.size)
    by_cases hlt : j < CX
    · obtain ⟨b, off, rfl, -, hb, hcells⟩ := HCF.out (by omega)
      obtain ⟨g0, g1, g2, -⟩ := hcells j hlt
      have u0 := (hNB.cell (p := ⟨b, off + j * 3, none⟩) hb).trans g0
      have u1 := (hNB.cell (p := ⟨b, off + j * 3 + 1, none⟩) hb).trans g1
      have u2 := (hNB.cell (p := ⟨b, off + j * 3 + 2, none⟩) hb).trans g2
      have HLF : Hid (repF x j = if ¬ (cAt x.cells j).1 = 0 ∨ (cAt x.cells j).2.1 < 0 then 5 else 0) := rfl
      clear g0 g1 g2 hcells
      generalize (cAt x.cells j).1 = kk at *
      generalize (cAt x.cells j).2.1 = NN at *
      generalize (cAt x.cells j).2.2.length = nb at *
      generalize ab j = abp at *
      generalize cb j = cbp at *
      have BA := one_alloc wr (.cells #[.int .i64 kk, .int .i64 NN, .slice abp nb cbp] 36)
      have I5 := I6.next BA
      have HERR : Hid (repF x j = 5 → repR x y k = (zeroA, 5)) := fun h1 => by
        rw [HE.out, if_neg hS1, firstUp_hit hfu (by rw [h1]; decide) CX hlt, h1, if_pos (by decide)]
      by_cases hkk : kk = 0
      case neg =>
        have HE5 : Hid (repR x y k = (zeroA, 5)) := HERR.out (by rw [HLF.out, if_pos (Or.inl hkk)])
        have hkb : (kk == 0) = false := beq_eq_false_iff_ne.2 hkk
        have HT5 := hide (I5.put (.slice none 0 0) (.slice none 0 0))
        have HI5 := hide I5
        have p0 := I5.p0
        have p1 := I5.p1
        have f0 := I5.f0
        have f1 := I5.f1
        clear I6 I5 HY HRY HXC HCF hBr BA hNB
        go_wp2
        exact bodyPost_ret (v := .tuple #[.agg #[.slice none 0 0, .slice none 0 0], .int .i64 5]) (by simp [results, Try.results81, go_sem, HT5.out.1, HT5.out.2]) rfl (gives2k_of HE5.out caps_nil (fun _ _ _ => zeroA_in _ _ _) (HI5.out.fin _ _))
      subst hkk
      by_cases hN0 : NN < 0
      · have HE5 : Hid (repR x y k = (zeroA, 5)) := HERR.out (by rw [HLF.out, if_pos (Or.inr hN0)])
        have HT5 := hide (I5.put (.slice none 0 0) (.slice none 0 0))
        have HI5 := hide I5
        have p0 := I5.p0
        have p1 := I5.p1
        have f0 := I5.f0
        have f1 := I5.f1
        clear I6 I5 HY HRY HXC HCF hBr BA hNB
        go_wp2
        exact bodyPost_ret (v := .tuple #[.agg #[.slice none 0 0, .slice none 0 0], .int .i64 5]) (by simp [results, Try.results81, go_sem, HT5.out.1, HT5.out.2]) rfl (gives2k_of HE5.out caps_nil (fun _ _ _ => zeroA_in _ _ _) (HI5.out.fin _ _))
      have HS : Hid (firstUp (repF x) (j + 1) = 0 ∧ Below W3.heap.size W3 (wr.alloc (.cells #[.int .i64 0, .int .i64 NN, .slice abp nb cbp] 36))) := ⟨by rw [firstUp_step hfu, HLF.out, if_neg (by simp; omega)], hBr.trans (BA.mono hBr.size)⟩
      clear I6 I5 HY HRY HXC HCF hBr BA hNB
      go_wp2
      go_roundg (CX - (j + 1))
      case rel => exact ⟨j + 1, by omega, by go_num, HS.out⟩
      case measure => omega
    · have hje : j = CX := by omega
      subst hje
      have q0 := I6.q0
      have q1 := I6.q1
      have r0 := I6.r0
      have r1 := I6.r1
      have u0 := (I6.bel.cell (p := ⟨by', oy + k, none⟩) HCY0.out.1).trans HCY0.out.2
      have HI6 := hide I6
      have HFU := hide hfu
      by_cases hne : SX = 1 ∧ ¬ (j : Int) = (D : Int)
      · have HE5 : Hid (repR x y k = (zeroA, 7)) := by unfold Hid; rw [HE.out, if_neg hS1, if_neg (by rw [hfu]; simp), if_pos hne]
        have p0 := I6.p0
        have p1 := I6.p1
        have f0 := I6.f0
        have f1 := I6.f1
        have HT5 : Hid (∀ q : Nat, _ ∧ _) := fun q => (I6.next (belowN (Below.refl _ _) q)).put (.slice none 0 0) (.slice none 0 0)
        obtain ⟨rfl, hjD⟩ := hne
        have hb2 : ((j : Int) == (D : Int)) = false := beq_eq_false_iff_ne.2 hjD
        clear I6 HY HRY HXC HCF hBr hNB hfu
        go_wp2
        go_quiet (fail)
        go_wp2
        exact bodyPost_ret (v := .tuple #[.agg #[.slice none 0 0, .slice none 0 0], .int .i64 7]) (by simp [results, Try.results81, go_sem, HT5.out]) rfl (gives2k_of HE5.out caps_nil (fun _ _ _ => zeroA_in _ _ _) ((HI6.out.next (belowN (Below.refl _ _) _)).fin _ _))
      have HNE := hide hne
      have HU0 := hide u0
      have HBR : Hid (w.heap.size ≤ wr.heap.size) := I6.bel.size
      clear I6 hfu hNB
      go_wp2
      go_cut [51] from 37 to 51 (fun s wx => s = .bool false ∧ Below wr.heap.size wr wx)
      case first =>
        by_cases h1 : SX = 1
        · have hjD : (j : Int) = (D : Int) := Classical.not_not.1 fun h => HNE.out ⟨h1, h⟩
          have hb2 : ((j : Int) == (D : Int)) = true := by rw [hjD]; exact beq_self_eq_true _
          have hb1 : ((SX : Int) == 1) = true := by rw [h1]; rfl
          clear HY HRY HXC HCF hBr hne hjD h1
          go_quiet (fail)
          go_wp2
          go_meet
          exact ⟨congrArg Value.bool (by unfold bne; rw [hb2]; rfl), belowN (Below.refl _ _) _⟩
        · have hb1 : ((SX : Int) == 1) = false := beq_eq_false_iff_ne.2 (by omega)
          clear HY HRY HXC HCF hBr hne
          go_quiet (fail)
          go_wp2
          go_meet
          exact ⟨rfl, belowN (Below.refl _ _) _⟩
      case rest =>
        obtain ⟨rfl, hbB⟩ := hcut
        generalize wc = wB at *
        have I6 := HI6.out.next hbB
        have HI6 := hide I6
        have q0 := I6.q0
        have q1 := I6.q1
        have r0 := I6.r0
        have r1 := I6.r1
        have u0 := (hbB.cell (p := ⟨by', oy + k, none⟩) (Nat.lt_of_lt_of_le HCY0.out.1 HBR.out)).trans HU0.out
        clear I6 hbB
        have CO : Hid (∀ W, Below wB.heap.size wB W → Calls Try.prog 103 #[.slice a2 j c2, .int .i64 (D : Int)] W fun e w' => OftIs x.cells D W e w') := by
          intro W hW
          have hN := HB0.out.trans ((HI6.out.bel.trans (hW.mono HI6.out.bel.size)).mono HB0.out.size)
          have := often_any (lo := lo) (n := m) x.cells a2 c2 D W (HXC.out.mono (Nat.le_refl _) hN) (by rw [HSC.out.2.1]; exact cx16) hD16 (fun h => by
            rw [HSC.out.2.1]
            by_cases h1 : SX = 1
            · have hjD : (j : Int) = (D : Int) := Classical.not_not.1 fun h => HNE.out ⟨h1, h⟩
              omega
            · have := HA1.out (by omega); omega) (fun i hi => by
            rw [HSC.out.2.1] at hi
            exact (repF_pos HFU.out i hi).2)
          rw [HSC.out.2.1] at this
          exact this
        have HDD : Hid (Below wB.heap.size wB wB.drew) := (Below.refl _ _).drew
        clear hne
        go_wp2
        go_cut [10, 11] from 53 to 63 (fun s10 s11 wx => ∃ wv a N cap E, s10 = .slice a N cap ∧ s11 = .int .i64 E ∧ Below wB.heap.size wB wv ∧ Below wv.heap.size wv wx ∧ OftP x.cells D wv wx a N cap E)
        case first =>
          go_region_with (go_at_call 103; refine (CO.out _ HDD.out).mono ?_; rintro e w9 ⟨⟨ao, No, co, Eo, rfl, hO⟩, hb9⟩)
          all_goals
            have HO9 := hide (And.intro hO hb9)
            clear hO hb9
            go_wp2
            go_meet
          all_goals
            case rel => exact ⟨_, _, _, _, _, rfl, rfl, HDD.out, HO9.out.2, HO9.out.1⟩
        case rest =>
          obtain ⟨wv, ao, No, co, Eo, rfl, rfl, hbv, hb9, hO⟩ := hcut
          have BWC : Below wB.heap.size wB wc := hbv.trans (hb9.mono hbv.size)
          have I9 := HI6.out.next BWC
          have HI9 := hide I9
          clear CO HDD u0 q0 q1 r0 r1
          by_cases hE : Eo = 0
          case neg =>
            have hE12 : 16384 < (oftL x.cells D).length ∧ Eo = 12 := by
              rcases hO with h | h
              · exact h
              · exact absurd h.2.1 hE
            have HE5 : Hid (repR x y k = (zeroA, Eo)) := by unfold Hid; rw [HE.out, if_neg hS1, if_neg (by rw [HFU.out]; simp), if_neg HNE.out, if_pos hE12.1, hE12.2]
            have hne : (Eo == 0) = false := beq_eq_false_iff_ne.2 hE
            have HT9 := hide (I9.put (.slice none 0 0) (.slice none 0 0))
            have p0 := I9.p0
            have p1 := I9.p1
            have f0 := I9.f0
            have f1 := I9.f1
            clear HE HY HRY HXC HCF hBr hO hb9 hbv I9 hE12
            go_wp2
            exact bodyPost_ret (v := .tuple #[.agg #[.slice none 0 0, .slice none 0 0], .int .i64 Eo]) (by simp [results, Try.results81, go_sem, HT9.out.1, HT9.out.2]) rfl (gives2k_of HE5.out caps_nil (fun _ _ _ => zeroA_in _ _ _) (HI9.out.fin _ _))
          subst hE
          have hO2 : (oftL x.cells D).length ≤ 16384 ∧ No = (oftL x.cells D).length ∧ Own1 wv wc ao co (oftL x.cells D) := by
            rcases hO with h | h
            · exact absurd h.2 (by decide)
            · exact ⟨h.1, h.2.2.1, h.2.2.2⟩
          obtain ⟨hN16, hNo, hown⟩ := hO2
          rw [← hNo] at hN16
          have HOW := hide (And.intro hNo (And.intro hown hbv))
          have r0 := I9.r0
          have HRW := hide (HRY.out.next I9.bel)
          have CR := reshaped_any y.shape (some ⟨by', oy, none⟩) d1 k (No : Int) wc HRW.out (by rw [HSC.out.2.2.1]; exact ly8) (by rw [HSC.out.2.2.1]; exact hk)
          rw [HSC.out.2.2.1] at CR
          have HE2 : Hid (repR x y k = if ¬ sizeE (y.shape.set k (No : Int)) = 0 then (zeroA, sizeE (y.shape.set k (No : Int))) else (alongA y k (oftL x.cells D), 0)) := by unfold Hid; rw [HE.out, if_neg hS1, if_neg (by rw [HFU.out]; simp), if_neg HNE.out, ← hNo, if_neg (by omega)]
          obtain ⟨SE, hSE⟩ : ∃ z, sizeE (y.shape.set k (No : Int)) = z := ⟨_, rfl⟩
          have HSE := hide hSE
          rw [hSE] at CR HE2
          generalize sizeV (y.shape.set k (No : Int)) = SV at CR
          clear HE hO hb9 hbv I9 hown hNo hSE HXC HCF hBr BWC
          go_wp2_with fail
          refine CR.mono ?_
          clear CR r0
          rintro e w5 ⟨⟨a', cp, rfl, -⟩, hb5⟩
          have I5 := HI9.out.next hb5
          have HI5 := hide I5
          by_cases hS2 : SE = 0
          case neg =>
            have HE5 : Hid (repR x y k = (zeroA, SE)) := by unfold Hid; rw [HE2.out, if_pos hS2]
            have hne : (SE == 0) = false := beq_eq_false_iff_ne.2 hS2
            have HT9 := hide (I5.put (.slice none 0 0) (.slice none 0 0))
            have p0 := I5.p0
            have p1 := I5.p1
            have f0 := I5.f0
            have f1 := I5.f1
            clear HE2 HY HRY HOW I5 hb5
            go_wp2
            exact bodyPost_ret (v := .tuple #[.agg #[.slice none 0 0, .slice none 0 0], .int .i64 SE]) (by simp [results, Try.results81, go_sem, HT9.out.1, HT9.out.2]) rfl (gives2k_of HE5.out caps_nil (fun _ _ _ => zeroA_in _ _ _) (HI5.out.fin _ _))
          subst hS2
          have HE5 : Hid (repR x y k = (alongA y k (oftL x.cells D), 0)) := by unfold Hid; rw [HE2.out, if_neg (by simp)]
          have RR : Row 0 w5 ao (oftL x.cells D) := (HOW.out.2.1.2.2.low (Nat.zero_le _)).next hb5
          have C := along_row (k := k) (c1 := d1) (c2 := d2) (HRW.out.next hb5) HY.out.1 (HB0.out.trans (I5.bel.mono HB0.out.size)) (by rw [HSC.out.2.2.1, HSC.out.2.2.2]; exact HY.out.2.2) HY.out.2.1 (by rw [HSC.out.2.2.1]; exact hk) (oftL x.cells D) ao co RR (fun i hi => by rw [HD.out]; exact oftL_in x.cells D i hi) (by rw [← HOW.out.1]; exact HSE.out) (by rw [← HOW.out.1]; exact hN16)
          rw [← HOW.out.1, HSC.out.2.2.1, HSC.out.2.2.2] at C
          have r0 := I5.r0
          have r1 := I5.r1
          obtain ⟨Y, hYY⟩ : ∃ Y, alongA y k (oftL x.cells D) = Y := ⟨_, rfl⟩
          rw [hYY] at C HE5
          clear RR I5 HE2 hb5 hYY HRW
          go_wp2_with fail
          refine C.mono ?_
          clear C r0 r1
          rintro e w7 ⟨⟨v, rfl, hcv, hv⟩, hb7⟩
          have NB : Below w0.heap.size w0 w7 := HB0.out.trans ((HI5.out.bel.trans (hb7.mono HI5.out.bel.size)).mono HB0.out.size)
          obtain ⟨z1, m1, z2, m2, rfl, -, -⟩ := (hv w7 NB (Keeps.refl _ _)).form
          have I7 := HI5.out.next hb7
          have p0 := I7.p0
          have p1 := I7.p1
          have f0 := I7.f0
          have f1 := I7.f1
          have HT := hide (I7.put (.slice z1 Y.shape.length m1) (.slice z2 Y.cells.length m2))
          have HCV := hide hcv
          have HF : Hid (∀ u v W, Below w0.heap.size w0 W → Keeps w.heap.size ((w7.setCell ⟨w.heap.size + 2, 0, none⟩ u).setCell ⟨w.heap.size + 2, 1, none⟩ v) W → ArIn (n + 1) 0 W Y (.agg #[.slice z1 Y.shape.length m1, .slice z2 Y.cells.length m2])) := by
            intro u v W hW hK
            exact hv W hW (((keeps_three w7 w.heap.size u v).trans (hK.mono (show w.heap.size ≤ w.heap.size + 3 by omega))).mono HI5.out.size)
          have HFI := hide I7.fin
          clear I7 hv hcv hb7 NB
          generalize Y.shape.length = YS at *
          generalize Y.cells.length = YC at *
          go_wp2
          exact bodyPost_ret (v := .tuple #[.agg #[.slice z1 YS m1, .slice z2 YC m2], .int .i64 0]) (by simp [results, Try.results81, go_sem, HT.out.1, HT.out.2]) rfl (gives2k_of HE5.out HCV.out (HF.out _ _) (HFI.out _ _))
end Go.Proofs.Ytmjncdhahdpplaa
namespace Go.Proofs.Ytmjncdhahdpplaa
open Go.ChangeShapes Go.WideShapes Go.ChangeAt Go.RowKit
set_option linter.unusedVariables false
set_option maxRecDepth 100000
set_option maxHeartbeats 4000000 in
theorem pieces_50 {n lo lo' : Nat} {x y : Ar} {va vb : Value} {w0 w : World} (hx : ArIn (n + 1) lo w0 x va) (hy : ArIn (n + 1) lo' w0 y vb) (hb0 : Below w0.heap.size w0 w) (hcx : chkA 8 x = 0) (hcy : chkA 8 y = 0) (hcapx : Caps va) (hcapy : Caps vb) :
    Calls Try.prog 46 #[.int .i64 50, va, vb] w fun e w' => Gives2K (n + 1) w0 (repR x (lstA y) 0).1 (repR x (lstA y) 0).2 w e w' := by
  obtain ⟨a1, c1, a2, c2, rfl, R, hc⟩ := hx.form
  obtain ⟨b1, d1, b2, d2, rfl, R', hc'⟩ := hy.form
  have I := in3_new w (.slice a1 x.shape.length c1) (.slice a2 x.cells.length c2) (.slice b1 y.shape.length d1) (.slice b2 y.cells.length d2)
  obtain ⟨W3, e3⟩ : ∃ W3, ((w.alloc (.cells #[.slice a1 x.shape.length c1, .slice a2 x.cells.length c2] 25)).alloc (.cells #[.slice b1 y.shape.length d1, .slice b2 y.cells.length d2] 25)).alloc (.cells #[.slice none 0 0, .slice none 0 0] 25) = W3 := ⟨_, rfl⟩
  rw [e3] at I
  have NB : Below w0.heap.size w0 W3 := hb0.trans (I.bel.mono hb0.size)
  have q0 := I.q0
  have q1 := I.q1
  have r0 := I.r0
  have r1 := I.r1
  have HI := hide I
  have HNB := hide NB
  obtain ⟨lx8, cx16⟩ := chk_len hcx
  obtain ⟨ly8, cy16⟩ := chk_len hcy
  obtain ⟨k1, k2, k3⟩ := lst_facts hcy
  have HC1 := hide (plisted_row hy NB.drew hcapy)
  have HC2 : Hid (∀ W s1 j1, Below w0.heap.size w0 W → Row 0 W s1 (lstA y).shape → (lstA y).shape.length ≤ j1 → Calls Try.prog 81 #[.agg #[.slice a1 x.shape.length c1, .slice a2 x.cells.length c2], .agg #[.slice s1 (lstA y).shape.length j1, .slice b2 y.cells.length d2], .int .i64 0] W fun e w' => Gives2K (n + 1) w0 (repR x (lstA y) 0).1 (repR x (lstA y) 0).2 W e w') := by
    intro W s1 j1 hW hRW hj
    have := repeated_row (k := 0) (y := lstA y) (b2 := b2) (d1 := j1) (d2 := d2) hx hRW (by rw [k2]; exact hc') hW hcx k1 (by rw [k2]; exact ⟨_, _, _, _, _, _, rfl, hj, (caps_form hcapy).2⟩) k3
    rw [k2] at this
    exact this
  obtain ⟨⟨Y, EY⟩, hR⟩ : ∃ p, repR x (lstA y) 0 = p := ⟨_, rfl⟩
  rw [hR] at HC2 ⊢
  simp only at HC2 ⊢
  unfold LstIs at HC1
  obtain ⟨SL, hSL⟩ : ∃ SL, (lstA y).shape.length = SL := ⟨_, rfl⟩
  rw [hSL] at HC1 HC2
  obtain ⟨lsh, hlsh⟩ : ∃ l, (lstA y).shape = l := ⟨_, rfl⟩
  rw [hlsh] at HC1 HC2
  have HID : Hid (In3 w (.slice a1 x.shape.length c1) (.slice a2 x.cells.length c2) (.slice b1 y.shape.length d1) (.slice b2 y.cells.length d2) W3.drew) := I.next (Below.refl _ _).drew
  clear hR R hc R' hc' hx hy hcx hcy hcapx hcapy NB I hb0 k1 k2 k3 hSL hlsh
  generalize x.shape.length = SX at *
  generalize x.cells.length = CX at *
  generalize y.shape.length = SY at *
  generalize y.cells.length = CY at *
  go_enter Try.func46, Try.ntmps46
  go_wp2
  clear e3
  go_region_with (first
    | (go_at_call 76; refine HC1.out.mono ?_; rintro e w1 ⟨⟨s1, j1, rfl, hj, hrw⟩, hb1⟩; have I1 := HID.out.next hb1; have t0 := I1.q0; have t1 := I1.q1; have NB1 := (HNB.out.drew.trans (hb1.mono HNB.out.drew.size)); have RW1 := hrw w1 NB1 (Keeps.refl _ _))
    | (go_at_call 81; refine (HC2.out _ _ _ NB1 RW1 hj).mono ?_; rintro e w2 ⟨⟨v, rfl, hcv, hv⟩, hb2⟩; obtain ⟨z1, m1, z2, m2, rfl, -, -⟩ := (hv w2 (NB1.trans (hb2.mono NB1.size)) (Keeps.refl _ _)).form; have I2 := I1.next hb2; have p0 := I2.p0; have p1 := I2.p1; have f0 := I2.f0; have f1 := I2.f1))
  all_goals
    have HT := hide (I2.put (.slice z1 Y.shape.length m1) (.slice z2 Y.cells.length m2))
    have HCV := hide hcv
    have hs3 := I1.size
    have HF : Hid (∀ u v W, Below w0.heap.size w0 W → Keeps w.heap.size ((w2.setCell ⟨w.heap.size + 2, 0, none⟩ u).setCell ⟨w.heap.size + 2, 1, none⟩ v) W → ArIn (n + 1) 0 W Y (.agg #[.slice z1 Y.shape.length m1, .slice z2 Y.cells.length m2])) := by
      intro u v W hW hK
      exact hv W hW (((keeps_three w2 w.heap.size u v).trans (hK.mono (show w.heap.size ≤ w.heap.size + 3 by omega))).mono hs3)
    have HFI := hide I2.fin
    clear I2 hv hcv hb2 HI hs3 q0 q1 r0 r1 HNB I1 t0 t1 NB1 RW1 hrw hb1 HC1 HC2 HID
    generalize Y.shape.length = YS at *
    generalize Y.cells.length = YC at *
    go_wp2
    exact bodyPost_ret (v := .tuple #[.agg #[.slice z1 YS m1, .slice z2 YC m2], .int .i64 EY]) (by simp [results, Try.results46, go_sem, HT.out.1, HT.out.2]) rfl ⟨⟨_, rfl, HCV.out, HF.out _ _⟩, HFI.out _ _⟩
set_option maxHeartbeats 4000000 in
theorem pieces_51 {n lo lo' : Nat} {x y : Ar} {va vb : Value} {w0 w : World} (hx : ArIn (n + 1) lo w0 x va) (hy : ArIn (n + 1) lo' w0 y vb) (hb0 : Below w0.heap.size w0 w) (hcx : chkA 8 x = 0) (hcy : chkA 8 y = 0) (hcapx : Caps va) (hcapy : Caps vb) :
    Calls Try.prog 46 #[.int .i64 51, va, vb] w fun e w' => Gives2K (n + 1) w0 (repR x (lstA y) ((lstA y).shape.length - 1)).1 (repR x (lstA y) ((lstA y).shape.length - 1)).2 w e w' := by
  obtain ⟨a1, c1, a2, c2, rfl, R, hc⟩ := hx.form
  obtain ⟨b1, d1, b2, d2, rfl, R', hc'⟩ := hy.form
  have I := in3_new w (.slice a1 x.shape.length c1) (.slice a2 x.cells.length c2) (.slice b1 y.shape.length d1) (.slice b2 y.cells.length d2)
  have hf := fun i => ((one_alloc ((w.alloc (.cells #[.slice a1 x.shape.length c1, .slice a2 x.cells.length c2] 25)).alloc (.cells #[.slice b1 y.shape.length d1, .slice b2 y.cells.length d2] 25)) (.cells #[.slice none 0 0, .slice none 0 0] 25)).frozen (p := ⟨w.heap.size + 1, i, none⟩) (by simp)).trans (frozen_new1 w #[.slice b1 y.shape.length d1, .slice b2 y.cells.length d2] 25 (.cells #[.slice a1 x.shape.length c1, .slice a2 x.cells.length c2] 25) i)
  obtain ⟨W3, e3⟩ : ∃ W3, ((w.alloc (.cells #[.slice a1 x.shape.length c1, .slice a2 x.cells.length c2] 25)).alloc (.cells #[.slice b1 y.shape.length d1, .slice b2 y.cells.length d2] 25)).alloc (.cells #[.slice none 0 0, .slice none 0 0] 25) = W3 := ⟨_, rfl⟩
  rw [e3] at I hf
  have NB : Below w0.heap.size w0 W3 := hb0.trans (I.bel.mono hb0.size)
  have q0 := I.q0
  have q1 := I.q1
  have r0 := I.r0
  have r1 := I.r1
  have HI := hide I
  have HHF := hide hf
  have HNB := hide NB
  obtain ⟨lx8, cx16⟩ := chk_len hcx
  obtain ⟨ly8, cy16⟩ := chk_len hcy
  obtain ⟨k1, k2, k3⟩ := lst_facts hcy
  have HC1 := hide (plisted_row hy NB hcapy)
  have HC2 : Hid (∀ W s1 j1, Below w0.heap.size w0 W → Row 0 W s1 (lstA y).shape → (lstA y).shape.length ≤ j1 → Calls Try.prog 81 #[.agg #[.slice a1 x.shape.length c1, .slice a2 x.cells.length c2], .agg #[.slice s1 (lstA y).shape.length j1, .slice b2 y.cells.length d2], .int .i64 (((lstA y).shape.length - 1 : Nat) : Int)] W fun e w' => Gives2K (n + 1) w0 (repR x (lstA y) ((lstA y).shape.length - 1)).1 (repR x (lstA y) ((lstA y).shape.length - 1)).2 W e w') := by
    intro W s1 j1 hW hRW hj
    have := repeated_row (k := (lstA y).shape.length - 1) (y := lstA y) (b2 := b2) (d1 := j1) (d2 := d2) hx hRW (by rw [k2]; exact hc') hW hcx k1 (by rw [k2]; exact ⟨_, _, _, _, _, _, rfl, hj, (caps_form hcapy).2⟩) (by omega)
    rw [k2] at this
    exact this
  have l8 := (chk_len k1).1
  obtain ⟨⟨Y, EY⟩, hR⟩ : ∃ p, repR x (lstA y) ((lstA y).shape.length - 1) = p := ⟨_, rfl⟩
  rw [hR] at HC2 ⊢
  simp only at HC2 ⊢
  unfold LstIs at HC1
  obtain ⟨SL, hSL⟩ : ∃ SL, (lstA y).shape.length = SL := ⟨_, rfl⟩
  rw [hSL] at HC1 HC2 k3 l8
  have hsub : (SL : Int) - 1 = ((SL - 1 : Nat) : Int) := by omega
  obtain ⟨lsh, hlsh⟩ : ∃ l, (lstA y).shape = l := ⟨_, rfl⟩
  rw [hlsh] at HC1 HC2
  have hs0 := hb0.size
  clear hR R hc R' hc' hx hy hcx hcy hcapx hcapy NB I hb0 k1 k2 hSL hlsh hf
  generalize x.shape.length = SX at *
  generalize x.cells.length = CX at *
  generalize y.shape.length = SY at *
  generalize y.cells.length = CY at *
  go_enter Try.func46, Try.ntmps46
  go_wp2_with fail
  clear e3 q0 q1 r0 r1
  refine HC1.out.mono ?_
  rintro e w1 ⟨⟨s1, j1, rfl, hj, hrw⟩, hb1⟩
  have I1 := HI.out.next hb1
  have r0 := I1.r0
  have r1 := I1.r1
  have sz := HI.out.size
  have g0 : w1.frozen? ⟨w.heap.size + 1, 0, none⟩ = false := (hb1.frozen (p := ⟨w.heap.size + 1, 0, none⟩) (by show w.heap.size + 1 < _; omega)).trans (HHF.out 0)
  have g1 : w1.frozen? ⟨w.heap.size + 1, 1, none⟩ = false := (hb1.frozen (p := ⟨w.heap.size + 1, 1, none⟩) (by show w.heap.size + 1 < _; omega)).trans (HHF.out 1)
  obtain ⟨W4, e4⟩ : ∃ W4, (w1.setCell ⟨w.heap.size + 1, 0, none⟩ (.slice s1 SL j1)).setCell ⟨w.heap.size + 1, 1, none⟩ (.slice b2 CY d2) = W4 := ⟨_, rfl⟩
  have st := set_two r0 r1 (.slice s1 SL j1) (.slice b2 CY d2)
  have I4 : In3 w (.slice a1 SX c1) (.slice a2 CX c2) (.slice s1 SL j1) (.slice b2 CY d2) W4 := by
    rw [← e4]
    refine ⟨(I1.bel.setCell (p := ⟨w.heap.size + 1, 0, none⟩) (by show _ ≤ w.heap.size + 1; omega) _).setCell (p := ⟨w.heap.size + 1, 1, none⟩) (by show _ ≤ w.heap.size + 1; omega) _, by simpa using I1.size, ?_, ?_, ?_, st.2, ?_, ?_, ?_, ?_⟩
    · rw [World.cell?_setCell_other _ _ _ _ (by simp), World.cell?_setCell_other _ _ _ _ (by simp)]; exact I1.q0
    · rw [World.cell?_setCell_other _ _ _ _ (by simp), World.cell?_setCell_other _ _ _ _ (by simp)]; exact I1.q1
    · rw [World.cell?_setCell_other _ _ _ _ (by simp)]; exact st.1
    · rw [World.cell?_setCell_other _ _ _ _ (by simp), World.cell?_setCell_other _ _ _ _ (by simp)]; exact I1.p0
    · rw [World.cell?_setCell_other _ _ _ _ (by simp), World.cell?_setCell_other _ _ _ _ (by simp)]; exact I1.p1
    · exact frozen_set _ _ _ _ (frozen_set _ _ _ _ I1.f0)
    · exact frozen_set _ _ _ _ (frozen_set _ _ _ _ I1.f1)
  have NB1 : Below w0.heap.size w0 w1 := HNB.out.trans (hb1.mono HNB.out.size)
  have NB4 : Below w0.heap.size w0 W4 := by
    rw [← e4]
    exact (NB1.setCell (p := ⟨w.heap.size + 1, 0, none⟩) (by show _ ≤ w.heap.size + 1; omega) _).setCell (p := ⟨w.heap.size + 1, 1, none⟩) (by show _ ≤ w.heap.size + 1; omega) _
  have RW4 := hrw W4 NB4 (by
    rw [← e4]
    exact ((Keeps.refl _ _).setCell (p := ⟨w.heap.size + 1, 0, none⟩) (by show w.heap.size + 1 < _; omega) _).setCell (p := ⟨w.heap.size + 1, 1, none⟩) (by show w.heap.size + 1 < _; omega) _)
  have C2 := HC2.out W4 s1 j1 NB4 RW4 hj
  have t0 := I4.q0
  have t1 := I4.q1
  have t2 := I4.r0
  have t3 := I4.r1
  have HI4 := hide I4
  have HNB4 := hide NB4
  clear I1 I4 NB1 NB4 RW4 hrw hb1 st HI HHF HC1 HC2 HNB sz
  go_wp2_with fail
  clear e4 t0 t1 t2 t3 r0 r1 g0 g1
  refine C2.mono ?_
  clear C2
  rintro e w2 ⟨⟨v, rfl, hcv, hv⟩, hb2⟩
  obtain ⟨z1, m1, z2, m2, rfl, -, -⟩ := (hv w2 (HNB4.out.trans (hb2.mono HNB4.out.size)) (Keeps.refl _ _)).form
  have I2 := HI4.out.next hb2
  have p0 := I2.p0
  have p1 := I2.p1
  have f0 := I2.f0
  have f1 := I2.f1
  have HT := hide (I2.put (.slice z1 Y.shape.length m1) (.slice z2 Y.cells.length m2))
  have HCV := hide hcv
  have hs3 := HI4.out.size
  have HF : Hid (∀ u v W, Below w0.heap.size w0 W → Keeps w.heap.size ((w2.setCell ⟨w.heap.size + 2, 0, none⟩ u).setCell ⟨w.heap.size + 2, 1, none⟩ v) W → ArIn (n + 1) 0 W Y (.agg #[.slice z1 Y.shape.length m1, .slice z2 Y.cells.length m2])) := by
    intro u v W hW hK
    exact hv W hW (((keeps_three w2 w.heap.size u v).trans (hK.mono (show w.heap.size ≤ w.heap.size + 3 by omega))).mono hs3)
  have HFI := hide I2.fin
  clear I2 hv hcv hb2 HI4 hs3 HNB4
  generalize Y.shape.length = YS at *
  generalize Y.cells.length = YC at *
  go_wp2
  exact bodyPost_ret (v := .tuple #[.agg #[.slice z1 YS m1, .slice z2 YC m2], .int .i64 EY]) (by simp [results, Try.results46, go_sem, HT.out.1, HT.out.2]) rfl ⟨⟨_, rfl, HCV.out, HF.out _ _⟩, HFI.out _ _⟩
theorem rep_chk {x y : Ar} (hy : chkA 8 y = 0) {k : Nat} (hk : k < y.shape.length) : (¬ (repR x y k).2 = 0 → (repR x y k).1 = zeroA) ∧ ((repR x y k).2 = 0 → chkA 8 (repR x y k).1 = 0) := by
  have hDb := (chk_axes hy).1 (gI y.shape k) (getD_mem hk)
  obtain ⟨D, hD⟩ : ∃ D : Nat, gI y.shape k = (D : Int) := ⟨(gI y.shape k).toNat, by omega⟩
  unfold repR
  rw [hD, Int.toNat_natCast]
  by_cases h1 : 1 < x.shape.length
  · rw [if_pos h1]; exact ⟨fun _ => rfl, fun h => absurd h (by decide)⟩
  rw [if_neg h1]
  by_cases h2 : firstUp (repF x) x.cells.length = 0
  case neg => rw [if_pos h2]; exact ⟨fun _ => rfl, fun h => absurd h (by decide)⟩
  rw [if_neg (by simpa using h2)]
  by_cases h3 : x.shape.length = 1 ∧ ¬ (x.cells.length : Int) = (D : Int)
  · rw [if_pos h3]; exact ⟨fun _ => rfl, fun h => absurd h (by decide)⟩
  rw [if_neg h3]
  by_cases h4 : 16384 < (oftL x.cells D).length
  · rw [if_pos h4]; exact ⟨fun _ => rfl, fun h => absurd h (by decide)⟩
  rw [if_neg h4]
  by_cases h5 : sizeE (y.shape.set k ((oftL x.cells D).length : Int)) = 0
  case neg => rw [if_pos h5]; exact ⟨fun _ => rfl, fun h => absurd h h5⟩
  rw [if_neg (by simpa using h5)]
  refine ⟨fun h => absurd rfl h, fun _ => ?_⟩
  have hA := alongA_cells hy hk (l := oftL x.cells D) (fun i hi => by rw [hD]; exact oftL_in x.cells D i hi) h5
  have e : alongA y k (oftL x.cells D) = .mk (y.shape.set k ((oftL x.cells D).length : Int)) (alongA y k (oftL x.cells D)).cells := rfl
  rw [e]
  refine chk_of hy h5 hA.1.symm ?_ hA.2
  rintro ⟨z, hz, hl⟩
  rcases List.mem_or_eq_of_mem_set hz with h | h
  · exact ((chkA_iff 8 y).1 hy).2.2.1 ⟨z, h, hl⟩
  · omega
theorem dy_50 {n lo lo' : Nat} {x y : Ar} {va vb : Value} {w : World} (hx : ArIn (n + 1) lo w x va) (hy : ArIn (n + 1) lo' w y vb) (hcx : chkA 8 x = 0) (hcy : chkA 8 y = 0) (kx : Caps va) (ky : Caps vb) : Calls Try.prog 19 #[.int .i64 50, va, vb] w fun e w' => GivesD (n + 1) (repR x (lstA y) 0).1 (repR x (lstA y) 0).2 w e w' :=
  dy_of hx hy hcx hcy (fun W hW => pieces_50 hx hy hW hcx hcy kx ky) (rep_chk (lst_facts hcy).1 (lst_facts hcy).2.2).1 (rep_chk (lst_facts hcy).1 (lst_facts hcy).2.2).2
theorem dy_51 {n lo lo' : Nat} {x y : Ar} {va vb : Value} {w : World} (hx : ArIn (n + 1) lo w x va) (hy : ArIn (n + 1) lo' w y vb) (hcx : chkA 8 x = 0) (hcy : chkA 8 y = 0) (kx : Caps va) (ky : Caps vb) : Calls Try.prog 19 #[.int .i64 51, va, vb] w fun e w' => GivesD (n + 1) (repR x (lstA y) ((lstA y).shape.length - 1)).1 (repR x (lstA y) ((lstA y).shape.length - 1)).2 w e w' :=
  have h0 := (lst_facts hcy).2.2
  dy_of hx hy hcx hcy (fun W hW => pieces_51 hx hy hW hcx hcy kx ky) (rep_chk (lst_facts hcy).1 (by omega)).1 (rep_chk (lst_facts hcy).1 (by omega)).2
set_option maxHeartbeats 4000000 in
theorem rlisted_any {n lo : Nat} {x : Ar} {va : Value} {w0 w : World} (hx : ArIn (n + 1) lo w0 x va) (hb0 : Below w0.heap.size w0 w) (hcap : Caps va) : Calls Try.prog 21 #[va] w fun e w' => GivesK (n + 1) w0 (lstA x) w e w' := by
  obtain ⟨a1, c1, a2, c2, rfl, R, hc⟩ := hx.form
  have I := in2_new w (.slice a1 x.shape.length c1) (.slice a2 x.cells.length c2)
  obtain ⟨W2, e2⟩ : ∃ W2, (w.alloc (.cells #[.slice a1 x.shape.length c1, .slice a2 x.cells.length c2] 25)).alloc (.cells #[.slice none 0 0, .slice none 0 0] 25) = W2 := ⟨_, rfl⟩
  have hz2 : W2.heap.size = w.heap.size + 2 := by rw [← e2]; simp
  have hf0 : W2.frozen? ⟨w.heap.size, 0, none⟩ = false := by
    rw [← e2]
    exact ((one_alloc (w.alloc (.cells #[.slice a1 x.shape.length c1, .slice a2 x.cells.length c2] 25)) _).frozen (p := ⟨w.heap.size, 0, none⟩) (by simp)).trans (frozen_new w _ 25 0)
  rw [e2] at I
  have q0 := I.q0
  have q1 := I.q1
  have HX := hide (And.intro hx hcap)
  have HXC := hide hc
  have HC16 : Hid (x.cells.length ≤ 5864062014805) := by obtain ⟨_, _, _, _, -, -, h, -⟩ := hx; exact h
  by_cases h0 : x.shape.length = 0
  · have HE : Hid (lstA x = .mk [1] x.cells) := by unfold Hid lstA; rw [if_pos h0]
    obtain ⟨W3, e3⟩ : ∃ W3, W2.alloc (.cells #[.int .i64 1] 3) = W3 := ⟨_, rfl⟩
    have B3 : Below W2.heap.size W2 W3 := by rw [← e3]; exact one_alloc _ _
    have z3 : W3.heap.size = w.heap.size + 3 := by rw [← e3]; simp [hz2]
    have o0 : W3.cell? ⟨w.heap.size + 2, 0, none⟩ = some (.int .i64 1) := by rw [← e3, ← hz2]; exact cell_new0 W2 _ 3 0 _ rfl
    have I3 := I.next B3
    have s0 : W3.cell? ⟨w.heap.size, 0, none⟩ = some (.slice a1 x.shape.length c1) := I3.q0
    have s1 : W3.cell? ⟨w.heap.size, 1, none⟩ = some (.slice a2 x.cells.length c2) := I3.q1
    have g0 := I3.p0
    have g1 := I3.p1
    have gf0 := I3.f0
    have gf1 := I3.f1
    have HT := hide (set_two g0 g1 (.slice (some ⟨w.heap.size + 2, 0, none⟩) 1 1) (.slice a2 x.cells.length c2))
    have HF : Hid (∀ u v, GivesK (n + 1) w0 (lstA x) w (.returned (.agg #[.slice (some ⟨w.heap.size + 2, 0, none⟩) 1 1, .slice a2 x.cells.length c2])) ((W3.setCell ⟨w.heap.size + 1, 0, none⟩ u).setCell ⟨w.heap.size + 1, 1, none⟩ v)) := by
      intro u v
      have B4 : Below w.heap.size w W3 := I3.bel
      refine ⟨⟨_, rfl, ⟨_, _, _, _, _, _, rfl, Nat.le_refl _, (caps_form HX.out.2).2⟩, fun W hW hK => ?_⟩, (B4.setCell (p := ⟨w.heap.size + 1, 0, none⟩) (by show _ ≤ w.heap.size + 1; omega) _).setCell (p := ⟨w.heap.size + 1, 1, none⟩) (by show _ ≤ w.heap.size + 1; omega) _⟩
      have K := (keeps_two W3 w.heap.size u v).trans (hK.mono (show w.heap.size ≤ w.heap.size + 2 by omega))
      have o1 := (K.cell (p := ⟨w.heap.size + 2, 0, none⟩) (Nat.le_refl _) (by show w.heap.size + 2 < _; omega)).trans o0
      have hk := K.1
      rw [HE.out]
      exact arIn_mk (x := .mk [1] x.cells) (row_one (by omega) (Nat.zero_le _) o1) HC16.out (HXC.out.mono (Nat.zero_le _) hW) rfl rfl
    clear hx hc R hb0 hcap B3 z3 I I3 o0 HX HXC hf0
    simp only [h0] at q0 e2 ⊢
    clear h0
    generalize x.cells.length = CA at *
    go_enter Try.func21, Try.ntmps21
    go_wp2
    exact bodyPost_ret (v := .agg #[.slice (some ⟨w.heap.size + 2, 0, none⟩) 1 1, .slice a2 CA c2]) (by simp [results, Try.results21, go_sem, HT.out.1, HT.out.2]) rfl (HF.out _ _)
  · have HE : Hid (lstA x = x) := by unfold Hid lstA; rw [if_neg h0]
    have p0 := I.p0
    have p1 := I.p1
    have f0 := I.f0
    have f1 := I.f1
    have HT := hide (I.put (.slice a1 x.shape.length c1) (.slice a2 x.cells.length c2))
    have HF : Hid (∀ u v, GivesK (n + 1) w0 (lstA x) w (.returned (.agg #[.slice a1 x.shape.length c1, .slice a2 x.cells.length c2])) ((W2.setCell ⟨w.heap.size + 1, 0, none⟩ u).setCell ⟨w.heap.size + 1, 1, none⟩ v)) := fun u v => ⟨⟨_, rfl, HX.out.2, fun W hW _ => by rw [HE.out]; exact HX.out.1.mono (Nat.zero_le _) hW⟩, I.fin u v⟩
    have hSb : ((x.shape.length : Int) == 0) = false := by simp; exact fun h => h0 (by rw [h]; rfl)
    clear hx hc R hb0 hcap I h0 HX HXC
    generalize x.cells.length = CA at *
    generalize x.shape.length = SA at *
    go_enter Try.func21, Try.ntmps21
    go_wp2
    exact bodyPost_ret (v := .agg #[.slice a1 SA c1, .slice a2 CA c2]) (by simp [results, Try.results21, go_sem, HT.out.1, HT.out.2]) rfl (HF.out _ _)
end Go.Proofs.Ytmjncdhahdpplaa
namespace Go.Proofs.Ytmjncdhahdpplaa
open Go.ChangeShapes Go.WideShapes Go.ChangeAt Go.RowKit
set_option linter.unusedVariables false
set_option maxRecDepth 100000
def opL (last : Bool) : Int := if last then 45 else 44
def axL (last : Bool) (y : Ar) : Nat := if last then y.shape.length - 1 else 0
theorem axL_lt (last : Bool) {y : Ar} (h : 0 < y.shape.length) : axL last y < y.shape.length := by unfold axL; split <;> omega
theorem dy_rot {n lo lo' : Nat} {x y : Ar} {va vb : Value} {w : World} (last : Bool) (hx : ArIn (n + 1) lo w x va) (hy : ArIn (n + 1) lo' w y vb) (hcx : chkA 8 x = 0) (hcy : chkA 8 y = 0) (kx : Caps va) (ky : Caps vb) : Calls Try.prog 19 #[.int .i64 (opL last), va, vb] w fun e w' => GivesD (n + 1) (rotR x y (axL last y)).1 (rotR x y (axL last y)).2 w e w' := by
  cases last
  · exact dy_44 hx hy hcx hcy kx ky
  · exact dy_45 hx hy hcx hcy kx ky
theorem rotR_atom (m : Int) (y : Ar) (k : Nat) : rotR (atomA m) y k = if y.shape.length = 0 then (y, 0) else (alongA y k (rotL m (gI y.shape k).toNat), 0) := by
  unfold rotR
  rw [numR_atom, if_neg (by simp)]
theorem rot_shape {y : Ar} (hy : chkA 8 y = 0) (m : Int) {k : Nat} (hk : 0 < y.shape.length → k < y.shape.length) : (rotR (atomA m) y k).2 = 0 ∧ (rotR (atomA m) y k).1.shape = y.shape ∧ (rotR (atomA m) y k).1.cells.length = y.cells.length := by
  rw [rotR_atom]
  by_cases h0 : y.shape.length = 0
  · rw [if_pos h0]; exact ⟨rfl, rfl, rfl⟩
  · rw [if_neg h0]
    have hkk := hk (by omega)
    have hDb := (chk_axes hy).1 (gI y.shape k) (getD_mem hkk)
    obtain ⟨D, hD⟩ : ∃ D : Nat, gI y.shape k = (D : Int) := ⟨(gI y.shape k).toNat, by omega⟩
    rw [hD, Int.toNat_natCast]
    have f1 := rot_form hy hkk hD m
    refine ⟨rfl, ?_, ?_⟩
    · show (alongA y k (rotL m D)).shape = _
      rw [f1]; rfl
    · show (alongA y k (rotL m D)).cells.length = _
      rw [f1]; exact mkCs_len _ _
theorem rot_twice {y : Ar} (hy : chkA 8 y = 0) (a b : Int) {k : Nat} (hk : 0 < y.shape.length → k < y.shape.length) : rotR (atomA b) (rotR (atomA a) y k).1 k = rotR (atomA (a + b)) y k := by
  have hs := rot_shape hy a hk
  have hc := (rot_chk (x := atomA a) hy k hk).2 hs.1
  rw [rotR_atom b, rotR_atom (a + b), hs.2.1]
  by_cases h0 : y.shape.length = 0
  · rw [if_pos h0, if_pos h0, rotR_atom, if_pos h0]
  · rw [if_neg h0, if_neg h0]
    have hkk := hk (by omega)
    have hDb := (chk_axes hy).1 (gI y.shape k) (getD_mem hkk)
    obtain ⟨D, hD⟩ : ∃ D : Nat, gI y.shape k = (D : Int) := ⟨(gI y.shape k).toNat, by omega⟩
    rw [hD, Int.toNat_natCast]
    have e : (rotR (atomA a) y k).1 = alongA y k (rotL a D) := by rw [rotR_atom, if_neg h0, hD, Int.toNat_natCast]
    rw [e] at hc ⊢
    rw [rot_add hy hkk hD a b hc]
theorem rot_full {y : Ar} (hy : chkA 8 y = 0) {k : Nat} (hk : k < y.shape.length) : rotR (atomA (gI y.shape k)) y k = (y, 0) := by
  have hDb := (chk_axes hy).1 (gI y.shape k) (getD_mem hk)
  obtain ⟨D, hD⟩ : ∃ D : Nat, gI y.shape k = (D : Int) := ⟨(gI y.shape k).toNat, by omega⟩
  rw [rotR_atom, if_neg (by omega), hD, Int.toNat_natCast, rot_self hy hk hD]
end Go.Proofs.Ytmjncdhahdpplaa
namespace Go.Proofs.Ytmjncdhahdpplaa
open Go.ChangeShapes Go.WideShapes Go.ChangeAt Go.RowKit
set_option linter.unusedVariables false
set_option maxRecDepth 100000
set_option maxHeartbeats 4000000 in
theorem dy_bad1 {n lo lo' : Nat} {op : Int} {x y : Ar} {va vb : Value} {w : World} (hx : ArIn (n + 1) lo w x va) (hy : ArIn (n + 1) lo' w y vb) (hcx : ¬ chkA 8 x = 0) : Calls Try.prog 19 #[.int .i64 op, va, vb] w fun e w' => GivesD (n + 1) zeroA (chkA 8 x) w e w' := by
  obtain ⟨a1, c1, a2, c2, rfl, RX, hc⟩ := hx.form
  obtain ⟨b1, d1, b2, d2, rfl, R', hc'⟩ := hy.form
  have I := in3_new w (.slice a1 x.shape.length c1) (.slice a2 x.cells.length c2) (.slice b1 y.shape.length d1) (.slice b2 y.cells.length d2)
  obtain ⟨W3, e3⟩ : ∃ W3, ((w.alloc (.cells #[.slice a1 x.shape.length c1, .slice a2 x.cells.length c2] 25)).alloc (.cells #[.slice b1 y.shape.length d1, .slice b2 y.cells.length d2] 25)).alloc (.cells #[.slice none 0 0, .slice none 0 0] 25) = W3 := ⟨_, rfl⟩
  rw [e3] at I
  have q0 := I.q0
  have q1 := I.q1
  have CK := check_any (n + 1) x _ _ W3 (hx.next I.bel)
  have HI := hide I
  obtain ⟨E, hE⟩ : ∃ E, chkA 8 x = E := ⟨_, rfl⟩
  rw [hE] at CK hcx ⊢
  have hne : (E == 0) = false := beq_eq_false_iff_ne.2 hcx
  clear RX hc I hx hy R' hc' hE
  generalize x.shape.length = SX at *
  generalize x.cells.length = CX at *
  generalize y.shape.length = SY at *
  generalize y.cells.length = CY at *
  go_enter Try.func19, Try.ntmps19
  go_wp2_with fail
  clear e3 q0 q1
  refine CK.mono ?_
  clear CK
  rintro e w1 ⟨rfl, hb1⟩
  have I1 := HI.out.next hb1
  have p0 := I1.p0
  have p1 := I1.p1
  have f0 := I1.f0
  have f1 := I1.f1
  have HT := hide (I1.put (.slice none 0 0) (.slice none 0 0))
  have HFI := hide I1.fin
  clear I1 hb1 HI
  go_wp2
  exact bodyPost_ret (v := .tuple #[.agg #[.slice none 0 0, .slice none 0 0], .int .i64 E]) (by simp [results, Try.results19, go_sem, HT.out.1, HT.out.2]) rfl ⟨⟨_, rfl, caps_nil, zeroA_in _ _ _⟩, HFI.out _ _⟩
set_option maxHeartbeats 4000000 in
theorem dy_bad2 {n lo lo' : Nat} {op : Int} {x y : Ar} {va vb : Value} {w : World} (hx : ArIn (n + 1) lo w x va) (hy : ArIn (n + 1) lo' w y vb) (hcx : chkA 8 x = 0) (hcy : ¬ chkA 8 y = 0) : Calls Try.prog 19 #[.int .i64 op, va, vb] w fun e w' => GivesD (n + 1) zeroA (chkA 8 y) w e w' := by
  obtain ⟨a1, c1, a2, c2, rfl, RX, hc⟩ := hx.form
  obtain ⟨b1, d1, b2, d2, rfl, R', hc'⟩ := hy.form
  have I := in3_new w (.slice a1 x.shape.length c1) (.slice a2 x.cells.length c2) (.slice b1 y.shape.length d1) (.slice b2 y.cells.length d2)
  obtain ⟨W3, e3⟩ : ∃ W3, ((w.alloc (.cells #[.slice a1 x.shape.length c1, .slice a2 x.cells.length c2] 25)).alloc (.cells #[.slice b1 y.shape.length d1, .slice b2 y.cells.length d2] 25)).alloc (.cells #[.slice none 0 0, .slice none 0 0] 25) = W3 := ⟨_, rfl⟩
  rw [e3] at I
  have q0 := I.q0
  have q1 := I.q1
  have CK := check_any (n + 1) x _ _ W3 (hx.next I.bel)
  rw [hcx] at CK
  have HI := hide I
  have HY := hide hy
  obtain ⟨E, hE⟩ : ∃ E, chkA 8 y = E := ⟨_, rfl⟩
  rw [hE] at hcy ⊢
  have HEE := hide hE
  have hne : (E == 0) = false := beq_eq_false_iff_ne.2 hcy
  clear RX hc I hx hy R' hc' hE hcx
  generalize x.shape.length = SX at *
  generalize x.cells.length = CX at *
  generalize y.shape.length = SY at *
  generalize y.cells.length = CY at *
  go_enter Try.func19, Try.ntmps19
  go_wp2_with fail
  clear e3 q0 q1
  refine CK.mono ?_
  clear CK
  rintro e w1 ⟨rfl, hb1⟩
  have I1 := HI.out.next hb1
  have r0 := I1.r0
  have r1 := I1.r1
  have CK2 := check_any (n + 1) y _ _ w1 (HY.out.next I1.bel)
  rw [HEE.out] at CK2
  have HI1 := hide I1
  clear I1 hb1 HI
  go_wp2_with fail
  refine CK2.mono ?_
  clear CK2 r0 r1
  rintro e w2 ⟨rfl, hb2⟩
  have I2 := HI1.out.next hb2
  have p0 := I2.p0
  have p1 := I2.p1
  have f0 := I2.f0
  have f1 := I2.f1
  have HT := hide (I2.put (.slice none 0 0) (.slice none 0 0))
  have HFI := hide I2.fin
  clear I2 hb2 HI1
  go_wp2
  exact bodyPost_ret (v := .tuple #[.agg #[.slice none 0 0, .slice none 0 0], .int .i64 E]) (by simp [results, Try.results19, go_sem, HT.out.1, HT.out.2]) rfl ⟨⟨_, rfl, caps_nil, zeroA_in _ _ _⟩, HFI.out _ _⟩
/-- Dy of whatever arrays, out of what it is of arrays that may be. -/
def dyR (f : Ar → Ar → Ar × Int) (x y : Ar) : Ar × Int := if ¬ chkA 8 x = 0 then (zeroA, chkA 8 x) else if ¬ chkA 8 y = 0 then (zeroA, chkA 8 y) else f x y
theorem dy_all {n lo lo' : Nat} {op : Int} {x y : Ar} {va vb : Value} {w : World} (hx : ArIn (n + 1) lo w x va) (hy : ArIn (n + 1) lo' w y vb) (f : Ar → Ar → Ar × Int) (hP : chkA 8 x = 0 → chkA 8 y = 0 → Calls Try.prog 19 #[.int .i64 op, va, vb] w fun e w' => GivesD (n + 1) (f x y).1 (f x y).2 w e w') : Calls Try.prog 19 #[.int .i64 op, va, vb] w fun e w' => GivesD (n + 1) (dyR f x y).1 (dyR f x y).2 w e w' := by
  unfold dyR
  by_cases h1 : chkA 8 x = 0
  case neg => rw [if_pos h1]; exact dy_bad1 hx hy h1
  rw [if_neg (by simpa using h1)]
  by_cases h2 : chkA 8 y = 0
  case neg => rw [if_pos h2]; exact dy_bad2 hx hy h1 h2
  rw [if_neg (by simpa using h2)]
  exact hP h1 h2
end Go.Proofs.Ytmjncdhahdpplaa
namespace Go.Proofs.Ytmjncdhahdpplaa
open Go.ChangeShapes Go.WideShapes Go.ChangeAt Go.RowKit
set_option linter.unusedVariables false
set_option maxRecDepth 100000
theorem lstA_id {y : Ar} (hS : 0 < y.shape.length) : lstA y = y := by unfold lstA; rw [if_neg (by omega)]
theorem along_one {y : Ar} {D k L : Nat} (hD : gI y.shape 0 = (D : Int)) (hL : 0 < L) (hy : chkA 8 y = 0) (hS : 0 < y.shape.length) (hDp : 0 < D) (p : Nat) (hp : p < (sizeV (y.shape.set 0 (1 : Int))).toNat) :
    alongQ D (sizeV (y.shape.drop 1)).toNat 1 (fun i => (gI [(k : Int)] i).toNat) p = alongQ D (sizeV (y.shape.drop 1)).toNat L (fun i => (gI (fromL k L) i).toNat) p := by
  have hs : sizeE (y.shape.set 0 ((1 : Nat) : Int)) = 0 := drop_size hy hS hD (by omega)
  obtain ⟨A, D', wd, hD', hwd, hw0, -, hNA, hCA, -, -, -⟩ := along_facts hy hS hs (fun _ => by omega) (by show 0 < sizeV (y.shape.set 0 (1 : Int)); omega)
  have hsz : sizeV (y.shape.set 0 (1 : Int)) = ((A * (1 * wd) : Nat) : Int) := hNA
  have e1 := sizeV_prod hs
  obtain ⟨d, t, hdt⟩ : ∃ d t, y.shape = d :: t := by
    cases hsh : y.shape with
    | nil => rw [hsh] at hS; simp at hS
    | cons d t => exact ⟨d, t, rfl⟩
  have hpw : p < wd := by
    rw [hNA] at e1
    have hw2 : sizeV t = (wd : Int) := by rw [hdt] at hwd; simpa using hwd
    have hE2 : sizeE t = 0 := by
      rw [hdt, List.set_cons_zero] at hs
      obtain ⟨l8, g2, g3⟩ := fine_cases hs
      refine (fine_mk (l := t) (by simp at l8; omega) (fun z hz => g2 z (List.mem_cons.2 (Or.inr hz))) ?_).1
      rcases g3 with ⟨-, h0⟩ | ⟨hp', hle, -⟩
      · rw [hdt, List.set_cons_zero] at hNA
        have : ((A * (1 * wd) : Nat) : Int) = 0 := by rw [← hNA]; exact h0
        rw [hsz] at hp; omega
      · right
        have : prodL (((1 : Nat) : Int) :: t) = ((1 : Nat) : Int) * prodL t := rfl
        rw [this] at hle; omega
    have e3 := sizeV_prod hE2
    rw [hw2] at e3
    rw [hdt, List.set_cons_zero] at e1
    have : prodL (((1 : Nat) : Int) :: t) = ((1 : Nat) : Int) * prodL t := rfl
    rw [this, ← e3] at e1
    rw [hsz] at hp; omega
  rw [hwd, Int.toNat_natCast]
  unfold alongQ
  rw [Nat.div_eq_of_lt hpw]
  have h1 : (gI (fromL k L) (0 % L)).toNat = k := by rw [Nat.zero_mod, fromL_at k L 0 hL]; omega
  simp only [Nat.zero_div, Nat.zero_mod] at h1 ⊢
  rw [h1]
  rfl
theorem at_look {y : Ar} {D k : Nat} (hy : chkA 8 y = 0) (hS : 0 < y.shape.length) (hD : gI y.shape 0 = (D : Int)) (hk : k < D) : lookR (atomA (k : Int)) y = (.mk y.shape.tail (alongA y 0 [(k : Int)]).cells, 0) := by
  have l8 := (chk_len hy).1
  have hl : lkL (atomA (k : Int)) = [(k : Int)] := rfl
  have ht : sizeE y.shape.tail = 0 := by
    have htl : tallyN y = gI y.shape 0 := by unfold tallyN; rw [if_neg (by omega)]
    exact (item_facts hy hS (by rw [htl, hD]; omega)).2.2.2.2.1
  unfold lookR
  rw [if_neg (by show ¬ (y.shape.length = 0 ∨ 9 < 0 + y.shape.length); omega)]
  have hf : firstUp (lkF (atomA (k : Int)) y) (atomA (k : Int)).cells.length = 0 := by
    show firstUp (lkF (atomA (k : Int)) y) 1 = 0
    rw [firstUp_step (j := 0) rfl]
    unfold lkF
    have : cAt (atomA (k : Int)).cells 0 = (0, (k : Int), []) := rfl
    rw [this, if_neg (by simp), if_neg (by show ¬ ((k : Int) < 0 ∨ gI y.shape 0 ≤ (k : Int)); omega)]
  rw [if_neg (by simpa using hf), hl]
  have hsh : (atomA (k : Int)).shape ++ y.shape.tail = y.shape.tail := rfl
  rw [hsh, if_neg (by simpa using ht)]
theorem at_drop {y : Ar} {D k : Nat} (hS : 0 < y.shape.length) (hD : gI y.shape 0 = (D : Int)) (hk : k < D) : drpR (atomA (k : Int)) (lstA y) = (alongA y 0 (fromL k (D - k)), 0) := by
  rw [lstA_id hS]
  unfold drpR
  rw [numR_atom, if_neg (by simp), hD, Int.toNat_natCast]
  have h1 : drpF (k : Int) D = k := by unfold drpF; rw [if_neg (by omega)]; omega
  have h2 : drpN (k : Int) D = D - k := by unfold drpN; rw [if_neg (by omega)]; omega
  show (alongA y 0 (fromL (drpF (k : Int) D) (drpN (k : Int) D)), (0 : Int)) = _
  rw [h1, h2]
theorem at_take {y : Ar} {D k : Nat} (hy : chkA 8 y = 0) (hS : 0 < y.shape.length) (hD : gI y.shape 0 = (D : Int)) (hk : k < D) : takR (atomA 1) (lstA (alongA y 0 (fromL k (D - k)))) = (.mk (y.shape.set 0 1) (alongA y 0 [(k : Int)]).cells, 0) := by
  obtain ⟨L, hL⟩ : ∃ L, D - k = L := ⟨_, rfl⟩
  rw [hL]
  have hws : (alongA y 0 (fromL k L)).shape = y.shape.set 0 (L : Int) := by unfold alongA; rw [fromL_len]; rfl
  have hwc : (alongA y 0 (fromL k L)).cells = mkCs (sizeV (y.shape.set 0 (L : Int))).toNat fun p => cAt y.cells (alongQ D (sizeV (y.shape.drop 1)).toNat L (fun i => (gI (fromL k L) i).toNat) p) := by
    unfold alongA; rw [fromL_len, hD, Int.toNat_natCast]; rfl
  have hkc : (alongA y 0 [(k : Int)]).cells = mkCs (sizeV (y.shape.set 0 (1 : Int))).toNat fun p => cAt y.cells (alongQ D (sizeV (y.shape.drop 1)).toNat 1 (fun i => (gI [(k : Int)] i).toNat) p) := by
    unfold alongA; rw [hD, Int.toNat_natCast]; rfl
  have hset : (alongA y 0 (fromL k L)).shape.set 0 (1 : Int) = y.shape.set 0 (1 : Int) := by rw [hws, List.set_set]
  have hs1 : sizeE (y.shape.set 0 ((1 : Nat) : Int)) = 0 := drop_size hy hS hD (by omega)
  have hs1' : sizeE (y.shape.set 0 (1 : Int)) = 0 := hs1
  have hsL : sizeE (y.shape.set 0 (L : Int)) = 0 := drop_size hy hS hD (by omega)
  have hle : (sizeV (y.shape.set 0 (1 : Int))).toNat ≤ (alongA y 0 (fromL k L)).cells.length := by
    rw [hwc, mkCs_len]
    by_cases h0 : (sizeV (y.shape.set 0 (1 : Int))).toNat = 0
    · omega
    have hLp : 0 < L := by omega
    have e1 := sizeV_prod hs1'
    have e2 := sizeV_prod hsL
    obtain ⟨d, t, hdt⟩ : ∃ d t, y.shape = d :: t := by
      cases hsh : y.shape with
      | nil => rw [hsh] at hS; simp at hS
      | cons d t => exact ⟨d, t, rfl⟩
    rw [hdt, List.set_cons_zero] at e1 e2 h0 ⊢
    rw [List.set_cons_zero]
    have p1 : prodL ((1 : Int) :: t) = 1 * prodL t := rfl
    have p2 : prodL ((L : Int) :: t) = (L : Int) * prodL t := rfl
    rw [e1, p1] at h0 ⊢
    rw [e2, p2]
    have := Int.mul_le_mul_of_nonneg_right (show (1 : Int) ≤ L by omega) (show (0 : Int) ≤ prodL t by omega)
    omega
  rw [lstA_id (by rw [hws]; simpa using hS)]
  unfold takR
  rw [numR_atom, if_neg (by simp), if_neg (by simp)]
  have hna : (((1 : Int).natAbs : Nat) : Int) = 1 := rfl
  simp only [hna, hset]
  rw [if_neg (by simpa using hs1'), if_neg (by intro h; omega), if_neg (by decide), if_neg (by decide)]
  congr 2
  rw [hkc]
  refine cs_ext (by rw [mkCs_len, mkCs_len]) fun i hi => ?_
  rw [mkCs_len] at hi
  rw [mkCs_at _ _ _ hi, mkCs_at _ _ _ hi]
  unfold layC
  rw [if_pos (by
    have : Nat.min (alongA y 0 (fromL k L)).cells.length (sizeV (y.shape.set 0 (1 : Int))).toNat = (sizeV (y.shape.set 0 (1 : Int))).toNat := Nat.min_eq_right hle
    rw [this]; omega)]
  have hi' : i < (sizeV (y.shape.set 0 (L : Int))).toNat := by
    rw [hwc, mkCs_len] at hle; omega
  rw [hwc]
  have e0 : 0 + (i - 0) = i := by omega
  rw [e0, mkCs_at _ _ _ hi', along_one (L := L) hD (by omega) hy hS (by omega) i hi]
end Go.Proofs.Ytmjncdhahdpplaa
namespace Go.Proofs.Ytmjncdhahdpplaa
open Go.ChangeShapes Go.WideShapes Go.ChangeAt Go.RowKit
set_option linter.unusedVariables false
set_option maxRecDepth 100000
theorem oft_const (z : Int) (D : Nat) : oftL (atomA z).cells D = ((List.range D).map fun i : Nat => List.replicate z.toNat (i : Int)).flatten := by
  induction D with
  | zero => rfl
  | succ D ih =>
    rw [List.range_succ, List.map_append, List.flatten_append, ← ih]
    show oftL (atomA z).cells D ++ List.replicate (oCnt (atomA z).cells D).toNat (D : Int) = _
    have : oCnt (atomA z).cells D = z := by
      unfold oCnt
      have : (atomA z).cells.length = 1 := rfl
      rw [this, Nat.mod_one]; rfl
    rw [this]; simp
theorem oft_ones (D : Nat) : oftL (atomA 1).cells D = rotL (D : Int) D := by
  rw [oft_const]
  have : ((List.range D).map fun i : Nat => List.replicate (1 : Int).toNat (i : Int)).flatten = (List.range D).map fun i : Nat => (i : Int) := by
    induction List.range D with
    | nil => rfl
    | cons a l ih => rw [List.map_cons, List.flatten_cons, ih, List.map_cons]; rfl
  rw [this]
  unfold rotL
  refine List.map_congr_left fun i hi => ?_
  have := List.mem_range.1 hi
  rw [Int.add_emod_right, Int.emod_eq_of_lt (by omega) (by omega)]
theorem oft_noughts (D : Nat) : oftL (atomA 0).cells D = [] := by
  rw [oft_const]
  induction List.range D with
  | nil => rfl
  | cons a l ih => rw [List.map_cons, List.flatten_cons, ih]; rfl
theorem rep_head {z : Int} (hz : 0 ≤ z) {y : Ar} {k D : Nat} (hD : gI y.shape k = (D : Int)) : repR (atomA z) y k = if 16384 < (oftL (atomA z).cells D).length then (zeroA, 12) else if ¬ sizeE (y.shape.set k ((oftL (atomA z).cells D).length : Int)) = 0 then (zeroA, sizeE (y.shape.set k ((oftL (atomA z).cells D).length : Int))) else (alongA y k (oftL (atomA z).cells D), 0) := by
  unfold repR
  have h0 : (atomA z).shape.length = 0 := rfl
  have h1 : firstUp (repF (atomA z)) (atomA z).cells.length = 0 := by
    show firstUp (repF (atomA z)) 1 = 0
    rw [firstUp_step (j := 0) rfl]
    unfold repF
    have : cAt (atomA z).cells 0 = (0, z, []) := rfl
    rw [this, if_neg (by simp; omega)]
  rw [hD, Int.toNat_natCast, h0, if_neg (by omega), h1, if_neg (by simp), if_neg (by simp)]
theorem rep_one {y : Ar} (hy : chkA 8 y = 0) {k : Nat} (hk : k < y.shape.length) : repR (atomA 1) y k = (y, 0) := by
  have hDb := (chk_axes hy).1 (gI y.shape k) (getD_mem hk)
  obtain ⟨D, hD⟩ : ∃ D : Nat, gI y.shape k = (D : Int) := ⟨(gI y.shape k).toNat, by omega⟩
  rw [rep_head (by decide) hD, oft_ones, rotL_len, if_neg (by omega), ← hD, set_gI _ _ hk, ((chkA_iff 8 y).1 hy).1, if_neg (by simp), hD, rot_self hy hk hD]
theorem rep_none {y : Ar} (hy : chkA 8 y = 0) (hS : 0 < y.shape.length) : repR (atomA 0) y 0 = (alongA y 0 [], 0) := by
  have hDb := (chk_axes hy).1 (gI y.shape 0) (getD_mem hS)
  obtain ⟨D, hD⟩ : ∃ D : Nat, gI y.shape 0 = (D : Int) := ⟨(gI y.shape 0).toNat, by omega⟩
  have hs : sizeE (y.shape.set 0 ((0 : Nat) : Int)) = 0 := drop_size hy hS hD (by omega)
  rw [rep_head (by decide) hD, oft_noughts, List.length_nil, if_neg (by omega), hs, if_neg (by simp)]
end Go.Proofs.Ytmjncdhahdpplaa
namespace Go.Proofs.Ytmjncdhahdpplaa
open Go.ChangeShapes Go.WideShapes Go.ChangeAt Go.RowKit
set_option linter.unusedVariables false
set_option maxRecDepth 100000
set_option maxHeartbeats 4000000 in
theorem clone_own {lo : Nat} (l : List Int) (p : Addr) (cap : Nat) (w : World) (R : Row lo w (some p) l) (hl : l.length ≤ 16) :
    Calls Try.prog 106 #[.slice (some p) l.length cap] w fun e w' => (∃ v, e = .returned v ∧ w'.ownsRow w.heap.size 3 1 v l.length (l.map (Value.int .i64))) ∧ Below w.heap.size w w' := by
  obtain ⟨i3, hi3, hz30, hz31, hz32⟩ := infoI3
  obtain ⟨W2, e2⟩ : ∃ W2, w.alloc (.cells #[] 3) = W2 := ⟨_, rfl⟩
  have B2 : Below w.heap.size w W2 := by rw [← e2]; exact one_alloc _ _
  have HO : Hid (W2.ownsRow w.heap.size 3 1 (.slice (some ⟨w.heap.size, 0, none⟩) 0 0) 0 []) := by
    have := World.ownsRow_lit (base := w.heap.size) (e := 3) (size := 1) w #[] 0 (Nat.le_refl _) (by unfold maxLen; omega) rfl
    rw [e2] at this
    exact this
  have HL := hide (R.next B2).lies
  have hsl : (l.map (Value.int .i64)).length = l.length * 1 := by rw [List.length_map]; omega
  have HB2 := hide B2
  obtain ⟨L, hL⟩ : ∃ L, l.length = L := ⟨_, rfl⟩
  rw [hL] at hl hsl ⊢
  clear R B2 hL
  have hq : ∀ W, (binOp .eql 22 (.slice (some p) L cap) (.slice none 0 0)).run Try.prog W = .ok (.bool false) W := fun W => Go.Lib.run_eql_slice_nil W 22 3 (some p) L cap 0 0 Try.underlying22
  go_enter Try.func106, Try.ntmps106
  go_wp2_with (at_builtin; refine wpList_append_any rfl _ _ 22 rfl w.heap.size 3 i3 (.int .i64 0) 1 8 Try.underlying22 hi3 hz30 hz31 hz32 rfl (by decide) (.slice (some ⟨w.heap.size, 0, none⟩) 0 0) 0 [] rfl HO.out (some p) L cap (l.map (Value.int .i64)) rfl hsl HL.out ?c3 ?c4 HB2.out.size ?_)
  case c3 => unfold maxLen; omega
  case c4 => omega
  intro v' w3 hown hb
  have HF : Hid (w3.ownsRow w.heap.size 3 1 v' L (l.map (Value.int .i64)) ∧ Below w.heap.size w w3) := ⟨by simpa using hown, HB2.out.trans hb⟩
  clear hown hb HL hsl
  go_wp2
  go_ret
  exact ⟨⟨_, rfl, HF.out.1⟩, HF.out.2⟩
set_option maxHeartbeats 4000000 in
theorem insertE_own {base : Nat} (l : List Int) (a : Option Addr) (cap V : Nat) (W : World) (hown : W.ownsRow base 3 1 (.slice a l.length cap) l.length (l.map (Value.int .i64))) (hl : l.length ≤ 8) (hV : W.cell? ⟨V, 0, none⟩ = some (.int .i64 1)) (hVl : V < W.heap.size) (hbase : base ≤ W.heap.size) :
    Calls Try.prog 66 #[.slice a l.length cap, .int .i64 (l.length : Int), .slice (some ⟨V, 0, none⟩) 1 1] W fun e w' => (∃ a' cap', e = .returned (.slice a' (l.length + 1) cap') ∧ Row base w' a' (l ++ [1])) ∧ Below base W w' := by
  obtain ⟨i3, hi3, hz30, hz31, hz32⟩ := infoI3
  have HOWN := hide hown
  have HB := hide hbase
  have HLI : Hid (Lies W (some ⟨V, 0, none⟩) [.int .i64 1]) := (row_one (lo := 0) hVl (Nat.zero_le _) hV).lies
  obtain ⟨a', cap', he, hcap⟩ := owns_cap hown
  simp only [Value.slice.injEq] at he
  obtain ⟨rfl, -, rfl⟩ := he
  obtain ⟨L, hL⟩ : ∃ L, l.length = L := ⟨_, rfl⟩
  have HL := hide hL
  rw [hL] at HOWN hl hcap ⊢
  have hbe : ((L : Int) == (L : Int)) = true := beq_self_eq_true _
  have hp1 : ∀ W, (Instr.sliceAt 22 (.slice a L cap) (some (.int .i64 (L : Int))) none none).run Try.prog W = .ok (.slice (subA a L cap 1) (L - L) (cap - L)) W := fun W => part_l (P := Try.prog) Try.underlying22 size3 a L cap L (L : Int) rfl (by omega) W
  clear hown hbase hL hV hVl
  go_enter Try.func66, Try.ntmps66
  go_wp2_with (at_builtin; refine wpList_append_any rfl _ _ 22 rfl base 3 i3 (.int .i64 0) 1 8 Try.underlying22 hi3 hz30 hz31 hz32 rfl (by decide) _ L _ rfl HOWN.out (some ⟨V, 0, none⟩) 1 1 [.int .i64 1] rfl rfl HLI.out ?c3 ?c4 HB.out ?_)
  case c3 => unfold maxLen; omega
  case c4 => omega
  intro v' w3 hown hb
  have hm : l.map (Value.int .i64) ++ [.int .i64 1] = (l ++ [1]).map (Value.int .i64) := by simp
  rw [hm] at hown
  have hl2 : (l ++ [1]).length = L + 1 := by rw [List.length_append, HL.out]; rfl
  have hown' : w3.ownsRow base 3 1 v' (l ++ [1]).length ((l ++ [1]).map (Value.int .i64)) := by rw [hl2]; exact hown
  obtain ⟨a', cap', rfl, RR⟩ := owns_rowE (l ++ [1]) (by rw [hl2]; omega) hown'
  rw [hl2]
  have HF := hide (And.intro RR hb)
  clear hown hown' hb RR hm hl2
  go_wp2
  go_ret
  exact ⟨⟨_, _, rfl, HF.out.1⟩, HF.out.2⟩
set_option maxHeartbeats 4000000 in
theorem insert0_own {base : Nat} (l : List Int) (g cap V : Nat) (W : World) (hown : W.ownsRow base 3 1 (.slice (some ⟨g, 0, none⟩) l.length cap) l.length (l.map (Value.int .i64))) (h0 : 0 < l.length) (hl : l.length ≤ 8) (hVh : W.heap[V]? = some (.cells #[.int .i64 1] 3)) (hVg : V ≠ g) (hbase : base ≤ W.heap.size) :
    Calls Try.prog 66 #[.slice (some ⟨g, 0, none⟩) l.length cap, .int .i64 0, .slice (some ⟨V, 0, none⟩) 1 1] W fun e w' => (∃ a' cap', e = .returned (.slice a' (l.length + 1) cap') ∧ Row base w' a' (1 :: l)) ∧ Below base W w' := by
  have hV : W.cell? ⟨V, 0, none⟩ = some (.int .i64 1) := cell_of_heap hVh rfl
  have hVl : V < W.heap.size := (Array.getElem?_eq_some_iff.1 hVh).1
  obtain ⟨hxl, hor⟩ := hown
  rcases hor with ⟨h, -⟩ | ⟨g', cap', cur, he, hbg, hgh, hn, hmax, hcs, htk⟩
  · simp at h
  simp only [Value.slice.injEq, Option.some.injEq, Addr.mk.injEq, and_true, true_and] at he
  obtain ⟨rfl, rfl⟩ := he
  have hgl : g < W.heap.size := (Array.getElem?_eq_some_iff.1 hgh).1
  rw [Nat.mul_one] at hcs htk
  have hcell : ∀ i, i < l.length → W.cell? ⟨g, i, none⟩ = some (.int .i64 (gI l i)) := fun i hi => by
    refine cell_of_heap hgh ?_
    have h1 : (cur.toList.take l.length)[i]? = some (.int .i64 (gI l i)) := by rw [htk]; simp [gI, hi]
    rw [List.getElem?_take_of_lt hi] at h1
    simpa using h1
  by_cases hroom : cap = l.length
  · subst hroom
    refine (insert_any l g V W hl hcell hV hVl hgl).mono ?_
    rintro e w' ⟨⟨a, c, rfl, R⟩, hb⟩
    exact ⟨⟨a, c, rfl, R.low hbase⟩, hb.mono hbase⟩
  have hsome : ∀ i, i < cap → (W.cell? ⟨g, i, none⟩).isSome = true := fun i hi => by
    rw [cell_of_heap hgh (v := cur[i]'(by omega)) (by simp [hcs, hi])]; rfl
  have hfz : ∀ i, W.frozen? ⟨g, i, none⟩ = false := fun i => frozen_of_heap hgh
  have hov : ∀ lb cb, (callFunc 91 #[.slice (some ⟨V, 0, none⟩) 1 1, .slice (some ⟨g, 1, none⟩) lb cb]).run Try.prog W = .ok (.value (.bool false)) W := fun lb cb => by
    obtain ⟨i3, hi3, hz30, hz31, hz32⟩ := infoI3
    rw [run_callFunc_extern Try.func91 (by kernel_rfl) (by kernel_rfl) (by kernel_rfl) (e := Extern.SlicesOverlaps.overlaps #[22, 22] #[4]) (by kernel_rfl),
      Lib.run_overlaps_apart W 22 4 3 Try.underlying22 1 (fun w => by simp [Go.sizeOf, typeInfo, hi3, hz31]) ⟨V, 0, none⟩ ⟨g, 1, none⟩ 1 1 lb cb hVg 3 3 1 cap (by unfold World.shape?; rw [hVh]; rfl) (by unfold World.shape?; rw [hgh]; simp [hcs]) (by omega) (frozen_of_heap hVh) (frozen_of_heap hVh)]
    rfl
  have size3' : (Try.prog.info? 3).map (·.size) = some 1 := size3
  have hml : (l.map (Value.int .i64)).length = l.length := by simp
  have hmv : ∀ j v, (l.map (Value.int .i64))[j]? = some v → j < l.length ∧ v = .int .i64 (gI l j) := by
    intro j v hv
    have hj : j < l.length := by
      rcases Nat.lt_or_ge j l.length with h' | h'
      · exact h'
      · simp [List.getElem?_eq_none h'] at hv
    refine ⟨hj, ?_⟩
    simp [hj] at hv
    simp [gI, hj, ← hv]
  have hc1 := fun ty => run_copy_cells (P := Try.prog) W.drew 22 22 ty 3 g 1 l.length (cap - 1) ⟨g, 0, none⟩ (l.length + 1) cap (l.map (Value.int .i64)) Try.underlying22 size3' (by rw [hml]; simp only [Nat.min_def]; split <;> omega) (by
    intro j v hv
    obtain ⟨hj, rfl⟩ := hmv j v hv
    rw [add_off, Nat.zero_add]
    exact hcell j hj) (by intro j hj; rw [hml] at hj; exact hsome (1 + j) (by omega)) (by intro j hj; exact hfz _) (by intro v hv; obtain ⟨z, _, rfl⟩ := List.mem_map.1 hv; rfl)
  rw [hml] at hc1
  obtain ⟨WA, eA⟩ : ∃ WA, W.drew.setCells g 1 (l.map (Value.int .i64)) = WA := ⟨_, rfl⟩
  have hA0 : ∀ b, b ≠ g → ∀ i, WA.cell? ⟨b, i, none⟩ = W.cell? ⟨b, i, none⟩ := fun b hb i => by rw [← eA]; exact World.cell?_setCells_out g _ _ _ _ (fun h => absurd h hb)
  have hAg : ∀ i, i < cap → (WA.cell? ⟨g, i, none⟩).isSome = true := fun i hi => by
    rw [← eA]
    by_cases h : 1 ≤ i ∧ i < 1 + l.length
    · have := setCells_cell g (l.map (Value.int .i64)) 1 W.drew (i - 1) (.int .i64 (gI l (i - 1))) (by rw [hml]; omega) (by simp [gI, show i - 1 < l.length by omega]) (fun j hj => by rw [hml] at hj; exact hsome (1 + j) (by omega))
      rw [show 1 + (i - 1) = i by omega] at this
      rw [this]; rfl
    · rw [World.cell?_setCells_out g _ _ _ _ (fun _ _ => by rw [hml]; show i < 1 ∨ 1 + l.length ≤ i; omega)]
      exact hsome i hi
  have hAf : ∀ i, WA.frozen? ⟨g, i, none⟩ = false := fun i => by rw [← eA, World.frozen?_setCells]; exact hfz i
  rw [eA] at hc1
  have hc2 := fun ty => run_copy_cells (P := Try.prog) WA 22 22 ty 3 g 0 (l.length + 1) cap ⟨V, 0, none⟩ 1 1 [.int .i64 1] Try.underlying22 size3' (by simp) (by
    intro j v hv
    cases j with
    | zero => simp at hv; subst hv; rw [add_off]; exact (hA0 V hVg 0).trans hV
    | succ j => simp at hv) (by intro j hj; simp at hj; subst hj; exact hAg _ (by omega)) (by intro j hj; exact hAf _) (by intro v hv; simp at hv; subst hv; rfl)
  obtain ⟨WC, eC⟩ : ∃ WC, WA.setCells g 0 [.int .i64 1] = WC := ⟨_, rfl⟩
  rw [eC] at hc2
  have sC : WC.heap.size = W.heap.size := by rw [← eC, (setCells_block _ _ _ _).1, ← eA, (setCells_block _ _ _ _).1]; rfl
  have HF : Hid (Row base WC (some ⟨g, 0, none⟩) (1 :: l) ∧ Below base W WC) := by
    refine ⟨⟨by simp; omega, Or.inr ⟨g, 0, rfl, hbg, by omega, fun i hi => ?_⟩⟩, ?_⟩
    · rw [Nat.zero_add]
      cases i with
      | zero =>
        rw [← eC]
        show (WA.setCell ⟨g, 0, none⟩ (.int .i64 1)).cell? _ = _
        exact World.cell?_setCell_same' _ _ _ (hAg 0 (by omega))
      | succ i =>
        have hil : i < l.length := by simpa using hi
        rw [← eC]
        show (WA.setCell ⟨g, 0, none⟩ (.int .i64 1)).cell? _ = _
        rw [World.cell?_setCell_other _ _ _ _ (by simp), ← eA]
        have := setCells_cell g (l.map (Value.int .i64)) 1 W.drew i (.int .i64 (gI l i)) (by rw [hml]; exact hil) (by simp [gI, hil]) (fun j hj => by rw [hml] at hj; exact hsome (1 + j) (by omega))
        rw [Nat.add_comm 1 i] at this
        rw [this]
        rfl
    · rw [← eC, ← eA]
      have h1 : ∀ (vs : List Value) (o : Nat) (X : World), Below base W X → Below base W (X.setCells g o vs) := by
        intro vs
        induction vs with
        | nil => intro o X h; exact h
        | cons u us ih => intro o X h; exact ih _ _ (h.setCell (p := ⟨g, o, none⟩) hbg u)
      exact h1 _ _ _ (h1 _ _ _ (Below.refl _ _).drew)
  obtain ⟨L, hL⟩ : ∃ L, l.length = L := ⟨_, rfl⟩
  rw [hL] at hc1 hc2 hroom hn h0 hl ⊢
  have r1 : ¬ cap = 1 := by omega
  have r0 : ¬ cap = 0 := by omega
  have rL : L + 1 ≤ cap := by omega
  have rI : ¬ (cap : Int) < (L : Int) + 1 := by omega
  have c63 : cap ≤ 9223372036854775807 := by unfold maxLen at hmax; omega
  have b0 : ((0 : Int) == (L : Int)) = false := by simp; omega
  clear hAf hAg hA0 eA eC hmv hml hsome hfz hcell hV hVl hxl hgh hcs htk hVh hmax hL sC
  go_enter Try.func66, Try.ntmps66
  go_wp2_with (simp only [hov])
  go_region
  all_goals
    go_wp2
    go_ret
    exact ⟨⟨_, _, rfl, HF.out.1⟩, HF.out.2⟩
end Go.Proofs.Ytmjncdhahdpplaa
