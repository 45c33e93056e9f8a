/-
  The contract of layer 5's first: the first item, of an array whose slices are no longer than their rows.
-/
import Derived.Test.YtmjncdhahdpplaaLyK
import Derived.Deep.RegionHeld3
namespace Go.Proofs.Ytmjncdhahdpplaa
open Go.ChangeShapes Go.WideShapes Go.ChangeAt Go.RowKit
set_option linter.unusedVariables false
set_option maxRecDepth 100000
def Caps (v : Value) : Prop := ∃ a1 n1 c1 a2 n2 c2, v = .agg #[.slice a1 n1 c1, .slice a2 n2 c2] ∧ n1 ≤ c1 ∧ n2 ≤ c2
theorem item_facts {r : Nat} {x : Ar} (h : chkA r x = 0) (hs : 0 < x.shape.length) (ht : ¬ tallyN x = 0) : 0 < tallyN x ∧ tallyN x ≤ 16384 ∧ tallyN x = gI x.shape 0 ∧ chkA r (itemR x) = 0 ∧ sizeE x.shape.tail = 0 ∧ sizeV x.shape.tail = ((x.cells.length / (tallyN x).toNat : Nat) : Int) := by
  obtain ⟨h1, h2, h3⟩ := chk_axes h
  obtain ⟨l8, c16⟩ := chk_len h
  have et : tallyN x = gI x.shape 0 := by unfold tallyN; rw [if_neg (by omega)]
  have b1 := h1 (gI x.shape 0) (getD_mem hs)
  obtain ⟨d, t, hdt⟩ : ∃ d t, x.shape = d :: t := by
    cases hsh : x.shape with
    | nil => rw [hsh] at hs; simp at hs
    | cons d t => exact ⟨d, t, rfl⟩
  have ed : gI x.shape 0 = d := by rw [hdt]; rfl
  rw [ed] at et b1
  have etl : x.shape.tail = t := by rw [hdt]; rfl
  have hd : 0 < d := by omega
  have key : sizeE t = 0 ∧ sizeV t = ((x.cells.length / d.toNat : Nat) : Int) := by
    by_cases h0 : 0 < x.cells.length
    · obtain ⟨g1, g2⟩ := h2 h0
      rw [hdt] at g1 g2 l8
      have gt : ∀ z ∈ t, 0 < z := fun z hz => g1 z (List.mem_cons_of_mem _ hz)
      have pt := prodL_pos gt
      have e1 : d * prodL t = (x.cells.length : Int) := by simpa [prodL] using g2
      have le : prodL t ≤ 16384 := by
        have := Int.mul_le_mul_of_nonneg_right (show (1 : Int) ≤ d by omega) (show 0 ≤ prodL t by omega)
        omega
      have := fine_mk (l := t) (by simp at l8; omega) (fun z hz => by have := gt z hz; omega) (Or.inr le)
      refine ⟨this.1, ?_⟩
      rw [this.2]
      have e2 : ((x.cells.length / d.toNat : Nat) : Int) = (x.cells.length : Int) / d := by
        rw [Int.natCast_ediv, Int.toNat_of_nonneg (by omega)]
      rw [e2, ← e1, Int.mul_ediv_cancel_left _ (by omega)]
    · have hz := h3 (by omega)
      rw [hdt] at hz l8
      have hz' : hasZero t := by
        obtain ⟨z, hz, rfl⟩ := hz
        rcases List.mem_cons.1 hz with h | h
        · omega
        · exact ⟨0, h, rfl⟩
      have := fine_mk (l := t) (by simp at l8; omega) (fun z hz => (h1 z (by rw [hdt]; exact List.mem_cons_of_mem _ hz)).1) (Or.inl hz')
      refine ⟨this.1, ?_⟩
      rw [this.2, prodL_zero hz']
      have : x.cells.length = 0 := by omega
      rw [this]; simp
  refine ⟨by omega, by omega, by omega, ?_, by rw [etl]; exact key.1, by rw [etl, et]; exact key.2⟩
  have hle : x.cells.length / (tallyN x).toNat ≤ x.cells.length := Nat.div_le_self _ _
  refine chk_of h (by rw [etl]; exact key.1) (by rw [etl, List.length_take, et, key.2, Nat.min_eq_left (by rw [← et]; exact hle)]) ?_ ?_
  · rintro ⟨z, hz, hlt⟩
    have := (h1 z (by rw [hdt]; rw [etl] at hz; exact List.mem_cons_of_mem _ hz)).2
    omega
  · intro i hi
    rw [List.length_take] at hi
    refine ⟨i, by omega, ?_⟩
    unfold cAt
    rw [List.getElem?_take_of_lt (by omega)]
/-- A part of the cells. -/
theorem CellsIn.take {n lo : Nat} {w : World} {cs : List Ce} {a2 : Option Addr} (h : CellsIn n lo w cs a2) (m : Nat) : CellsIn n lo w (cs.take m) a2 := by
  rcases h with rfl | ⟨b, off, ha, hlo, hb, hc⟩
  · exact Or.inl (by simp)
  · refine Or.inr ⟨b, off, ha, hlo, hb, fun i hi => ?_⟩
    rw [List.length_take] at hi
    have := hc i (by omega)
    unfold cAt at this ⊢
    rw [List.getElem?_take_of_lt (by omega)]
    exact this
theorem Row.tail {lo b off : Nat} {w : World} {l : List Int} (h : Row lo w (some ⟨b, off, none⟩) l) : Row lo w (some ⟨b, off + 1, none⟩) l.tail := by
  obtain ⟨h1, h2⟩ := h
  refine ⟨by rw [List.length_tail]; omega, ?_⟩
  rcases h2 with rfl | ⟨b', off', ha, hlo, hb, hc⟩
  · exact Or.inl rfl
  · cases ha
    refine Or.inr ⟨b, off + 1, rfl, hlo, hb, fun i hi => ?_⟩
    rw [List.length_tail] at hi
    have := hc (i + 1) (by omega)
    rw [show off + 1 + i = off + (i + 1) by omega, this]
    simp
/-- As In2, whatever lies in the answer's place. -/
structure Fr (w : World) (v0 v1 : Value) (W : World) : Prop where
  bel : Below w.heap.size w W
  size : w.heap.size + 2 ≤ W.heap.size
  q0 : W.cell? ⟨w.heap.size, 0, none⟩ = some v0
  q1 : W.cell? ⟨w.heap.size, 1, none⟩ = some v1
  p0 : ∃ u, W.cell? ⟨w.heap.size + 1, 0, none⟩ = some u
  p1 : ∃ u, W.cell? ⟨w.heap.size + 1, 1, none⟩ = some u
  f0 : W.frozen? ⟨w.heap.size + 1, 0, none⟩ = false
  f1 : W.frozen? ⟨w.heap.size + 1, 1, none⟩ = false
theorem In2.fr {w W : World} {v0 v1 : Value} (h : In2 w v0 v1 W) : Fr w v0 v1 W := ⟨h.bel, h.size, h.q0, h.q1, ⟨_, h.p0⟩, ⟨_, h.p1⟩, h.f0, h.f1⟩
theorem Fr.next {w W W' : World} {v0 v1 : Value} (h : Fr w v0 v1 W) (hb : Below W.heap.size W W') : Fr w v0 v1 W' := by
  have s := h.size
  obtain ⟨u0, h0⟩ := h.p0
  obtain ⟨u1, h1⟩ := h.p1
  refine ⟨h.bel.trans (hb.mono h.bel.size), Nat.le_trans s hb.size, ?_, ?_, ⟨u0, ?_⟩, ⟨u1, ?_⟩, ?_, ?_⟩
  · exact (hb.cell (p := ⟨w.heap.size, 0, none⟩) (by show w.heap.size < _; omega)).trans h.q0
  · exact (hb.cell (p := ⟨w.heap.size, 1, none⟩) (by show w.heap.size < _; omega)).trans h.q1
  · exact (hb.cell (p := ⟨w.heap.size + 1, 0, none⟩) (by show w.heap.size + 1 < _; omega)).trans h0
  · exact (hb.cell (p := ⟨w.heap.size + 1, 1, none⟩) (by show w.heap.size + 1 < _; omega)).trans h1
  · exact (hb.frozen (p := ⟨w.heap.size + 1, 0, none⟩) (by show w.heap.size + 1 < _; omega)).trans h.f0
  · exact (hb.frozen (p := ⟨w.heap.size + 1, 1, none⟩) (by show w.heap.size + 1 < _; omega)).trans h.f1
theorem Fr.set {w W : World} {v0 v1 : Value} (h : Fr w v0 v1 W) (u v : Value) : Fr w v0 v1 ((W.setCell ⟨w.heap.size + 1, 0, none⟩ u).setCell ⟨w.heap.size + 1, 1, none⟩ v) := by
  obtain ⟨u0, h0⟩ := h.p0
  obtain ⟨u1, h1⟩ := h.p1
  have t := set_two h0 h1 u v
  refine ⟨(h.bel.setCell (p := ⟨w.heap.size + 1, 0, none⟩) (by show w.heap.size ≤ w.heap.size + 1; omega) u).setCell (p := ⟨w.heap.size + 1, 1, none⟩) (by show w.heap.size ≤ w.heap.size + 1; omega) v, by simpa using h.size, ?_, ?_, ⟨u, ?_⟩, ⟨v, t.2⟩, by simpa using h.f0, by simpa using h.f1⟩
  · exact cell_apart (p := ⟨w.heap.size, 0, none⟩) (q := ⟨w.heap.size + 1, 1, none⟩) (by show w.heap.size ≠ w.heap.size + 1; omega) _ (cell_apart (p := ⟨w.heap.size, 0, none⟩) (q := ⟨w.heap.size + 1, 0, none⟩) (by show w.heap.size ≠ w.heap.size + 1; omega) _ h.q0)
  · exact cell_apart (p := ⟨w.heap.size, 1, none⟩) (q := ⟨w.heap.size + 1, 1, none⟩) (by show w.heap.size ≠ w.heap.size + 1; omega) _ (cell_apart (p := ⟨w.heap.size, 1, none⟩) (q := ⟨w.heap.size + 1, 0, none⟩) (by show w.heap.size ≠ w.heap.size + 1; omega) _ h.q1)
  · rw [World.cell?_setCell_other _ _ _ _ (by simp)]; exact t.1
theorem Fr.fin {w W : World} {v0 v1 : Value} (h : Fr w v0 v1 W) (u v : Value) : Below w.heap.size w ((W.setCell ⟨w.heap.size + 1, 0, none⟩ u).setCell ⟨w.heap.size + 1, 1, none⟩ v) := (h.set u v).bel
theorem give_at {w W : World} {n lo : Nat} {x : Ar} {va : Value} (hx : ArIn n lo W x va) (hlo : w.heap.size + 2 ≤ lo) (u v : Value) : ArIn n w.heap.size ((W.setCell ⟨w.heap.size + 1, 0, none⟩ u).setCell ⟨w.heap.size + 1, 1, none⟩ v) x va := by
  have hk : Keeps (w.heap.size + 2) W ((W.setCell ⟨w.heap.size + 1, 0, none⟩ u).setCell ⟨w.heap.size + 1, 1, none⟩ v) := ((Keeps.refl _ _).setCell (p := ⟨w.heap.size + 1, 0, none⟩) (by show w.heap.size + 1 < _; omega) u).setCell (p := ⟨w.heap.size + 1, 1, none⟩) (by show w.heap.size + 1 < _; omega) v
  exact ((hx.mono hlo (Below.refl _ _)).keeps hk).mono (by omega) (Below.refl _ _)
set_option maxHeartbeats 4000000 in
theorem first_any {n lo : Nat} {x : Ar} {va : Value} {w : World} (hx : ArIn (n + 1) lo w x va) (hchk : chkA 8 x = 0) (hcap : Caps va) : Calls Try.prog 36 #[va] w fun e w' => Gives2 (n + 1) w.heap.size (firstR x).1 (firstR x).2 w e w' := by
  obtain ⟨a1, c1, a2, c2, rfl, R, hc⟩ := hx.form
  obtain ⟨hc1, hc2⟩ : x.shape.length ≤ c1 ∧ x.cells.length ≤ c2 := by
    obtain ⟨b1, n1, k1, b2, n2, k2, hv, h1, h2⟩ := hcap
    simp only [Value.agg.injEq, Array.mk.injEq, List.cons.injEq, Value.slice.injEq, and_true] at hv
    obtain ⟨⟨-, rfl, rfl⟩, -, rfl, rfl⟩ := hv
    exact ⟨h1, h2⟩
  have I := in2_new w (.slice a1 x.shape.length c1) (.slice a2 x.cells.length c2)
  obtain ⟨W2, e2⟩ : ∃ W2, (w.alloc (.cells #[.slice a1 x.shape.length c1, .slice a2 x.cells.length c2] 25)).alloc (.cells #[.slice none 0 0, .slice none 0 0] 25) = W2 := ⟨_, rfl⟩
  have hz2 : W2.heap.size = w.heap.size + 2 := by rw [← e2]; simp
  rw [e2] at I
  have q0 := I.q0
  have q1 := I.q1
  have CT := tally_any (hx.next I.bel)
  have HI := hide I
  have HX := hide (And.intro hx hchk)
  have HRC := hide (And.intro R hc)
  have HE : Hid (firstR x = if tallyN x = 0 then (zeroA, 8) else if x.shape.length = 0 then (x, 0) else (itemR x, 0)) := rfl
  have HIF := hide (fun hs ht => item_facts hchk hs ht)
  obtain ⟨l8, c16⟩ := chk_len hchk
  obtain ⟨SA, hSA⟩ : ∃ SA, x.shape.length = SA := ⟨_, rfl⟩
  obtain ⟨CA, hCA⟩ : ∃ CA, x.cells.length = CA := ⟨_, rfl⟩
  have HSC := hide (And.intro hSA hCA)
  simp only [hSA, hCA] at CT e2 q0 q1 HI HX HE HIF hc1 hc2 l8 c16 ⊢
  obtain ⟨T, hT⟩ : ∃ T, tallyN x = T := ⟨_, rfl⟩
  have HTT := hide hT
  simp only [hT] at CT HE HIF
  clear R hc I hx hchk hSA hCA hT hcap
  go_enter Try.func36, Try.ntmps36
  go_wp2_with fail
  clear e2 q0 q1
  refine CT.mono ?_
  rintro e w1 ⟨rfl, hb1⟩
  have I1 := HI.out.next hb1
  have q0 := I1.q0
  have q1 := I1.q1
  have HI1 := hide I1
  by_cases hT0 : T = 0
  · have p0 := I1.p0
    have p1 := I1.p1
    have f0 := I1.f0
    have f1 := I1.f1
    have HT := hide (I1.put (.slice none 0 0) (.slice none 0 0))
    have HE5 : Hid (firstR x = (zeroA, 8)) := by unfold Hid; rw [HE.out, if_pos hT0]
    clear I1 hb1 CT HI HX HE q0 q1 HRC HIF
    go_wp2
    exact bodyPost_ret (v := .tuple #[.agg #[.slice none 0 0, .slice none 0 0], .int .i64 8]) (by simp [results, Try.results36, go_sem, HT.out.1, HT.out.2]) rfl (gives2_of HE5.out (zeroA_in _ _ _) (HI1.out.fin _ _))
  · by_cases hS0 : SA = 0
    · have CC := copyA HX.out.2 (HX.out.1.next I1.bel)
      have HE5 : Hid (firstR x = (x, 0)) := by unfold Hid; rw [HE.out, if_neg hT0, if_pos hS0]
      have hTb : (T == 0) = false := beq_eq_false_iff_ne.2 hT0
      have hSb : ((SA : Int) == 0) = true := by simp [hS0]
      clear I1 hb1 CT HI HX HE HRC HIF hS0
      go_wp2_with fail
      refine CC.mono ?_
      rintro e w2 ⟨⟨v, rfl, hv⟩, hb2⟩
      obtain ⟨z1, m1, z2, m2, rfl, -, -⟩ := hv.form
      rw [HSC.out.1, HSC.out.2] at hv ⊢
      have I4 := HI1.out.next hb2
      have p0 := I4.p0
      have p1 := I4.p1
      have f0 := I4.f0
      have f1 := I4.f1
      have HT := hide (I4.put (.slice z1 SA m1) (.slice z2 CA m2))
      have HF := hide (I4.give hv HI1.out.size)
      have HFI := hide I4.fin
      clear I4 hv hb2 CC HI1 q0 q1
      go_wp2
      exact bodyPost_ret (v := .tuple #[.agg #[.slice z1 SA m1, .slice z2 CA m2], .int .i64 0]) (by simp [results, Try.results36, go_sem, HT.out.1, HT.out.2]) rfl (gives2_of HE5.out (HF.out _ _) (HFI.out _ _))
    · have HE5 : Hid (firstR x = (itemR x, 0)) := by unfold Hid; rw [HE.out, if_neg hT0, if_neg hS0]
      have hTb : (T == 0) = false := beq_eq_false_iff_ne.2 hT0
      have hSb : ((SA : Int) == 0) = false := by simp; exact hS0
      obtain ⟨i1, i2, i3, i4, i5, i6⟩ := HIF.out (by omega) hT0
      obtain ⟨b, off, rfl, -, -⟩ := row_at HRC.out.1 (j := 0) (by rw [HSC.out.1]; omega)
      obtain ⟨t, rfl⟩ : ∃ t : Nat, T = (t : Int) := ⟨T.toNat, by omega⟩
      by_cases hc11 : c1 = 1
      · subst hc11
        have hS1 : SA = 1 := by omega
        subst hS1
        by_cases hc20 : c2 = 0
        · subst hc20
          have hC0 : CA = 0 := by omega
          subst hC0
          obtain ⟨m, hm⟩ : ∃ m : Nat, m = 0 / t := ⟨_, rfl⟩
          have hmle : m ≤ 0 := by rw [hm]; exact Nat.div_le_self _ _
          have hm0 : m = 0 := by omega
          subst hm0
          have AI : ∀ W, Below w.heap.size w W → ArIn (n + 1) lo W (itemR x) (.agg #[.slice (some ⟨b, off, none⟩) 0 0, .slice a2 0 0]) := fun W hB => by
            refine arIn_mk (x := itemR x) (by have ht : x.shape.tail = [] := List.eq_nil_of_length_eq_zero (by rw [List.length_tail, HSC.out.1]); show Row lo W _ x.shape.tail; rw [ht]; exact row_nil _ _ _) ?_ ((HRC.out.2.mono (Nat.le_refl _) hB).take _) ?_ ?_
            · show (x.cells.take _).length ≤ _
              rw [List.length_take, HSC.out.2]; omega
            · show x.shape.tail.length = _
              rw [List.length_tail, HSC.out.1]
            · show (x.cells.take _).length = _
              rw [List.length_take, HSC.out.2, HTT.out, Int.toNat_natCast, ← hm]; omega
          have C1 : Hid (∀ W, (Fr w (.slice (some ⟨b, off, none⟩) 1 1) (.slice a2 0 0) W ∧ W.cell? ⟨w.heap.size, 0, none⟩ = some (.slice (some ⟨b, off, none⟩) 1 1) ∧ W.cell? ⟨w.heap.size, 1, none⟩ = some (.slice a2 0 0)) → Calls Try.prog 29 #[.agg #[.slice (some ⟨b, off, none⟩) 1 1, .slice a2 0 0]] W fun e w' => e = .returned (.int .i64 (t : Int)) ∧ Fr w (.slice (some ⟨b, off, none⟩) 1 1) (.slice a2 0 0) w') := by
            rintro W ⟨h, -⟩
            have := tally_any (HX.out.1.next h.bel)
            rw [HTT.out] at this
            exact this.mono fun e w' ⟨he, hb⟩ => ⟨he, h.next hb⟩
          have C2 : Hid (∀ W, (Fr w (.slice (some ⟨b, off, none⟩) 1 1) (.slice a2 0 0) W ∧ W.cell? ⟨w.heap.size, 0, none⟩ = some (.slice (some ⟨b, off, none⟩) 1 1) ∧ W.cell? ⟨w.heap.size, 1, none⟩ = some (.slice a2 0 0)) → Calls Try.prog 30 #[.agg #[.slice (some ⟨b, off, none⟩) 0 0, .slice a2 0 0]] W fun e w' => (∃ z1 m1 z2 m2, e = .returned (.agg #[.slice z1 0 m1, .slice z2 0 m2]) ∧ ArIn (n + 1) (w.heap.size + 2) w' (itemR x) (.agg #[.slice z1 0 m1, .slice z2 0 m2])) ∧ Fr w (.slice (some ⟨b, off, none⟩) 1 1) (.slice a2 0 0) w') := by
            rintro W ⟨h, -⟩
            refine (copyA i4 (AI W h.bel)).mono ?_
            rintro e w' ⟨⟨v, rfl, hv⟩, hb⟩
            have e1 : (itemR x).shape.length = 0 := by show x.shape.tail.length = _; rw [List.length_tail, HSC.out.1]
            have e2 : (itemR x).cells.length = 0 := by show (x.cells.take _).length = _; rw [List.length_take, HSC.out.2, HTT.out, Int.toNat_natCast, ← hm]; omega
            obtain ⟨z1, m1, z2, m2, rfl, -, -⟩ := hv.form
            rw [e1, e2] at hv ⊢
            exact ⟨⟨_, _, _, _, rfl, hv.mono h.size (Below.refl _ _)⟩, h.next hb⟩
          have hlt : w.heap.size < w1.heap.size := by have := I1.size; omega
          have KS : Hid (∀ W, Fr w (.slice (some ⟨b, off, none⟩) 1 1) (.slice a2 0 0) W → (Fr w (.slice (some ⟨b, off, none⟩) 1 1) (.slice a2 0 0) W ∧ W.cell? ⟨w.heap.size, 0, none⟩ = some (.slice (some ⟨b, off, none⟩) 1 1) ∧ W.cell? ⟨w.heap.size, 1, none⟩ = some (.slice a2 0 0))) := fun W h => ⟨h, h.q0, h.q1⟩
          have HRR : Hid (Fr w (.slice (some ⟨b, off, none⟩) 1 1) (.slice a2 0 0) w1.drew) := I1.fr.next (Below.refl _ _).drew
          have hT1 : ¬ (t : Int) = 0 := by omega
          have hT3 : ¬ t = 0 := by omega
          have hT2 : IntKind.i64.wrap (0 : Int) = 0 := by decide
          clear I1 hb1 CT HI HE AI i1 i2 i3 i4 i5 i6 hm HX HRC HIF hlt
          go_wp2
          go_region_held3 (fun W => Fr w (.slice (some ⟨b, off, none⟩) 1 1) (.slice a2 0 0) W ∧ W.cell? ⟨w.heap.size, 0, none⟩ = some (.slice (some ⟨b, off, none⟩) 1 1) ∧ W.cell? ⟨w.heap.size, 1, none⟩ = some (.slice a2 0 0))
            (first | exact KS.out _ HRR.out | exact KS.out _ (by assumption) | exact KS.out _ (Fr.set (by assumption) _ _))
            (first
              | (go_at_call 29; refine (C1.out _ (by assumption)).mono ?_; rintro e w2 ⟨rfl, hb2⟩)
              | (go_at_call 30; refine (C2.out _ (by assumption)).mono ?_; rintro e w3 ⟨⟨z1, m1, z2, m2, rfl, hv⟩, I3⟩; obtain ⟨u0, p0⟩ := I3.p0; obtain ⟨u1, p1⟩ := I3.p1; have f0 := I3.f0; have f1 := I3.f1))
          have HT := hide (set_two p0 p1 (.slice z1 0 m1) (.slice z2 0 m2))
          have HF := hide (give_at hv (Nat.le_refl _))
          have HFI := hide I3.fin
          clear I3 hv HI1 C1 C2 KS
          go_wp2
          exact bodyPost_ret (v := .tuple #[.agg #[.slice z1 0 m1, .slice z2 0 m2], .int .i64 0]) (by simp [results, Try.results36, go_sem, HT.out.1, HT.out.2]) rfl (gives2_of HE5.out (HF.out _ _) (HFI.out _ _))
        · have hc21 : ¬ c2 = 0 := hc20
          obtain ⟨m, hm⟩ : ∃ m : Nat, m = CA / t := ⟨_, rfl⟩
          have hmle : m ≤ CA := by rw [hm]; exact Nat.div_le_self _ _
          have hq : (CA : Int).tdiv (t : Int) = (m : Int) := by
            rw [Int.tdiv_eq_ediv_of_nonneg (by omega), hm, Int.natCast_ediv]
          have AI : ∀ W, Below w.heap.size w W → ArIn (n + 1) lo W (itemR x) (.agg #[.slice (some ⟨b, off, none⟩) 0 0, .slice a2 m c2]) := fun W hB => by
            refine arIn_mk (x := itemR x) (by have ht : x.shape.tail = [] := List.eq_nil_of_length_eq_zero (by rw [List.length_tail, HSC.out.1]); show Row lo W _ x.shape.tail; rw [ht]; exact row_nil _ _ _) ?_ ((HRC.out.2.mono (Nat.le_refl _) hB).take _) ?_ ?_
            · show (x.cells.take _).length ≤ _
              rw [List.length_take, HSC.out.2]; omega
            · show x.shape.tail.length = _
              rw [List.length_tail, HSC.out.1]
            · show (x.cells.take _).length = _
              rw [List.length_take, HSC.out.2, HTT.out, Int.toNat_natCast, ← hm]; omega
          have C1 : Hid (∀ W, (Fr w (.slice (some ⟨b, off, none⟩) 1 1) (.slice a2 CA c2) W ∧ W.cell? ⟨w.heap.size, 0, none⟩ = some (.slice (some ⟨b, off, none⟩) 1 1) ∧ W.cell? ⟨w.heap.size, 1, none⟩ = some (.slice a2 CA c2)) → Calls Try.prog 29 #[.agg #[.slice (some ⟨b, off, none⟩) 1 1, .slice a2 CA c2]] W fun e w' => e = .returned (.int .i64 (t : Int)) ∧ Fr w (.slice (some ⟨b, off, none⟩) 1 1) (.slice a2 CA c2) w') := by
            rintro W ⟨h, -⟩
            have := tally_any (HX.out.1.next h.bel)
            rw [HTT.out] at this
            exact this.mono fun e w' ⟨he, hb⟩ => ⟨he, h.next hb⟩
          have C2 : Hid (∀ W, (Fr w (.slice (some ⟨b, off, none⟩) 1 1) (.slice a2 CA c2) W ∧ W.cell? ⟨w.heap.size, 0, none⟩ = some (.slice (some ⟨b, off, none⟩) 1 1) ∧ W.cell? ⟨w.heap.size, 1, none⟩ = some (.slice a2 CA c2)) → Calls Try.prog 30 #[.agg #[.slice (some ⟨b, off, none⟩) 0 0, .slice a2 m c2]] W fun e w' => (∃ z1 m1 z2 m2, e = .returned (.agg #[.slice z1 0 m1, .slice z2 m m2]) ∧ ArIn (n + 1) (w.heap.size + 2) w' (itemR x) (.agg #[.slice z1 0 m1, .slice z2 m m2])) ∧ Fr w (.slice (some ⟨b, off, none⟩) 1 1) (.slice a2 CA c2) w') := by
            rintro W ⟨h, -⟩
            refine (copyA i4 (AI W h.bel)).mono ?_
            rintro e w' ⟨⟨v, rfl, hv⟩, hb⟩
            have e1 : (itemR x).shape.length = 0 := by show x.shape.tail.length = _; rw [List.length_tail, HSC.out.1]
            have e2 : (itemR x).cells.length = m := by show (x.cells.take _).length = _; rw [List.length_take, HSC.out.2, HTT.out, Int.toNat_natCast, ← hm]; omega
            obtain ⟨z1, m1, z2, m2, rfl, -, -⟩ := hv.form
            rw [e1, e2] at hv ⊢
            exact ⟨⟨_, _, _, _, rfl, hv.mono h.size (Below.refl _ _)⟩, h.next hb⟩
          have hlt : w.heap.size < w1.heap.size := by have := I1.size; omega
          have KS : Hid (∀ W, Fr w (.slice (some ⟨b, off, none⟩) 1 1) (.slice a2 CA c2) W → (Fr w (.slice (some ⟨b, off, none⟩) 1 1) (.slice a2 CA c2) W ∧ W.cell? ⟨w.heap.size, 0, none⟩ = some (.slice (some ⟨b, off, none⟩) 1 1) ∧ W.cell? ⟨w.heap.size, 1, none⟩ = some (.slice a2 CA c2))) := fun W h => ⟨h, h.q0, h.q1⟩
          have HRR : Hid (Fr w (.slice (some ⟨b, off, none⟩) 1 1) (.slice a2 CA c2) w1.drew) := I1.fr.next (Below.refl _ _).drew
          have hT1 : ¬ (t : Int) = 0 := by omega
          have hT3 : ¬ t = 0 := by omega
          have hm1 : (0 : Int) ≤ (m : Int) := by omega
          have hm2 : (m : Int) ≤ (c2 : Int) := by omega
          have hwm : IntKind.i64.wrap (m : Int) = (m : Int) := IntWalk.i64_in _ ⟨by omega, by omega⟩
          have hT2 : IntKind.i64.wrap (0 : Int) = 0 := by decide
          clear I1 hb1 CT HI HE AI i1 i2 i3 i4 i5 i6 hm HX HRC HIF hlt
          go_wp2
          go_region_held3 (fun W => Fr w (.slice (some ⟨b, off, none⟩) 1 1) (.slice a2 CA c2) W ∧ W.cell? ⟨w.heap.size, 0, none⟩ = some (.slice (some ⟨b, off, none⟩) 1 1) ∧ W.cell? ⟨w.heap.size, 1, none⟩ = some (.slice a2 CA c2))
            (first | exact KS.out _ HRR.out | exact KS.out _ (by assumption) | exact KS.out _ (Fr.set (by assumption) _ _))
            (first
              | (go_at_call 29; refine (C1.out _ (by assumption)).mono ?_; rintro e w2 ⟨rfl, hb2⟩)
              | (go_at_call 30; refine (C2.out _ (by assumption)).mono ?_; rintro e w3 ⟨⟨z1, m1, z2, m2, rfl, hv⟩, I3⟩; obtain ⟨u0, p0⟩ := I3.p0; obtain ⟨u1, p1⟩ := I3.p1; have f0 := I3.f0; have f1 := I3.f1))
          have HT := hide (set_two p0 p1 (.slice z1 0 m1) (.slice z2 m m2))
          have HF := hide (give_at hv (Nat.le_refl _))
          have HFI := hide I3.fin
          clear I3 hv HI1 C1 C2 KS
          go_wp2
          exact bodyPost_ret (v := .tuple #[.agg #[.slice z1 0 m1, .slice z2 m m2], .int .i64 0]) (by simp [results, Try.results36, go_sem, HT.out.1, HT.out.2]) rfl (gives2_of HE5.out (HF.out _ _) (HFI.out _ _))
      · have hc12 : ¬ c1 = 1 := hc11
        have h1SA : (1 : Int) ≤ (SA : Int) := by omega
        by_cases hc20 : c2 = 0
        · subst hc20
          have hC0 : CA = 0 := by omega
          subst hC0
          obtain ⟨m, hm⟩ : ∃ m : Nat, m = 0 / t := ⟨_, rfl⟩
          have hmle : m ≤ 0 := by rw [hm]; exact Nat.div_le_self _ _
          have hm0 : m = 0 := by omega
          subst hm0
          have AI : ∀ W, Below w.heap.size w W → ArIn (n + 1) lo W (itemR x) (.agg #[.slice (some ⟨b, off + 1, none⟩) (SA - 1) (c1 - 1), .slice a2 0 0]) := fun W hB => by
            refine arIn_mk (x := itemR x) ((HRC.out.1.next hB).tail) ?_ ((HRC.out.2.mono (Nat.le_refl _) hB).take _) ?_ ?_
            · show (x.cells.take _).length ≤ _
              rw [List.length_take, HSC.out.2]; omega
            · show x.shape.tail.length = _
              rw [List.length_tail, HSC.out.1]
            · show (x.cells.take _).length = _
              rw [List.length_take, HSC.out.2, HTT.out, Int.toNat_natCast, ← hm]; omega
          have C1 : Hid (∀ W, (Fr w (.slice (some ⟨b, off, none⟩) SA c1) (.slice a2 0 0) W ∧ W.cell? ⟨w.heap.size, 0, none⟩ = some (.slice (some ⟨b, off, none⟩) SA c1) ∧ W.cell? ⟨w.heap.size, 1, none⟩ = some (.slice a2 0 0)) → Calls Try.prog 29 #[.agg #[.slice (some ⟨b, off, none⟩) SA c1, .slice a2 0 0]] W fun e w' => e = .returned (.int .i64 (t : Int)) ∧ Fr w (.slice (some ⟨b, off, none⟩) SA c1) (.slice a2 0 0) w') := by
            rintro W ⟨h, -⟩
            have := tally_any (HX.out.1.next h.bel)
            rw [HTT.out] at this
            exact this.mono fun e w' ⟨he, hb⟩ => ⟨he, h.next hb⟩
          have C2 : Hid (∀ W, (Fr w (.slice (some ⟨b, off, none⟩) SA c1) (.slice a2 0 0) W ∧ W.cell? ⟨w.heap.size, 0, none⟩ = some (.slice (some ⟨b, off, none⟩) SA c1) ∧ W.cell? ⟨w.heap.size, 1, none⟩ = some (.slice a2 0 0)) → Calls Try.prog 30 #[.agg #[.slice (some ⟨b, off + 1, none⟩) (SA - 1) (c1 - 1), .slice a2 0 0]] W fun e w' => (∃ z1 m1 z2 m2, e = .returned (.agg #[.slice z1 (SA - 1) m1, .slice z2 0 m2]) ∧ ArIn (n + 1) (w.heap.size + 2) w' (itemR x) (.agg #[.slice z1 (SA - 1) m1, .slice z2 0 m2])) ∧ Fr w (.slice (some ⟨b, off, none⟩) SA c1) (.slice a2 0 0) w') := by
            rintro W ⟨h, -⟩
            refine (copyA i4 (AI W h.bel)).mono ?_
            rintro e w' ⟨⟨v, rfl, hv⟩, hb⟩
            have e1 : (itemR x).shape.length = SA - 1 := by show x.shape.tail.length = _; rw [List.length_tail, HSC.out.1]
            have e2 : (itemR x).cells.length = 0 := by show (x.cells.take _).length = _; rw [List.length_take, HSC.out.2, HTT.out, Int.toNat_natCast, ← hm]; omega
            obtain ⟨z1, m1, z2, m2, rfl, -, -⟩ := hv.form
            rw [e1, e2] at hv ⊢
            exact ⟨⟨_, _, _, _, rfl, hv.mono h.size (Below.refl _ _)⟩, h.next hb⟩
          have hlt : w.heap.size < w1.heap.size := by have := I1.size; omega
          have KS : Hid (∀ W, Fr w (.slice (some ⟨b, off, none⟩) SA c1) (.slice a2 0 0) W → (Fr w (.slice (some ⟨b, off, none⟩) SA c1) (.slice a2 0 0) W ∧ W.cell? ⟨w.heap.size, 0, none⟩ = some (.slice (some ⟨b, off, none⟩) SA c1) ∧ W.cell? ⟨w.heap.size, 1, none⟩ = some (.slice a2 0 0))) := fun W h => ⟨h, h.q0, h.q1⟩
          have HRR : Hid (Fr w (.slice (some ⟨b, off, none⟩) SA c1) (.slice a2 0 0) w1.drew) := I1.fr.next (Below.refl _ _).drew
          have hT1 : ¬ (t : Int) = 0 := by omega
          have hT3 : ¬ t = 0 := by omega
          have hT2 : IntKind.i64.wrap (0 : Int) = 0 := by decide
          have hSA1 : 1 ≤ SA := by omega
          clear I1 hb1 CT HI HE AI i1 i2 i3 i4 i5 i6 hm HX HRC HIF hlt
          go_wp2
          go_region_held3 (fun W => Fr w (.slice (some ⟨b, off, none⟩) SA c1) (.slice a2 0 0) W ∧ W.cell? ⟨w.heap.size, 0, none⟩ = some (.slice (some ⟨b, off, none⟩) SA c1) ∧ W.cell? ⟨w.heap.size, 1, none⟩ = some (.slice a2 0 0))
            (first | exact KS.out _ HRR.out | exact KS.out _ (by assumption) | exact KS.out _ (Fr.set (by assumption) _ _))
            (first
              | (go_at_call 29; refine (C1.out _ (by assumption)).mono ?_; rintro e w2 ⟨rfl, hb2⟩)
              | (go_at_call 30; refine (C2.out _ (by assumption)).mono ?_; rintro e w3 ⟨⟨z1, m1, z2, m2, rfl, hv⟩, I3⟩; obtain ⟨u0, p0⟩ := I3.p0; obtain ⟨u1, p1⟩ := I3.p1; have f0 := I3.f0; have f1 := I3.f1))
          have HT := hide (set_two p0 p1 (.slice z1 (SA - 1) m1) (.slice z2 0 m2))
          have HF := hide (give_at hv (Nat.le_refl _))
          have HFI := hide I3.fin
          clear I3 hv HI1 C1 C2 KS
          go_wp2
          exact bodyPost_ret (v := .tuple #[.agg #[.slice z1 (SA - 1) m1, .slice z2 0 m2], .int .i64 0]) (by simp [results, Try.results36, go_sem, HT.out.1, HT.out.2]) rfl (gives2_of HE5.out (HF.out _ _) (HFI.out _ _))
        · have hc21 : ¬ c2 = 0 := hc20
          obtain ⟨m, hm⟩ : ∃ m : Nat, m = CA / t := ⟨_, rfl⟩
          have hmle : m ≤ CA := by rw [hm]; exact Nat.div_le_self _ _
          have hq : (CA : Int).tdiv (t : Int) = (m : Int) := by
            rw [Int.tdiv_eq_ediv_of_nonneg (by omega), hm, Int.natCast_ediv]
          have AI : ∀ W, Below w.heap.size w W → ArIn (n + 1) lo W (itemR x) (.agg #[.slice (some ⟨b, off + 1, none⟩) (SA - 1) (c1 - 1), .slice a2 m c2]) := fun W hB => by
            refine arIn_mk (x := itemR x) ((HRC.out.1.next hB).tail) ?_ ((HRC.out.2.mono (Nat.le_refl _) hB).take _) ?_ ?_
            · show (x.cells.take _).length ≤ _
              rw [List.length_take, HSC.out.2]; omega
            · show x.shape.tail.length = _
              rw [List.length_tail, HSC.out.1]
            · show (x.cells.take _).length = _
              rw [List.length_take, HSC.out.2, HTT.out, Int.toNat_natCast, ← hm]; omega
          have C1 : Hid (∀ W, (Fr w (.slice (some ⟨b, off, none⟩) SA c1) (.slice a2 CA c2) W ∧ W.cell? ⟨w.heap.size, 0, none⟩ = some (.slice (some ⟨b, off, none⟩) SA c1) ∧ W.cell? ⟨w.heap.size, 1, none⟩ = some (.slice a2 CA c2)) → Calls Try.prog 29 #[.agg #[.slice (some ⟨b, off, none⟩) SA c1, .slice a2 CA c2]] W fun e w' => e = .returned (.int .i64 (t : Int)) ∧ Fr w (.slice (some ⟨b, off, none⟩) SA c1) (.slice a2 CA c2) w') := by
            rintro W ⟨h, -⟩
            have := tally_any (HX.out.1.next h.bel)
            rw [HTT.out] at this
            exact this.mono fun e w' ⟨he, hb⟩ => ⟨he, h.next hb⟩
          have C2 : Hid (∀ W, (Fr w (.slice (some ⟨b, off, none⟩) SA c1) (.slice a2 CA c2) W ∧ W.cell? ⟨w.heap.size, 0, none⟩ = some (.slice (some ⟨b, off, none⟩) SA c1) ∧ W.cell? ⟨w.heap.size, 1, none⟩ = some (.slice a2 CA c2)) → Calls Try.prog 30 #[.agg #[.slice (some ⟨b, off + 1, none⟩) (SA - 1) (c1 - 1), .slice a2 m c2]] W fun e w' => (∃ z1 m1 z2 m2, e = .returned (.agg #[.slice z1 (SA - 1) m1, .slice z2 m m2]) ∧ ArIn (n + 1) (w.heap.size + 2) w' (itemR x) (.agg #[.slice z1 (SA - 1) m1, .slice z2 m m2])) ∧ Fr w (.slice (some ⟨b, off, none⟩) SA c1) (.slice a2 CA c2) w') := by
            rintro W ⟨h, -⟩
            refine (copyA i4 (AI W h.bel)).mono ?_
            rintro e w' ⟨⟨v, rfl, hv⟩, hb⟩
            have e1 : (itemR x).shape.length = SA - 1 := by show x.shape.tail.length = _; rw [List.length_tail, HSC.out.1]
            have e2 : (itemR x).cells.length = m := by show (x.cells.take _).length = _; rw [List.length_take, HSC.out.2, HTT.out, Int.toNat_natCast, ← hm]; omega
            obtain ⟨z1, m1, z2, m2, rfl, -, -⟩ := hv.form
            rw [e1, e2] at hv ⊢
            exact ⟨⟨_, _, _, _, rfl, hv.mono h.size (Below.refl _ _)⟩, h.next hb⟩
          have hlt : w.heap.size < w1.heap.size := by have := I1.size; omega
          have KS : Hid (∀ W, Fr w (.slice (some ⟨b, off, none⟩) SA c1) (.slice a2 CA c2) W → (Fr w (.slice (some ⟨b, off, none⟩) SA c1) (.slice a2 CA c2) W ∧ W.cell? ⟨w.heap.size, 0, none⟩ = some (.slice (some ⟨b, off, none⟩) SA c1) ∧ W.cell? ⟨w.heap.size, 1, none⟩ = some (.slice a2 CA c2))) := fun W h => ⟨h, h.q0, h.q1⟩
          have HRR : Hid (Fr w (.slice (some ⟨b, off, none⟩) SA c1) (.slice a2 CA c2) w1.drew) := I1.fr.next (Below.refl _ _).drew
          have hT1 : ¬ (t : Int) = 0 := by omega
          have hT3 : ¬ t = 0 := by omega
          have hm1 : (0 : Int) ≤ (m : Int) := by omega
          have hm2 : (m : Int) ≤ (c2 : Int) := by omega
          have hwm : IntKind.i64.wrap (m : Int) = (m : Int) := IntWalk.i64_in _ ⟨by omega, by omega⟩
          have hT2 : IntKind.i64.wrap (0 : Int) = 0 := by decide
          have hSA1 : 1 ≤ SA := by omega
          clear I1 hb1 CT HI HE AI i1 i2 i3 i4 i5 i6 hm HX HRC HIF hlt
          go_wp2
          go_region_held3 (fun W => Fr w (.slice (some ⟨b, off, none⟩) SA c1) (.slice a2 CA c2) W ∧ W.cell? ⟨w.heap.size, 0, none⟩ = some (.slice (some ⟨b, off, none⟩) SA c1) ∧ W.cell? ⟨w.heap.size, 1, none⟩ = some (.slice a2 CA c2))
            (first | exact KS.out _ HRR.out | exact KS.out _ (by assumption) | exact KS.out _ (Fr.set (by assumption) _ _))
            (first
              | (go_at_call 29; refine (C1.out _ (by assumption)).mono ?_; rintro e w2 ⟨rfl, hb2⟩)
              | (go_at_call 30; refine (C2.out _ (by assumption)).mono ?_; rintro e w3 ⟨⟨z1, m1, z2, m2, rfl, hv⟩, I3⟩; obtain ⟨u0, p0⟩ := I3.p0; obtain ⟨u1, p1⟩ := I3.p1; have f0 := I3.f0; have f1 := I3.f1))
          have HT := hide (set_two p0 p1 (.slice z1 (SA - 1) m1) (.slice z2 m m2))
          have HF := hide (give_at hv (Nat.le_refl _))
          have HFI := hide I3.fin
          clear I3 hv HI1 C1 C2 KS
          go_wp2
          exact bodyPost_ret (v := .tuple #[.agg #[.slice z1 (SA - 1) m1, .slice z2 m m2], .int .i64 0]) (by simp [results, Try.results36, go_sem, HT.out.1, HT.out.2]) rfl (gives2_of HE5.out (HF.out _ _) (HFI.out _ _))
end Go.Proofs.Ytmjncdhahdpplaa
