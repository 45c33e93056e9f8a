/-
  The contract of the document's Mo of layer 5, arm by arm, and whole.
-/
import Derived.Test.YtmjncdhahdpplaaPkD
namespace Go.Proofs.Ytmjncdhahdpplaa
open Go.ChangeShapes Go.WideShapes Go.ChangeAt Go.RowKit
set_option linter.unusedVariables false
set_option maxRecDepth 100000
theorem place_lt {r : Nat} {x : Ar} (h : chkA r x = 0) {d : List Int} (hd : inAxes x.shape d) : place x.shape d < x.cells.length ∧ sizeV x.shape = x.cells.length := by
  obtain ⟨h1, h2, h3, h4⟩ := (chkA_iff r x).1 h
  obtain ⟨b1, b2, b3, b4⟩ := place_bound hd
  have := sizeV_prod h1
  omega
theorem turn_ok {r : Nat} {x : Ar} (h : chkA r x = 0) (q k : Nat) (hq : ∀ d, ruleL q x.shape d = turnL x.shape d k) (hk : 0 < x.shape.length → k < x.shape.length) : ∀ d, inAxes x.shape d → inAxes x.shape (ruleL q x.shape d) ∧ place x.shape (ruleL q x.shape d) < x.cells.length := by
  intro d hd
  have h1 : inAxes x.shape (ruleL q x.shape d) := by
    rw [hq]
    by_cases h0 : 0 < x.shape.length
    · exact turn_in k (hk h0) hd
    · have hl := (inAxes_gI x.shape d).1 hd
      have e1 : d = [] := List.eq_nil_of_length_eq_zero (by omega)
      rw [e1]
      have e2 : turnL x.shape [] k = [] := by simp [turnL]
      rw [e2, ← e1]; exact hd
  exact ⟨h1, (place_lt h h1).1⟩
theorem by_rev {r : Nat} {x : Ar} (h : chkA r x = 0) (q k : Nat) (hq : ∀ d, ruleL q x.shape d = turnL x.shape d k) : byR q x.shape x = revR x k := by
  have hv : (sizeV x.shape).toNat = x.cells.length := by have := ((chkA_iff r x).1 h).2.1; omega
  unfold byR revR
  rw [hv]
  by_cases h0 : x.shape.length = 0
  · rw [if_pos h0]
    obtain ⟨e1, e2⟩ := atom_one h h0
    have : mkCs x.cells.length (fun i => cAt x.cells (place x.shape (ruleL q x.shape (digits x.shape i))).toNat) = x.cells := mkCs_self _ _ fun i hi => by
      have hi0 : i = 0 := by omega
      subst hi0
      rw [hq, e1]
      simp [place]
    rw [this]; exact Ar.eta x
  · rw [if_neg h0]
    simp only [hq]
theorem flip_ok {r : Nat} {x : Ar} (h : chkA r x = 0) : (∀ d, inAxes x.shape.reverse d → inAxes x.shape (ruleL 2 x.shape.reverse d) ∧ place x.shape (ruleL 2 x.shape.reverse d) < x.cells.length) ∧ sizeE x.shape.reverse = 0 ∧ byR 2 x.shape.reverse x = flipR x := by
  obtain ⟨h1, h2, h3, h4⟩ := (chkA_iff r x).1 h
  obtain ⟨l8, g2, g3⟩ := fine_cases h1
  have hz : hasZero x.shape.reverse ↔ hasZero x.shape := by unfold hasZero; simp
  have hf := fine_mk (l := x.shape.reverse) (by simpa using l8) (fun z hz => g2 z (by simpa using hz)) (by
    rcases g3 with ⟨g, -⟩ | ⟨g, g', -⟩
    · exact Or.inl (hz.2 g)
    · right; rw [prodL_rev]; exact g')
  refine ⟨fun d hd => ?_, hf.1, ?_⟩
  · have : inAxes x.shape (ruleL 2 x.shape.reverse d) := rev_in hd
    exact ⟨this, (place_lt h this).1⟩
  · unfold byR flipR
    rw [hf.2, prodL_rev, ← sizeV_prod h1, h2, Int.toNat_natCast]
    rfl
set_option maxHeartbeats 4000000 in
theorem rmo_5 {n lo : Nat} {x : Ar} {va : Value} {w0 w : World} (hx : ArIn (n + 1) lo w0 x va) (hb0 : Below w0.heap.size w0 w) (hchk : chkA 8 x = 0) : Calls Try.prog 14 #[.int .i64 5, va] w fun e w' => Gives2Z (n + 2) w0 (moR (n + 1) 5 x).1 (moR (n + 1) 5 x).2 w e w' := by
  obtain ⟨a1, c1, a2, c2, rfl, R, hc⟩ := hx.form
  have I := in2_new w (.slice a1 x.shape.length c1) (.slice a2 x.cells.length c2)
  obtain ⟨W2, e2⟩ : ∃ W2, (w.alloc (.cells #[.slice a1 x.shape.length c1, .slice a2 x.cells.length c2] 25)).alloc (.cells #[.slice none 0 0, .slice none 0 0] 25) = W2 := ⟨_, rfl⟩
  rw [e2] at I
  have q0 := I.q0
  have q1 := I.q1
  have hl := R.1
  have CK := rcheck_any (n + 1) x _ _ W2 (hx.next (hb0.trans (I.bel.mono hb0.size)))
  rw [hchk] at CK
  have HI := hide I
  have HB0 := hide hb0
  have HX := hide (And.intro hx (And.intro hchk (And.intro R hc)))
  obtain ⟨l8, c16⟩ := chk_len hchk
  have HMO := hide (moR_ok (n := n + 1) (op := 5) hchk)
  clear hx hchk R hc I
  go_enter Try.func14, Try.ntmps14
  go_wp2_with fail
  clear e2 q0 q1
  refine CK.mono ?_
  rintro e w1 ⟨rfl, hb1⟩
  have I1 := HI.out.next hb1
  have q0 := I1.q0
  have q1 := I1.q1
  have p0 := I1.p0
  have p1 := I1.p1
  have f0 := I1.f0
  have f1 := I1.f1
  have HI1 := hide I1
  have hs1 := I1.size
  have NB : Below w0.heap.size w0 w1 := HB0.out.trans (I1.bel.mono HB0.out.size)
  have C := rcount_any (HX.out.1.next NB) HX.out.2.1
  have HE : Hid (moR (n + 1) 5 x = iotaR x) := by unfold Hid; rw [HMO.out]; simp
  obtain ⟨⟨Y, EY⟩, hR⟩ : ∃ p, iotaR x = p := ⟨_, rfl⟩
  rw [hR] at C HE
  simp only at C
  clear I1 hb1 CK HI HX HMO p0 p1 f0 f1 hR
  generalize x.shape.length = SA at *
  generalize x.cells.length = CA at *
  go_wp2_with fail
  refine C.mono ?_
  rintro e w2 ⟨⟨v, rfl, hv⟩, hb2⟩
  obtain ⟨z1, m1, z2, m2, rfl, -, -⟩ := hv.form
  have I2 := HI1.out.next hb2
  have p0 := I2.p0
  have p1 := I2.p1
  have f0 := I2.f0
  have f1 := I2.f1
  have HT := hide (I2.put (.slice z1 Y.shape.length m1) (.slice z2 Y.cells.length m2))
  have HF : Hid (∀ u v W, Below w0.heap.size w0 W → Keeps w.heap.size ((w2.setCell ⟨w.heap.size + 1, 0, none⟩ u).setCell ⟨w.heap.size + 1, 1, none⟩ v) W → ArIn (n + 2) 0 W Y (.agg #[.slice z1 Y.shape.length m1, .slice z2 Y.cells.length m2])) := by
    intro u v W hW hK
    have hKK := (keeps_two w2 w.heap.size u v).trans (hK.mono (show w.heap.size ≤ w.heap.size + 2 by omega))
    exact ((((hv.mono hs1 (Below.refl _ _)).keeps hKK).mono (Nat.zero_le _) (Below.refl _ _))).deeper
  have HFI := hide I2.fin
  clear I2 hv hb2 C HI1 q0 q1
  generalize Y.shape.length = YS at *
  generalize Y.cells.length = YC at *
  go_wp2
  exact bodyPost_ret (v := .tuple #[.agg #[.slice z1 YS m1, .slice z2 YC m2], .int .i64 EY]) (by simp [results, Try.results14, go_sem, HT.out.1, HT.out.2]) rfl (gives2z_of HE.out (HF.out _ _) (HFI.out _ _))
set_option maxHeartbeats 4000000 in
theorem rmo_15 {n lo : Nat} {x : Ar} {va : Value} {w0 w : World} (hx : ArIn (n + 1) lo w0 x va) (hb0 : Below w0.heap.size w0 w) (hchk : chkA 8 x = 0) : Calls Try.prog 14 #[.int .i64 15, va] w fun e w' => Gives2Z (n + 2) w0 (moR (n + 1) 15 x).1 (moR (n + 1) 15 x).2 w e w' := by
  obtain ⟨a1, c1, a2, c2, rfl, R, hc⟩ := hx.form
  have I := in2_new w (.slice a1 x.shape.length c1) (.slice a2 x.cells.length c2)
  obtain ⟨W2, e2⟩ : ∃ W2, (w.alloc (.cells #[.slice a1 x.shape.length c1, .slice a2 x.cells.length c2] 25)).alloc (.cells #[.slice none 0 0, .slice none 0 0] 25) = W2 := ⟨_, rfl⟩
  rw [e2] at I
  have q0 := I.q0
  have q1 := I.q1
  have hl := R.1
  have CK := rcheck_any (n + 1) x _ _ W2 (hx.next (hb0.trans (I.bel.mono hb0.size)))
  rw [hchk] at CK
  have HI := hide I
  have HB0 := hide hb0
  have HX := hide (And.intro hx (And.intro hchk (And.intro R hc)))
  obtain ⟨l8, c16⟩ := chk_len hchk
  have HMO := hide (moR_ok (n := n + 1) (op := 15) hchk)
  clear hx hchk R hc I
  go_enter Try.func14, Try.ntmps14
  go_wp2_with fail
  clear e2 q0 q1
  refine CK.mono ?_
  rintro e w1 ⟨rfl, hb1⟩
  have I1 := HI.out.next hb1
  have q0 := I1.q0
  have q1 := I1.q1
  have p0 := I1.p0
  have p1 := I1.p1
  have f0 := I1.f0
  have f1 := I1.f1
  have HI1 := hide I1
  have hs1 := I1.size
  have NB : Below w0.heap.size w0 w1 := HB0.out.trans (I1.bel.mono HB0.out.size)
  have C := rbox15 HX.out.1 NB HX.out.2.1
  have HE : Hid (moR (n + 1) 15 x = enclR (n + 1) x) := by unfold Hid; rw [HMO.out]; simp
  obtain ⟨⟨Y, EY⟩, hR⟩ : ∃ p, enclR (n + 1) x = p := ⟨_, rfl⟩
  rw [hR] at C HE
  simp only at C
  clear I1 hb1 CK HI HX HMO p0 p1 f0 f1 hR
  generalize x.shape.length = SA at *
  generalize x.cells.length = CA at *
  go_wp2_with fail
  refine C.mono ?_
  rintro e w2 ⟨⟨v, rfl, hv⟩, hb2⟩
  obtain ⟨z1, m1, z2, m2, rfl, -, -⟩ := (hv w2 (NB.trans (hb2.mono NB.size)) (Keeps.refl _ _)).form
  have I2 := HI1.out.next hb2
  have p0 := I2.p0
  have p1 := I2.p1
  have f0 := I2.f0
  have f1 := I2.f1
  have HT := hide (I2.put (.slice z1 Y.shape.length m1) (.slice z2 Y.cells.length m2))
  have HF : Hid (∀ u v W, Below w0.heap.size w0 W → Keeps w.heap.size ((w2.setCell ⟨w.heap.size + 1, 0, none⟩ u).setCell ⟨w.heap.size + 1, 1, none⟩ v) W → ArIn (n + 2) 0 W Y (.agg #[.slice z1 Y.shape.length m1, .slice z2 Y.cells.length m2])) := by
    intro u v W hW hK
    have hKK := (keeps_two w2 w.heap.size u v).trans (hK.mono (show w.heap.size ≤ w.heap.size + 2 by omega))
    exact hv W hW (hKK.mono hs1)
  have HFI := hide I2.fin
  clear I2 hv hb2 C HI1 q0 q1
  generalize Y.shape.length = YS at *
  generalize Y.cells.length = YC at *
  go_wp2
  exact bodyPost_ret (v := .tuple #[.agg #[.slice z1 YS m1, .slice z2 YC m2], .int .i64 EY]) (by simp [results, Try.results14, go_sem, HT.out.1, HT.out.2]) rfl (gives2z_of HE.out (HF.out _ _) (HFI.out _ _))
set_option maxHeartbeats 4000000 in
theorem rmo_16 {n lo : Nat} {x : Ar} {va : Value} {w0 w : World} (hx : ArIn (n + 1) lo w0 x va) (hb0 : Below w0.heap.size w0 w) (hchk : chkA 8 x = 0) : Calls Try.prog 14 #[.int .i64 16, va] w fun e w' => Gives2Z (n + 2) w0 (moR (n + 1) 16 x).1 (moR (n + 1) 16 x).2 w e w' := by
  obtain ⟨a1, c1, a2, c2, rfl, R, hc⟩ := hx.form
  have I := in2_new w (.slice a1 x.shape.length c1) (.slice a2 x.cells.length c2)
  obtain ⟨W2, e2⟩ : ∃ W2, (w.alloc (.cells #[.slice a1 x.shape.length c1, .slice a2 x.cells.length c2] 25)).alloc (.cells #[.slice none 0 0, .slice none 0 0] 25) = W2 := ⟨_, rfl⟩
  rw [e2] at I
  have q0 := I.q0
  have q1 := I.q1
  have hl := R.1
  have CK := rcheck_any (n + 1) x _ _ W2 (hx.next (hb0.trans (I.bel.mono hb0.size)))
  rw [hchk] at CK
  have HI := hide I
  have HB0 := hide hb0
  have HX := hide (And.intro hx (And.intro hchk (And.intro R hc)))
  obtain ⟨l8, c16⟩ := chk_len hchk
  have HMO := hide (moR_ok (n := n + 1) (op := 16) hchk)
  clear hx hchk R hc I
  go_enter Try.func14, Try.ntmps14
  go_wp2_with fail
  clear e2 q0 q1
  refine CK.mono ?_
  rintro e w1 ⟨rfl, hb1⟩
  have I1 := HI.out.next hb1
  have q0 := I1.q0
  have q1 := I1.q1
  have p0 := I1.p0
  have p1 := I1.p1
  have f0 := I1.f0
  have f1 := I1.f1
  have HI1 := hide I1
  have hs1 := I1.size
  have NB : Below w0.heap.size w0 w1 := HB0.out.trans (I1.bel.mono HB0.out.size)
  have C := rbox16 HX.out.1 NB HX.out.2.1
  have HE : Hid (moR (n + 1) 16 x = discR x) := by unfold Hid; rw [HMO.out]; simp
  obtain ⟨⟨Y, EY⟩, hR⟩ : ∃ p, discR x = p := ⟨_, rfl⟩
  rw [hR] at C HE
  simp only at C
  clear I1 hb1 CK HI HX HMO p0 p1 f0 f1 hR
  generalize x.shape.length = SA at *
  generalize x.cells.length = CA at *
  go_wp2_with fail
  refine C.mono ?_
  rintro e w2 ⟨⟨v, rfl, hv⟩, hb2⟩
  obtain ⟨z1, m1, z2, m2, rfl, -, -⟩ := (hv w2 (NB.trans (hb2.mono NB.size)) (Keeps.refl _ _)).form
  have I2 := HI1.out.next hb2
  have p0 := I2.p0
  have p1 := I2.p1
  have f0 := I2.f0
  have f1 := I2.f1
  have HT := hide (I2.put (.slice z1 Y.shape.length m1) (.slice z2 Y.cells.length m2))
  have HF : Hid (∀ u v W, Below w0.heap.size w0 W → Keeps w.heap.size ((w2.setCell ⟨w.heap.size + 1, 0, none⟩ u).setCell ⟨w.heap.size + 1, 1, none⟩ v) W → ArIn (n + 2) 0 W Y (.agg #[.slice z1 Y.shape.length m1, .slice z2 Y.cells.length m2])) := by
    intro u v W hW hK
    have hKK := (keeps_two w2 w.heap.size u v).trans (hK.mono (show w.heap.size ≤ w.heap.size + 2 by omega))
    exact (hv W hW (hKK.mono hs1)).deeper
  have HFI := hide I2.fin
  clear I2 hv hb2 C HI1 q0 q1
  generalize Y.shape.length = YS at *
  generalize Y.cells.length = YC at *
  go_wp2
  exact bodyPost_ret (v := .tuple #[.agg #[.slice z1 YS m1, .slice z2 YC m2], .int .i64 EY]) (by simp [results, Try.results14, go_sem, HT.out.1, HT.out.2]) rfl (gives2z_of HE.out (HF.out _ _) (HFI.out _ _))
set_option maxHeartbeats 4000000 in
theorem rmo_17 {n lo : Nat} {x : Ar} {va : Value} {w0 w : World} (hcap : Caps va) (hx : ArIn (n + 1) lo w0 x va) (hb0 : Below w0.heap.size w0 w) (hchk : chkA 8 x = 0) : Calls Try.prog 14 #[.int .i64 17, va] w fun e w' => Gives2Z (n + 2) w0 (moR (n + 1) 17 x).1 (moR (n + 1) 17 x).2 w e w' := by
  obtain ⟨a1, c1, a2, c2, rfl, R, hc⟩ := hx.form
  have I := in2_new w (.slice a1 x.shape.length c1) (.slice a2 x.cells.length c2)
  obtain ⟨W2, e2⟩ : ∃ W2, (w.alloc (.cells #[.slice a1 x.shape.length c1, .slice a2 x.cells.length c2] 25)).alloc (.cells #[.slice none 0 0, .slice none 0 0] 25) = W2 := ⟨_, rfl⟩
  rw [e2] at I
  have q0 := I.q0
  have q1 := I.q1
  have hl := R.1
  have CK := rcheck_any (n + 1) x _ _ W2 (hx.next (hb0.trans (I.bel.mono hb0.size)))
  rw [hchk] at CK
  have HI := hide I
  have HB0 := hide hb0
  have HX := hide (And.intro hx (And.intro hchk (And.intro R hc)))
  obtain ⟨l8, c16⟩ := chk_len hchk
  have HMO := hide (moR_ok (n := n + 1) (op := 17) hchk)
  clear hx hchk R hc I
  go_enter Try.func14, Try.ntmps14
  go_wp2_with fail
  clear e2 q0 q1
  refine CK.mono ?_
  rintro e w1 ⟨rfl, hb1⟩
  have I1 := HI.out.next hb1
  have q0 := I1.q0
  have q1 := I1.q1
  have p0 := I1.p0
  have p1 := I1.p1
  have f0 := I1.f0
  have f1 := I1.f1
  have HI1 := hide I1
  have hs1 := I1.size
  have NB : Below w0.heap.size w0 w1 := HB0.out.trans (I1.bel.mono HB0.out.size)
  have C := rbox17 HX.out.1 NB HX.out.2.1 hcap
  have HE : Hid (moR (n + 1) 17 x = firstR x) := by unfold Hid; rw [HMO.out]; simp
  obtain ⟨⟨Y, EY⟩, hR⟩ : ∃ p, firstR x = p := ⟨_, rfl⟩
  rw [hR] at C HE
  simp only at C
  clear I1 hb1 CK HI HX HMO p0 p1 f0 f1 hR
  generalize x.shape.length = SA at *
  generalize x.cells.length = CA at *
  go_wp2_with fail
  refine C.mono ?_
  rintro e w2 ⟨⟨v, rfl, hv⟩, hb2⟩
  obtain ⟨z1, m1, z2, m2, rfl, -, -⟩ := (hv w2 (NB.trans (hb2.mono NB.size)) (Keeps.refl _ _)).form
  have I2 := HI1.out.next hb2
  have p0 := I2.p0
  have p1 := I2.p1
  have f0 := I2.f0
  have f1 := I2.f1
  have HT := hide (I2.put (.slice z1 Y.shape.length m1) (.slice z2 Y.cells.length m2))
  have HF : Hid (∀ u v W, Below w0.heap.size w0 W → Keeps w.heap.size ((w2.setCell ⟨w.heap.size + 1, 0, none⟩ u).setCell ⟨w.heap.size + 1, 1, none⟩ v) W → ArIn (n + 2) 0 W Y (.agg #[.slice z1 Y.shape.length m1, .slice z2 Y.cells.length m2])) := by
    intro u v W hW hK
    have hKK := (keeps_two w2 w.heap.size u v).trans (hK.mono (show w.heap.size ≤ w.heap.size + 2 by omega))
    exact (hv W hW (hKK.mono hs1)).deeper
  have HFI := hide I2.fin
  clear I2 hv hb2 C HI1 q0 q1
  generalize Y.shape.length = YS at *
  generalize Y.cells.length = YC at *
  go_wp2
  exact bodyPost_ret (v := .tuple #[.agg #[.slice z1 YS m1, .slice z2 YC m2], .int .i64 EY]) (by simp [results, Try.results14, go_sem, HT.out.1, HT.out.2]) rfl (gives2z_of HE.out (HF.out _ _) (HFI.out _ _))
set_option maxHeartbeats 4000000 in
theorem rmo_18 {n lo : Nat} {x : Ar} {va : Value} {w0 w : World} (hx : ArIn (n + 1) lo w0 x va) (hb0 : Below w0.heap.size w0 w) (hchk : chkA 8 x = 0) : Calls Try.prog 14 #[.int .i64 18, va] w fun e w' => Gives2Z (n + 2) w0 (moR (n + 1) 18 x).1 (moR (n + 1) 18 x).2 w e w' := by
  obtain ⟨a1, c1, a2, c2, rfl, R, hc⟩ := hx.form
  have I := in2_new w (.slice a1 x.shape.length c1) (.slice a2 x.cells.length c2)
  obtain ⟨W2, e2⟩ : ∃ W2, (w.alloc (.cells #[.slice a1 x.shape.length c1, .slice a2 x.cells.length c2] 25)).alloc (.cells #[.slice none 0 0, .slice none 0 0] 25) = W2 := ⟨_, rfl⟩
  rw [e2] at I
  have q0 := I.q0
  have q1 := I.q1
  have hl := R.1
  have CK := rcheck_any (n + 1) x _ _ W2 (hx.next (hb0.trans (I.bel.mono hb0.size)))
  rw [hchk] at CK
  have HI := hide I
  have HB0 := hide hb0
  have HX := hide (And.intro hx (And.intro hchk (And.intro R hc)))
  obtain ⟨l8, c16⟩ := chk_len hchk
  have HMO := hide (moR_ok (n := n + 1) (op := 18) hchk)
  clear hx hchk R hc I
  go_enter Try.func14, Try.ntmps14
  go_wp2_with fail
  clear e2 q0 q1
  refine CK.mono ?_
  rintro e w1 ⟨rfl, hb1⟩
  have I1 := HI.out.next hb1
  have q0 := I1.q0
  have q1 := I1.q1
  have p0 := I1.p0
  have p1 := I1.p1
  have f0 := I1.f0
  have f1 := I1.f1
  have HI1 := hide I1
  have hs1 := I1.size
  have NB : Below w0.heap.size w0 w1 := HB0.out.trans (I1.bel.mono HB0.out.size)
  have C := rbox18 HX.out.1 NB HX.out.2.1
  have HE : Hid (moR (n + 1) 18 x = listR x) := by unfold Hid; rw [HMO.out]; simp
  obtain ⟨⟨Y, EY⟩, hR⟩ : ∃ p, listR x = p := ⟨_, rfl⟩
  rw [hR] at C HE
  simp only at C
  clear I1 hb1 CK HI HX HMO p0 p1 f0 f1 hR
  generalize x.shape.length = SA at *
  generalize x.cells.length = CA at *
  go_wp2_with fail
  refine C.mono ?_
  rintro e w2 ⟨⟨v, rfl, hv⟩, hb2⟩
  obtain ⟨z1, m1, z2, m2, rfl, -, -⟩ := (hv w2 (NB.trans (hb2.mono NB.size)) (Keeps.refl _ _)).form
  have I2 := HI1.out.next hb2
  have p0 := I2.p0
  have p1 := I2.p1
  have f0 := I2.f0
  have f1 := I2.f1
  have HT := hide (I2.put (.slice z1 Y.shape.length m1) (.slice z2 Y.cells.length m2))
  have HF : Hid (∀ u v W, Below w0.heap.size w0 W → Keeps w.heap.size ((w2.setCell ⟨w.heap.size + 1, 0, none⟩ u).setCell ⟨w.heap.size + 1, 1, none⟩ v) W → ArIn (n + 2) 0 W Y (.agg #[.slice z1 Y.shape.length m1, .slice z2 Y.cells.length m2])) := by
    intro u v W hW hK
    have hKK := (keeps_two w2 w.heap.size u v).trans (hK.mono (show w.heap.size ≤ w.heap.size + 2 by omega))
    exact (hv W hW (hKK.mono hs1)).deeper
  have HFI := hide I2.fin
  clear I2 hv hb2 C HI1 q0 q1
  generalize Y.shape.length = YS at *
  generalize Y.cells.length = YC at *
  go_wp2
  exact bodyPost_ret (v := .tuple #[.agg #[.slice z1 YS m1, .slice z2 YC m2], .int .i64 EY]) (by simp [results, Try.results14, go_sem, HT.out.1, HT.out.2]) rfl (gives2z_of HE.out (HF.out _ _) (HFI.out _ _))
set_option maxHeartbeats 4000000 in
theorem rmo_6 {n lo : Nat} {x : Ar} {va : Value} {w0 w : World} (hx : ArIn (n + 1) lo w0 x va) (hb0 : Below w0.heap.size w0 w) (hchk : chkA 8 x = 0) : Calls Try.prog 14 #[.int .i64 6, va] w fun e w' => Gives2Z (n + 2) w0 (moR (n + 1) 6 x).1 (moR (n + 1) 6 x).2 w e w' := by
  obtain ⟨a1, c1, a2, c2, rfl, R, hc⟩ := hx.form
  have I := in2_new w (.slice a1 x.shape.length c1) (.slice a2 x.cells.length c2)
  obtain ⟨W2, e2⟩ : ∃ W2, (w.alloc (.cells #[.slice a1 x.shape.length c1, .slice a2 x.cells.length c2] 25)).alloc (.cells #[.slice none 0 0, .slice none 0 0] 25) = W2 := ⟨_, rfl⟩
  rw [e2] at I
  have q0 := I.q0
  have q1 := I.q1
  have hl := R.1
  have CK := rcheck_any (n + 1) x _ _ W2 (hx.next (hb0.trans (I.bel.mono hb0.size)))
  rw [hchk] at CK
  have HI := hide I
  have HB0 := hide hb0
  have HX := hide (And.intro hx (And.intro hchk (And.intro R hc)))
  obtain ⟨l8, c16⟩ := chk_len hchk
  have HMO := hide (moR_ok (n := n + 1) (op := 6) hchk)
  clear hx hchk R hc I
  go_enter Try.func14, Try.ntmps14
  go_wp2_with fail
  clear e2 q0 q1
  refine CK.mono ?_
  rintro e w1 ⟨rfl, hb1⟩
  have I1 := HI.out.next hb1
  have q0 := I1.q0
  have q1 := I1.q1
  have p0 := I1.p0
  have p1 := I1.p1
  have f0 := I1.f0
  have f1 := I1.f1
  have HI1 := hide I1
  have hs1 := I1.size
  have NB : Below w0.heap.size w0 w1 := HB0.out.trans (I1.bel.mono HB0.out.size)
  have C := rnumbers_any n x.shape a1 c1 w1 (HX.out.2.2.1.next NB) l8
  have HE : Hid (moR (n + 1) 6 x = (numsA x.shape, 0)) := by unfold Hid; rw [HMO.out]; simp
  obtain ⟨Y, hR⟩ : ∃ p, numsA x.shape = p := ⟨_, rfl⟩
  rw [hR] at C HE
  clear I1 hb1 CK HI HX HMO p0 p1 f0 f1 hR
  generalize x.shape.length = SA at *
  generalize x.cells.length = CA at *
  go_wp2_with fail
  refine C.mono ?_
  rintro e w2 ⟨⟨v, rfl, hv⟩, hb2⟩
  obtain ⟨z1, m1, z2, m2, rfl, -, -⟩ := hv.form
  have I2 := HI1.out.next hb2
  have p0 := I2.p0
  have p1 := I2.p1
  have f0 := I2.f0
  have f1 := I2.f1
  have HT := hide (I2.put (.slice z1 Y.shape.length m1) (.slice z2 Y.cells.length m2))
  have HF : Hid (∀ u v W, Below w0.heap.size w0 W → Keeps w.heap.size ((w2.setCell ⟨w.heap.size + 1, 0, none⟩ u).setCell ⟨w.heap.size + 1, 1, none⟩ v) W → ArIn (n + 2) 0 W Y (.agg #[.slice z1 Y.shape.length m1, .slice z2 Y.cells.length m2])) := by
    intro u v W hW hK
    have hKK := (keeps_two w2 w.heap.size u v).trans (hK.mono (show w.heap.size ≤ w.heap.size + 2 by omega))
    exact ((((hv.mono hs1 (Below.refl _ _)).keeps hKK).mono (Nat.zero_le _) (Below.refl _ _))).deeper
  have HFI := hide I2.fin
  clear I2 hv hb2 C HI1 q0 q1
  generalize Y.shape.length = YS at *
  generalize Y.cells.length = YC at *
  go_wp2
  exact bodyPost_ret (v := .tuple #[.agg #[.slice z1 YS m1, .slice z2 YC m2], .int .i64 0]) (by simp [results, Try.results14, go_sem, HT.out.1, HT.out.2]) rfl (gives2z_of HE.out (HF.out _ _) (HFI.out _ _))
set_option maxHeartbeats 4000000 in
theorem rmo_9 {n lo : Nat} {x : Ar} {va : Value} {w0 w : World} (hx : ArIn (n + 1) lo w0 x va) (hb0 : Below w0.heap.size w0 w) (hchk : chkA 8 x = 0) : Calls Try.prog 14 #[.int .i64 9, va] w fun e w' => Gives2Z (n + 2) w0 (moR (n + 1) 9 x).1 (moR (n + 1) 9 x).2 w e w' := by
  obtain ⟨a1, c1, a2, c2, rfl, R, hc⟩ := hx.form
  have I := in2_new w (.slice a1 x.shape.length c1) (.slice a2 x.cells.length c2)
  obtain ⟨W2, e2⟩ : ∃ W2, (w.alloc (.cells #[.slice a1 x.shape.length c1, .slice a2 x.cells.length c2] 25)).alloc (.cells #[.slice none 0 0, .slice none 0 0] 25) = W2 := ⟨_, rfl⟩
  rw [e2] at I
  have q0 := I.q0
  have q1 := I.q1
  have hl := R.1
  have CK := rcheck_any (n + 1) x _ _ W2 (hx.next (hb0.trans (I.bel.mono hb0.size)))
  rw [hchk] at CK
  have HI := hide I
  have HB0 := hide hb0
  have HX := hide (And.intro hx (And.intro hchk (And.intro R hc)))
  obtain ⟨l8, c16⟩ := chk_len hchk
  have HMO := hide (moR_ok (n := n + 1) (op := 9) hchk)
  clear hx hchk R hc I
  go_enter Try.func14, Try.ntmps14
  go_wp2_with fail
  clear e2 q0 q1
  refine CK.mono ?_
  rintro e w1 ⟨rfl, hb1⟩
  have I1 := HI.out.next hb1
  have q0 := I1.q0
  have q1 := I1.q1
  have p0 := I1.p0
  have p1 := I1.p1
  have f0 := I1.f0
  have f1 := I1.f1
  have HI1 := hide I1
  have hs1 := I1.size
  have NB : Below w0.heap.size w0 w1 := HB0.out.trans (I1.bel.mono HB0.out.size)
  have HQ : ∀ d, ruleL 0 x.shape d = turnL x.shape d 0 := fun d => rfl
  have HSE := ((chkA_iff 8 x).1 HX.out.2.1).1
  have C := (by_rev HX.out.2.1 0 0 HQ) ▸ rby0_any (cs := c1) (HX.out.2.2.1.next NB) HX.out.1 NB HSE HSE c16 (turn_ok HX.out.2.1 0 0 HQ (fun h => h))
  have HE : Hid (moR (n + 1) 9 x = (revR x 0, 0)) := by unfold Hid; rw [HMO.out]; simp
  obtain ⟨Y, hR⟩ : ∃ p, revR x 0 = p := ⟨_, rfl⟩
  rw [hR] at C HE
  clear I1 hb1 CK HI HX HMO p0 p1 f0 f1 hR HQ HSE
  generalize x.shape.length = SA at *
  generalize x.cells.length = CA at *
  go_wp2_with fail
  refine C.mono ?_
  rintro e w2 ⟨⟨v, rfl, hv⟩, hb2⟩
  obtain ⟨z1, m1, z2, m2, rfl, -, -⟩ := (hv w2 (NB.trans (hb2.mono NB.size)) (Keeps.refl _ _)).form
  have I2 := HI1.out.next hb2
  have p0 := I2.p0
  have p1 := I2.p1
  have f0 := I2.f0
  have f1 := I2.f1
  have HT := hide (I2.put (.slice z1 Y.shape.length m1) (.slice z2 Y.cells.length m2))
  have HF : Hid (∀ u v W, Below w0.heap.size w0 W → Keeps w.heap.size ((w2.setCell ⟨w.heap.size + 1, 0, none⟩ u).setCell ⟨w.heap.size + 1, 1, none⟩ v) W → ArIn (n + 2) 0 W Y (.agg #[.slice z1 Y.shape.length m1, .slice z2 Y.cells.length m2])) := by
    intro u v W hW hK
    have hKK := (keeps_two w2 w.heap.size u v).trans (hK.mono (show w.heap.size ≤ w.heap.size + 2 by omega))
    exact (hv W hW (hKK.mono hs1)).deeper
  have HFI := hide I2.fin
  clear I2 hv hb2 C HI1 q0 q1
  generalize Y.shape.length = YS at *
  generalize Y.cells.length = YC at *
  go_wp2
  exact bodyPost_ret (v := .tuple #[.agg #[.slice z1 YS m1, .slice z2 YC m2], .int .i64 0]) (by simp [results, Try.results14, go_sem, HT.out.1, HT.out.2]) rfl (gives2z_of HE.out (HF.out _ _) (HFI.out _ _))
set_option maxHeartbeats 4000000 in
theorem rmo_10 {n lo : Nat} {x : Ar} {va : Value} {w0 w : World} (hx : ArIn (n + 1) lo w0 x va) (hb0 : Below w0.heap.size w0 w) (hchk : chkA 8 x = 0) : Calls Try.prog 14 #[.int .i64 10, va] w fun e w' => Gives2Z (n + 2) w0 (moR (n + 1) 10 x).1 (moR (n + 1) 10 x).2 w e w' := by
  obtain ⟨a1, c1, a2, c2, rfl, R, hc⟩ := hx.form
  have I := in2_new w (.slice a1 x.shape.length c1) (.slice a2 x.cells.length c2)
  obtain ⟨W2, e2⟩ : ∃ W2, (w.alloc (.cells #[.slice a1 x.shape.length c1, .slice a2 x.cells.length c2] 25)).alloc (.cells #[.slice none 0 0, .slice none 0 0] 25) = W2 := ⟨_, rfl⟩
  rw [e2] at I
  have q0 := I.q0
  have q1 := I.q1
  have hl := R.1
  have CK := rcheck_any (n + 1) x _ _ W2 (hx.next (hb0.trans (I.bel.mono hb0.size)))
  rw [hchk] at CK
  have HI := hide I
  have HB0 := hide hb0
  have HX := hide (And.intro hx (And.intro hchk (And.intro R hc)))
  obtain ⟨l8, c16⟩ := chk_len hchk
  have HMO := hide (moR_ok (n := n + 1) (op := 10) hchk)
  clear hx hchk R hc I
  go_enter Try.func14, Try.ntmps14
  go_wp2_with fail
  clear e2 q0 q1
  refine CK.mono ?_
  rintro e w1 ⟨rfl, hb1⟩
  have I1 := HI.out.next hb1
  have q0 := I1.q0
  have q1 := I1.q1
  have p0 := I1.p0
  have p1 := I1.p1
  have f0 := I1.f0
  have f1 := I1.f1
  have HI1 := hide I1
  have hs1 := I1.size
  have NB : Below w0.heap.size w0 w1 := HB0.out.trans (I1.bel.mono HB0.out.size)
  have HQ : ∀ d, ruleL 1 x.shape d = turnL x.shape d (x.shape.length - 1) := fun d => rfl
  have HSE := ((chkA_iff 8 x).1 HX.out.2.1).1
  have C := (by_rev HX.out.2.1 1 (x.shape.length - 1) HQ) ▸ rby1_any (cs := c1) (HX.out.2.2.1.next NB) HX.out.1 NB HSE HSE c16 (turn_ok HX.out.2.1 1 (x.shape.length - 1) HQ (fun h => by omega))
  have HE : Hid (moR (n + 1) 10 x = (revR x (x.shape.length - 1), 0)) := by unfold Hid; rw [HMO.out]; simp
  obtain ⟨Y, hR⟩ : ∃ p, revR x (x.shape.length - 1) = p := ⟨_, rfl⟩
  rw [hR] at C HE
  clear I1 hb1 CK HI HX HMO p0 p1 f0 f1 hR HQ HSE
  generalize x.shape.length = SA at *
  generalize x.cells.length = CA at *
  go_wp2_with fail
  refine C.mono ?_
  rintro e w2 ⟨⟨v, rfl, hv⟩, hb2⟩
  obtain ⟨z1, m1, z2, m2, rfl, -, -⟩ := (hv w2 (NB.trans (hb2.mono NB.size)) (Keeps.refl _ _)).form
  have I2 := HI1.out.next hb2
  have p0 := I2.p0
  have p1 := I2.p1
  have f0 := I2.f0
  have f1 := I2.f1
  have HT := hide (I2.put (.slice z1 Y.shape.length m1) (.slice z2 Y.cells.length m2))
  have HF : Hid (∀ u v W, Below w0.heap.size w0 W → Keeps w.heap.size ((w2.setCell ⟨w.heap.size + 1, 0, none⟩ u).setCell ⟨w.heap.size + 1, 1, none⟩ v) W → ArIn (n + 2) 0 W Y (.agg #[.slice z1 Y.shape.length m1, .slice z2 Y.cells.length m2])) := by
    intro u v W hW hK
    have hKK := (keeps_two w2 w.heap.size u v).trans (hK.mono (show w.heap.size ≤ w.heap.size + 2 by omega))
    exact (hv W hW (hKK.mono hs1)).deeper
  have HFI := hide I2.fin
  clear I2 hv hb2 C HI1 q0 q1
  generalize Y.shape.length = YS at *
  generalize Y.cells.length = YC at *
  go_wp2
  exact bodyPost_ret (v := .tuple #[.agg #[.slice z1 YS m1, .slice z2 YC m2], .int .i64 0]) (by simp [results, Try.results14, go_sem, HT.out.1, HT.out.2]) rfl (gives2z_of HE.out (HF.out _ _) (HFI.out _ _))
set_option maxHeartbeats 4000000 in
theorem rmo_7 {n lo : Nat} {x : Ar} {va : Value} {w0 w : World} (hx : ArIn (n + 1) lo w0 x va) (hb0 : Below w0.heap.size w0 w) (hchk : chkA 8 x = 0) : Calls Try.prog 14 #[.int .i64 7, va] w fun e w' => Gives2Z (n + 2) w0 (moR (n + 1) 7 x).1 (moR (n + 1) 7 x).2 w e w' := by
  obtain ⟨a1, c1, a2, c2, rfl, R, hc⟩ := hx.form
  have I := in2_new w (.slice a1 x.shape.length c1) (.slice a2 x.cells.length c2)
  obtain ⟨W2, e2⟩ : ∃ W2, (w.alloc (.cells #[.slice a1 x.shape.length c1, .slice a2 x.cells.length c2] 25)).alloc (.cells #[.slice none 0 0, .slice none 0 0] 25) = W2 := ⟨_, rfl⟩
  rw [e2] at I
  have q0 := I.q0
  have q1 := I.q1
  have hl := R.1
  have CK := rcheck_any (n + 1) x _ _ W2 (hx.next (hb0.trans (I.bel.mono hb0.size)))
  rw [hchk] at CK
  have HI := hide I
  have HB0 := hide hb0
  have HX := hide (And.intro hx (And.intro hchk (And.intro R hc)))
  obtain ⟨l8, c16⟩ := chk_len hchk
  have HMO := hide (moR_ok (n := n + 1) (op := 7) hchk)
  clear hx hchk R hc I
  go_enter Try.func14, Try.ntmps14
  go_wp2_with fail
  clear e2 q0 q1
  refine CK.mono ?_
  rintro e w1 ⟨rfl, hb1⟩
  have I1 := HI.out.next hb1
  have q0 := I1.q0
  have q1 := I1.q1
  have p0 := I1.p0
  have p1 := I1.p1
  have f0 := I1.f0
  have f1 := I1.f1
  have HI1 := hide I1
  have hs1 := I1.size
  have NB : Below w0.heap.size w0 w1 := HB0.out.trans (I1.bel.mono HB0.out.size)
  have CT := rtally_any (HX.out.1.next NB)
  have HE : Hid (moR (n + 1) 7 x = (atomA (tallyN x), 0)) := by unfold Hid; rw [HMO.out]; simp
  clear I1 hb1 CK HI HX HMO p0 p1 f0 f1 hs1
  generalize tallyN x = TT at *
  generalize x.shape.length = SA at *
  generalize x.cells.length = CA at *
  go_wp2_with fail
  refine CT.mono ?_
  rintro e w1' ⟨rfl, hb1'⟩
  have I1' := HI1.out.next hb1'
  have hs1 := I1'.size
  have HI1 := hide I1'
  have C := ratom_any n TT w1'
  obtain ⟨Y, hR⟩ : ∃ p, atomA TT = p := ⟨_, rfl⟩
  rw [hR] at C HE
  clear CT I1' hb1' hR
  go_wp2_with fail
  refine C.mono ?_
  rintro e w2 ⟨⟨v, rfl, hv⟩, hb2⟩
  obtain ⟨z1, m1, z2, m2, rfl, -, -⟩ := hv.form
  have I2 := HI1.out.next hb2
  have p0 := I2.p0
  have p1 := I2.p1
  have f0 := I2.f0
  have f1 := I2.f1
  have HT := hide (I2.put (.slice z1 Y.shape.length m1) (.slice z2 Y.cells.length m2))
  have HF : Hid (∀ u v W, Below w0.heap.size w0 W → Keeps w.heap.size ((w2.setCell ⟨w.heap.size + 1, 0, none⟩ u).setCell ⟨w.heap.size + 1, 1, none⟩ v) W → ArIn (n + 2) 0 W Y (.agg #[.slice z1 Y.shape.length m1, .slice z2 Y.cells.length m2])) := by
    intro u v W hW hK
    have hKK := (keeps_two w2 w.heap.size u v).trans (hK.mono (show w.heap.size ≤ w.heap.size + 2 by omega))
    exact ((((hv.mono hs1 (Below.refl _ _)).keeps hKK).mono (Nat.zero_le _) (Below.refl _ _))).deeper
  have HFI := hide I2.fin
  clear I2 hv hb2 C HI1 q0 q1
  generalize Y.shape.length = YS at *
  generalize Y.cells.length = YC at *
  go_wp2
  exact bodyPost_ret (v := .tuple #[.agg #[.slice z1 YS m1, .slice z2 YC m2], .int .i64 0]) (by simp [results, Try.results14, go_sem, HT.out.1, HT.out.2]) rfl (gives2z_of HE.out (HF.out _ _) (HFI.out _ _))
set_option maxHeartbeats 4000000 in
theorem rmo_8 {n lo : Nat} {x : Ar} {va : Value} {w0 w : World} (hx : ArIn (n + 1) lo w0 x va) (hb0 : Below w0.heap.size w0 w) (hchk : chkA 8 x = 0) : Calls Try.prog 14 #[.int .i64 8, va] w fun e w' => Gives2Z (n + 2) w0 (moR (n + 1) 8 x).1 (moR (n + 1) 8 x).2 w e w' := by
  obtain ⟨a1, c1, a2, c2, rfl, R, hc⟩ := hx.form
  have I := in2_new w (.slice a1 x.shape.length c1) (.slice a2 x.cells.length c2)
  obtain ⟨W2, e2⟩ : ∃ W2, (w.alloc (.cells #[.slice a1 x.shape.length c1, .slice a2 x.cells.length c2] 25)).alloc (.cells #[.slice none 0 0, .slice none 0 0] 25) = W2 := ⟨_, rfl⟩
  rw [e2] at I
  have q0 := I.q0
  have q1 := I.q1
  have hl := R.1
  have CK := rcheck_any (n + 1) x _ _ W2 (hx.next (hb0.trans (I.bel.mono hb0.size)))
  rw [hchk] at CK
  have HI := hide I
  have HB0 := hide hb0
  have HX := hide (And.intro hx (And.intro hchk (And.intro R hc)))
  obtain ⟨l8, c16⟩ := chk_len hchk
  have HMO := hide (moR_ok (n := n + 1) (op := 8) hchk)
  clear hx hchk R hc I
  go_enter Try.func14, Try.ntmps14
  go_wp2_with fail
  clear e2 q0 q1
  refine CK.mono ?_
  rintro e w1 ⟨rfl, hb1⟩
  have I1 := HI.out.next hb1
  have q0 := I1.q0
  have q1 := I1.q1
  have p0 := I1.p0
  have p1 := I1.p1
  have f0 := I1.f0
  have f1 := I1.f1
  have HI1 := hide I1
  have hs1 := I1.size
  have NB : Below w0.heap.size w0 w1 := HB0.out.trans (I1.bel.mono HB0.out.size)
  have HE : Hid (moR (n + 1) 8 x = (ravelR x, 0)) := by unfold Hid; rw [HMO.out]; simp
  obtain ⟨W3, e3⟩ : ∃ W3, w1.alloc (.cells #[.int .i64 (x.cells.length : Int)] 3) = W3 := ⟨_, rfl⟩
  have B3 : Below w1.heap.size w1 W3 := by rw [← e3]; exact one_alloc _ _
  have z3 : W3.heap.size = w1.heap.size + 1 := by rw [← e3]; simp
  have o0 : W3.cell? ⟨w1.heap.size, 0, none⟩ = some (.int .i64 (x.cells.length : Int)) := by rw [← e3]; exact cell_new0 w1 _ 3 0 _ rfl
  have I3 := I1.next B3
  have HF : Hid (∀ u v W, Below w0.heap.size w0 W → Keeps w.heap.size ((W3.setCell ⟨w.heap.size + 1, 0, none⟩ u).setCell ⟨w.heap.size + 1, 1, none⟩ v) W → ArIn (n + 2) 0 W (ravelR x) (.agg #[.slice (some ⟨w1.heap.size, 0, none⟩) 1 1, .slice a2 x.cells.length c2])) := by
    intro u v W hW hK
    have K := (keeps_two W3 w.heap.size u v).trans (hK.mono (show w.heap.size ≤ w.heap.size + 2 by omega))
    have o1 := (K.cell (p := ⟨w1.heap.size, 0, none⟩) (by show _ ≤ w1.heap.size; omega) (by show w1.heap.size < _; omega)).trans o0
    have hk := K.1
    have h1 : ArIn (n + 1) 0 W (ravelR x) (.agg #[.slice (some ⟨w1.heap.size, 0, none⟩) 1 1, .slice a2 x.cells.length c2]) :=
      arIn_mk (x := ravelR x) (row_one (by omega) (Nat.zero_le _) o1) (by show x.cells.length ≤ _; omega) (HX.out.2.2.2.mono (Nat.zero_le _) hW) rfl rfl
    exact h1.deeper
  clear p0 p1 f0 f1
  have t1 := I3.q1
  have p0 := I3.p0
  have p1 := I3.p1
  have f0 := I3.f0
  have f1 := I3.f1
  have HT := hide (I3.put (.slice (some ⟨w1.heap.size, 0, none⟩) 1 1) (.slice a2 x.cells.length c2))
  have HFI := hide I3.fin
  clear I1 hb1 CK HI HX HMO I3 B3 z3 o0 hs1
  generalize x.shape.length = SA at *
  generalize x.cells.length = CA at *
  go_wp2
  exact bodyPost_ret (v := .tuple #[.agg #[.slice (some ⟨w1.heap.size, 0, none⟩) 1 1, .slice a2 CA c2], .int .i64 0]) (by simp [results, Try.results14, go_sem, HT.out.1, HT.out.2]) rfl (gives2z_of HE.out (HF.out _ _) (HFI.out _ _))
set_option maxHeartbeats 4000000 in
theorem rmo_11 {n lo : Nat} {x : Ar} {va : Value} {w0 w : World} (hx : ArIn (n + 1) lo w0 x va) (hb0 : Below w0.heap.size w0 w) (hchk : chkA 8 x = 0) : Calls Try.prog 14 #[.int .i64 11, va] w fun e w' => Gives2Z (n + 2) w0 (moR (n + 1) 11 x).1 (moR (n + 1) 11 x).2 w e w' := by
  obtain ⟨a1, c1, a2, c2, rfl, R, hc⟩ := hx.form
  have I := in2_new w (.slice a1 x.shape.length c1) (.slice a2 x.cells.length c2)
  obtain ⟨W2, e2⟩ : ∃ W2, (w.alloc (.cells #[.slice a1 x.shape.length c1, .slice a2 x.cells.length c2] 25)).alloc (.cells #[.slice none 0 0, .slice none 0 0] 25) = W2 := ⟨_, rfl⟩
  rw [e2] at I
  have q0 := I.q0
  have q1 := I.q1
  have hl := R.1
  have CK := rcheck_any (n + 1) x _ _ W2 (hx.next (hb0.trans (I.bel.mono hb0.size)))
  rw [hchk] at CK
  have HI := hide I
  have HB0 := hide hb0
  have HX := hide (And.intro hx (And.intro hchk (And.intro R hc)))
  obtain ⟨l8, c16⟩ := chk_len hchk
  have HMO := hide (moR_ok (n := n + 1) (op := 11) hchk)
  clear hx hchk R hc I
  go_enter Try.func14, Try.ntmps14
  go_wp2_with fail
  clear e2 q0 q1
  refine CK.mono ?_
  rintro e w1 ⟨rfl, hb1⟩
  have I1 := HI.out.next hb1
  have q0 := I1.q0
  have q1 := I1.q1
  have p0 := I1.p0
  have p1 := I1.p1
  have f0 := I1.f0
  have f1 := I1.f1
  have HI1 := hide I1
  have hs1 := I1.size
  have NB : Below w0.heap.size w0 w1 := HB0.out.trans (I1.bel.mono HB0.out.size)
  have HE : Hid (moR (n + 1) 11 x = (flipR x, 0)) := by unfold Hid; rw [HMO.out]; simp
  have HSE := ((chkA_iff 8 x).1 HX.out.2.1).1
  obtain ⟨hf1, hf2, hf3⟩ := flip_ok HX.out.2.1
  have HC1 := hide (rback_any x.shape a1 c1 w1.drew (HX.out.2.2.1.next NB.drew) l8)
  have HC2 : Hid (∀ W a' c', In2 w (.slice a1 x.shape.length c1) (.slice a2 x.cells.length c2) W → Row 0 W a' x.shape.reverse → Calls Try.prog 41 #[.slice a' x.shape.length c', .agg #[.slice a1 x.shape.length c1, .slice a2 x.cells.length c2], .int .i64 2] W fun e w' => GivesZ (n + 1) w0 (flipR x) W e w') := by
    intro W a' c' hW hR
    have := rby2_any (cs := c') hR HX.out.1 (HB0.out.trans (hW.bel.mono HB0.out.size)) hf2 HSE c16 hf1
    rw [List.length_reverse, hf3] at this
    exact this
  obtain ⟨Y, hR⟩ : ∃ p, flipR x = p := ⟨_, rfl⟩
  rw [hR] at HC2 HE
  have HI1d := hide I1.drew
  clear I1 hb1 CK HI HX HMO hR HSE hf1 hf2 hf3
  generalize x.shape.length = SA at *
  generalize x.cells.length = CA at *
  go_wp2
  go_region_with (first
    | (go_at_call 42; refine HC1.out.mono ?_; rintro e w3 ⟨⟨a', c', rfl, RR⟩, hb3⟩; have I3 := HI1d.out.next hb3; have t0 := I3.q0; have t1 := I3.q1; have hs3 := I3.size)
    | (go_at_call 41; refine (HC2.out _ _ _ I3 (RR.low (Nat.zero_le _))).mono ?_; rintro e w2 ⟨⟨v, rfl, hv⟩, hb2⟩; obtain ⟨z1, m1, z2, m2, rfl, -, -⟩ := (hv w2 (HB0.out.trans ((I3.bel.trans (hb2.mono I3.bel.size)).mono HB0.out.size)) (Keeps.refl _ _)).form; have I2 := I3.next hb2; have d0 := I2.p0; have d1 := I2.p1; have df0 := I2.f0; have df1 := I2.f1))
  all_goals
    have HT := hide (I2.put (.slice z1 Y.shape.length m1) (.slice z2 Y.cells.length m2))
    have HF : Hid (∀ u v W, Below w0.heap.size w0 W → Keeps w.heap.size ((w2.setCell ⟨w.heap.size + 1, 0, none⟩ u).setCell ⟨w.heap.size + 1, 1, none⟩ v) W → ArIn (n + 2) 0 W Y (.agg #[.slice z1 Y.shape.length m1, .slice z2 Y.cells.length m2])) := by
      intro u v W hW hK
      exact (hv W hW (((keeps_two w2 w.heap.size u v).trans (hK.mono (show w.heap.size ≤ w.heap.size + 2 by omega))).mono hs3)).deeper
    have HFI := hide I2.fin
    clear I2 hv hb2 HC1 HC2 HI1 q0 q1 I3 hb3 RR t0 t1
    generalize Y.shape.length = YS at *
    generalize Y.cells.length = YC at *
    go_wp2
    exact bodyPost_ret (v := .tuple #[.agg #[.slice z1 YS m1, .slice z2 YC m2], .int .i64 0]) (by simp [results, Try.results14, go_sem, HT.out.1, HT.out.2]) rfl (gives2z_of HE.out (HF.out _ _) (HFI.out _ _))
set_option maxHeartbeats 4000000 in
theorem rmo_bad {n lo : Nat} {op : Int} {x : Ar} {va : Value} {w0 w : World} (hx : ArIn (n + 1) lo w0 x va) (hb0 : Below w0.heap.size w0 w) (hchk : ¬ chkA 8 x = 0) : Calls Try.prog 14 #[.int .i64 op, va] w fun e w' => Gives2Z (n + 2) w0 (moR (n + 1) op x).1 (moR (n + 1) op x).2 w e w' := by
  obtain ⟨a1, c1, a2, c2, rfl, R, hc⟩ := hx.form
  have I := in2_new w (.slice a1 x.shape.length c1) (.slice a2 x.cells.length c2)
  obtain ⟨W2, e2⟩ : ∃ W2, (w.alloc (.cells #[.slice a1 x.shape.length c1, .slice a2 x.cells.length c2] 25)).alloc (.cells #[.slice none 0 0, .slice none 0 0] 25) = W2 := ⟨_, rfl⟩
  rw [e2] at I
  have q0 := I.q0
  have q1 := I.q1
  have hl := R.1
  have CK := rcheck_any (n + 1) x _ _ W2 (hx.next (hb0.trans (I.bel.mono hb0.size)))
  have HI := hide I
  have HB0 := hide hb0
  have HX := hide (And.intro hx (And.intro hchk (And.intro R hc)))
  have HE : Hid (moR (n + 1) op x = (zeroA, chkA 8 x)) := by unfold moR Hid; rw [if_pos hchk]
  have hne : (chkA 8 x == 0) = false := beq_eq_false_iff_ne.2 hchk
  generalize chkA 8 x = EC at *
  clear hx R hc I
  go_enter Try.func14, Try.ntmps14
  go_wp2_with fail
  clear e2 q0 q1
  refine CK.mono ?_
  rintro e w1 ⟨rfl, hb1⟩
  have I1 := HI.out.next hb1
  have q0 := I1.q0
  have q1 := I1.q1
  have p0 := I1.p0
  have p1 := I1.p1
  have f0 := I1.f0
  have f1 := I1.f1
  have HI1 := hide I1
  have hs1 := I1.size
  have NB : Below w0.heap.size w0 w1 := HB0.out.trans (I1.bel.mono HB0.out.size)
  have HT := hide (I1.put (.slice none 0 0) (.slice none 0 0))
  clear I1 hb1 CK HI HX hchk
  generalize x.shape.length = SA at *
  generalize x.cells.length = CA at *
  go_wp2
  exact bodyPost_ret (v := .tuple #[.agg #[.slice none 0 0, .slice none 0 0], .int .i64 EC]) (by simp [results, Try.results14, go_sem, HT.out.1, HT.out.2]) rfl (gives2z_of HE.out (fun _ _ _ => zeroA_in _ _ _) (HI1.out.fin _ _))
set_option maxHeartbeats 4000000 in
theorem rmo_none {n lo : Nat} {op : Int} {x : Ar} {va : Value} {w0 w : World} (h5 : ¬ op = 5) (h6 : ¬ op = 6) (h7 : ¬ op = 7) (h8 : ¬ op = 8) (h9 : ¬ op = 9) (h10 : ¬ op = 10) (h11 : ¬ op = 11) (h15 : ¬ op = 15) (h16 : ¬ op = 16) (h17 : ¬ op = 17) (h18 : ¬ op = 18) (hx : ArIn (n + 1) lo w0 x va) (hb0 : Below w0.heap.size w0 w) (hchk : chkA 8 x = 0) : Calls Try.prog 14 #[.int .i64 op, va] w fun e w' => Gives2Z (n + 2) w0 (moR (n + 1) op x).1 (moR (n + 1) op x).2 w e w' := by
  obtain ⟨a1, c1, a2, c2, rfl, R, hc⟩ := hx.form
  have I := in2_new w (.slice a1 x.shape.length c1) (.slice a2 x.cells.length c2)
  obtain ⟨W2, e2⟩ : ∃ W2, (w.alloc (.cells #[.slice a1 x.shape.length c1, .slice a2 x.cells.length c2] 25)).alloc (.cells #[.slice none 0 0, .slice none 0 0] 25) = W2 := ⟨_, rfl⟩
  rw [e2] at I
  have q0 := I.q0
  have q1 := I.q1
  have hl := R.1
  have CK := rcheck_any (n + 1) x _ _ W2 (hx.next (hb0.trans (I.bel.mono hb0.size)))
  rw [hchk] at CK
  have HI := hide I
  have HB0 := hide hb0
  have HX := hide (And.intro hx (And.intro hchk (And.intro R hc)))
  obtain ⟨l8, c16⟩ := chk_len hchk
  have HMO := hide (moR_ok (n := n + 1) (op := op) hchk)
  have b5 : (op == 5) = false := beq_eq_false_iff_ne.2 h5
  have b6 : (op == 6) = false := beq_eq_false_iff_ne.2 h6
  have b7 : (op == 7) = false := beq_eq_false_iff_ne.2 h7
  have b8 : (op == 8) = false := beq_eq_false_iff_ne.2 h8
  have b9 : (op == 9) = false := beq_eq_false_iff_ne.2 h9
  have b10 : (op == 10) = false := beq_eq_false_iff_ne.2 h10
  have b11 : (op == 11) = false := beq_eq_false_iff_ne.2 h11
  have b15 : (op == 15) = false := beq_eq_false_iff_ne.2 h15
  have b16 : (op == 16) = false := beq_eq_false_iff_ne.2 h16
  have b17 : (op == 17) = false := beq_eq_false_iff_ne.2 h17
  have b18 : (op == 18) = false := beq_eq_false_iff_ne.2 h18
  clear hx hchk R hc I
  go_enter Try.func14, Try.ntmps14
  go_wp2_with fail
  clear e2 q0 q1
  refine CK.mono ?_
  rintro e w1 ⟨rfl, hb1⟩
  have I1 := HI.out.next hb1
  have q0 := I1.q0
  have q1 := I1.q1
  have p0 := I1.p0
  have p1 := I1.p1
  have f0 := I1.f0
  have f1 := I1.f1
  have HI1 := hide I1
  have hs1 := I1.size
  have NB : Below w0.heap.size w0 w1 := HB0.out.trans (I1.bel.mono HB0.out.size)
  have HE : Hid (moR (n + 1) op x = (zeroA, 1)) := by unfold Hid; rw [HMO.out, if_neg h5, if_neg h6, if_neg h7, if_neg h8, if_neg h9, if_neg h10, if_neg h11, if_neg h15, if_neg h16, if_neg h17, if_neg h18]
  have HT := hide (I1.put (.slice none 0 0) (.slice none 0 0))
  clear I1 hb1 CK HI HX HMO
  generalize x.shape.length = SA at *
  generalize x.cells.length = CA at *
  go_wp2
  exact bodyPost_ret (v := .tuple #[.agg #[.slice none 0 0, .slice none 0 0], .int .i64 1]) (by simp [results, Try.results14, go_sem, HT.out.1, HT.out.2]) rfl (gives2z_of HE.out (fun _ _ _ => zeroA_in _ _ _) (HI1.out.fin _ _))
theorem rmoZ_any {n lo : Nat} {op : Int} {x : Ar} {va : Value} {w0 w : World} (hx : ArIn (n + 1) lo w0 x va) (hb0 : Below w0.heap.size w0 w) (hcap : op = 17 → Caps va) : Calls Try.prog 14 #[.int .i64 op, va] w fun e w' => Gives2Z (n + 2) w0 (moR (n + 1) op x).1 (moR (n + 1) op x).2 w e w' := by
  by_cases hchk : chkA 8 x = 0
  case neg => exact rmo_bad hx hb0 hchk
  by_cases h5 : op = 5
  · subst h5; exact rmo_5 hx hb0 hchk
  by_cases h6 : op = 6
  · subst h6; exact rmo_6 hx hb0 hchk
  by_cases h7 : op = 7
  · subst h7; exact rmo_7 hx hb0 hchk
  by_cases h8 : op = 8
  · subst h8; exact rmo_8 hx hb0 hchk
  by_cases h9 : op = 9
  · subst h9; exact rmo_9 hx hb0 hchk
  by_cases h10 : op = 10
  · subst h10; exact rmo_10 hx hb0 hchk
  by_cases h11 : op = 11
  · subst h11; exact rmo_11 hx hb0 hchk
  by_cases h15 : op = 15
  · subst h15; exact rmo_15 hx hb0 hchk
  by_cases h16 : op = 16
  · subst h16; exact rmo_16 hx hb0 hchk
  by_cases h17 : op = 17
  · subst h17; exact rmo_17 (hcap rfl) hx hb0 hchk
  by_cases h18 : op = 18
  · subst h18; exact rmo_18 hx hb0 hchk
  exact rmo_none h5 h6 h7 h8 h9 h10 h11 h15 h16 h17 h18 hx hb0 hchk
theorem rmo_any {n lo : Nat} {op : Int} {x : Ar} {va : Value} {w : World} (hx : ArIn (n + 1) lo w x va) (hcap : op = 17 → Caps va) : Calls Try.prog 14 #[.int .i64 op, va] w fun e w' => Gives2 (n + 2) 0 (moR (n + 1) op x).1 (moR (n + 1) op x).2 w e w' :=
  (rmoZ_any (op := op) hx (Below.refl _ _) hcap).mono fun e w' ⟨⟨v, h1, h2⟩, h3⟩ => ⟨⟨v, h1, h2 w' h3 (Keeps.refl _ _)⟩, h3⟩
end Go.Proofs.Ytmjncdhahdpplaa
