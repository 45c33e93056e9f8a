/-
  The contracts of layer 5's disclosed and first.
-/
import Derived.Test.YtmjncdhahdpplaaLyI
namespace Go.Proofs.Ytmjncdhahdpplaa
open Go.ChangeShapes Go.WideShapes Go.ChangeAt Go.RowKit
set_option linter.unusedVariables false
set_option maxRecDepth 100000
/-- The array in the box of an array that may be. -/
theorem box_of {n lo : Nat} {w : World} {c : Ce} {v0 v1 v2 : Value} (f : Ar → Int) (hc : CeIn (ArIn n lo w) lo w c v0 v1 v2) (hchk : chkC f c = 0) (h2 : c.1 = 2) : ∃ b off cap u0 u1, c.2.2.length = 1 ∧ v2 = .slice (some ⟨b, off, none⟩) 1 cap ∧ b < w.heap.size ∧ w.cell? ⟨b, off, none⟩ = some u0 ∧ w.cell? ⟨b, off + 1, none⟩ = some u1 ∧ ArIn n lo w (bAt c.2.2 0) (.agg #[u0, u1]) ∧ f (bAt c.2.2 0) = 0 := by
  obtain ⟨-, -, a, cap, rfl, -, hx⟩ := hc
  rcases (chkC_iff f c).1 hchk with ⟨-, -, h1, hf⟩ | ⟨-, h | ⟨h, -⟩⟩
  · rcases hx with hx | ⟨b, off, rfl, -, hb, hx⟩
    · rw [hx] at h1; simp at h1
    · obtain ⟨u0, u1, e0, e1, e2⟩ := hx 0 (by omega)
      exact ⟨b, off, cap, u0, u1, h1, by rw [h1], hb, by simpa using e0, by simpa using e1, e2, hf⟩
  · omega
  · omega
set_option maxHeartbeats 2000000 in
theorem disclosed_any {n lo : Nat} {x : Ar} {va : Value} {w : World} (hx : ArIn (n + 1) lo w x va) (hchk : chkA 8 x = 0) : Calls Try.prog 35 #[va] w fun e w' => Gives2 (n + 1) w.heap.size (discR x).1 (discR x).2 w e w' := by
  obtain ⟨a1, c1, a2, c2, rfl, R, hc⟩ := hx.form
  have I := in2_new w (.slice a1 x.shape.length c1) (.slice a2 x.cells.length c2)
  obtain ⟨W2, e2⟩ : ∃ W2, (w.alloc (.cells #[.slice a1 x.shape.length c1, .slice a2 x.cells.length c2] 25)).alloc (.cells #[.slice none 0 0, .slice none 0 0] 25) = W2 := ⟨_, rfl⟩
  have hz2 : W2.heap.size = w.heap.size + 2 := by rw [← e2]; simp
  rw [e2] at I
  have q0 := I.q0
  have q1 := I.q1
  have hl := R.1
  have HI := hide I
  by_cases h0 : 0 < x.shape.length
  · have HE5 : Hid (discR x = (zeroA, 6)) := by unfold discR Hid; rw [if_pos h0]
    clear R hc hx hchk
    generalize x.shape.length = SA at *
    generalize x.cells.length = CA at *
    have p0 := I.p0
    have p1 := I.p1
    have f0 := I.f0
    have f1 := I.f1
    have HT := hide (I.put (.slice none 0 0) (.slice none 0 0))
    have h1 : (0 : Int) < (SA : Int) := by omega
    clear I
    go_enter Try.func35, Try.ntmps35
    go_wp2
    exact bodyPost_ret (v := .tuple #[.agg #[.slice none 0 0, .slice none 0 0], .int .i64 6]) (by simp [results, Try.results35, go_sem, HT.out.1, HT.out.2]) rfl (gives2_of HE5.out (zeroA_in _ _ _) (HI.out.fin _ _))
  · obtain ⟨-, hone⟩ := atom_one hchk (by omega)
    obtain ⟨ab, cb, hcf⟩ := cells_fn hc
    obtain ⟨b, off, rfl, -, hb, hcells⟩ := hcf (by omega)
    obtain ⟨g0, g1, g2, g3⟩ := hcells 0 (by omega)
    simp only [Nat.zero_mul, Nat.add_zero] at g0 g1 g2
    have HE : Hid (discR x = if (cAt x.cells 0).1 = 2 then (bAt (cAt x.cells 0).2.2 0, 0) else (x, 0)) := by unfold discR Hid; rw [if_neg h0]
    have hs0 : x.shape.length = 0 := by omega
    have hck := ((chkA_iff 8 x).1 hchk).2.2.2 0 (by omega)
    simp only [hs0, hone] at q0 q1 HI I hx e2 ⊢
    have r0 := (I.bel.cell (p := ⟨b, off, none⟩) hb).trans g0
    have r1 := (I.bel.cell (p := ⟨b, off + 1, none⟩) hb).trans g1
    have r2 := (I.bel.cell (p := ⟨b, off + 2, none⟩) hb).trans g2
    have HX := hide (And.intro hx hchk)
    have HBX : Hid ((cAt x.cells 0).1 = 2 → ∃ b off cap u0 u1, (cAt x.cells 0).2.2.length = 1 ∧ Value.slice (ab 0) (cAt x.cells 0).2.2.length (cb 0) = .slice (some ⟨b, off, none⟩) 1 cap ∧ b < w.heap.size ∧ w.cell? ⟨b, off, none⟩ = some u0 ∧ w.cell? ⟨b, off + 1, none⟩ = some u1 ∧ ArIn n lo w (bAt (cAt x.cells 0).2.2 0) (.agg #[u0, u1]) ∧ chkA 7 (bAt (cAt x.cells 0).2.2 0) = 0) := fun h2 => box_of (inF 8) g3 hck h2
    clear hcells hcf hc R hx hchk g0 g1 g2 g3 hck
    obtain ⟨nb, hnb⟩ : ∃ nb, (cAt x.cells 0).2.2.length = nb := ⟨_, rfl⟩
    rw [hnb] at HBX r2
    generalize ab 0 = ab0 at *
    generalize cb 0 = cb0 at *
    obtain ⟨c, hcc⟩ : ∃ c, cAt x.cells 0 = c := ⟨_, rfl⟩
    rw [hcc] at HBX HE r0 r1
    clear hcc hnb
    have i0 := cell_new0 W2 #[.int .i64 c.1, .int .i64 c.2.1, .slice ab0 nb cb0] 36 0 _ rfl
    have i1 := cell_new0 W2 #[.int .i64 c.1, .int .i64 c.2.1, .slice ab0 nb cb0] 36 1 _ rfl
    have i2 := cell_new0 W2 #[.int .i64 c.1, .int .i64 c.2.1, .slice ab0 nb cb0] 36 2 _ rfl
    obtain ⟨W3, e3⟩ : ∃ W3, W2.alloc (.cells #[.int .i64 c.1, .int .i64 c.2.1, .slice ab0 nb cb0] 36) = W3 := ⟨_, rfl⟩
    rw [e3, hz2] at i0 i1 i2
    have I3 : In2 w (.slice a1 0 c1) (.slice (some ⟨b, off, none⟩) 1 c2) W3 := by rw [← e3]; exact I.alloc _
    have j0 := I3.q0
    have j1 := I3.q1
    have z3 : W3.heap.size = w.heap.size + 3 := by rw [← e3]; simp [hz2]
    have HI3 := hide (And.intro I3 z3)
    by_cases h2 : c.1 = 2
    · obtain ⟨bb, ob, cap, u0, u1, hnb, hsl, hbb, t0, t1, hin, hch⟩ := HBX.out h2
      simp only [Value.slice.injEq] at hsl
      obtain ⟨rfl, rfl, rfl⟩ := hsl
      have k0 := (I3.bel.cell (p := ⟨bb, ob, none⟩) hbb).trans t0
      have k1 := (I3.bel.cell (p := ⟨bb, ob + 1, none⟩) hbb).trans t1
      cases n with
      | zero => exact hin.elim
      | succ n =>
      have hA3 := hin.next I3.bel
      obtain ⟨v1, n1, v2, n2, hv, -, -⟩ := hin.form
      simp only [Value.agg.injEq, Array.mk.injEq, List.cons.injEq, and_true] at hv
      obtain ⟨rfl, rfl⟩ := hv
      have CC := copyA hch hA3
      have HE5 : Hid (discR x = (bAt c.2.2 0, 0)) := by unfold Hid; rw [HE.out, if_pos h2]
      generalize bAt c.2.2 0 = y at *
      rw [h2] at i0 r0 e3
      clear I I3 HBX HX HE h2 hin hA3 hch t0 t1 z3 hnb
      go_enter Try.func35, Try.ntmps35
      go_wp2_with fail
      clear e2 e3 r0 r1 r2 q0 q1 hz2 i0 i1 i2 k0 k1 j0 j1
      refine CC.mono ?_
      rintro e w1 ⟨⟨v, rfl, hv⟩, hb1⟩
      obtain ⟨z1, m1, z2, m2, rfl, -, -⟩ := hv.form
      have I4 := HI3.out.1.next hb1
      have zz := HI3.out.2
      have p0 := I4.p0
      have p1 := I4.p1
      have f0 := I4.f0
      have f1 := I4.f1
      have HT := hide (I4.put (.slice z1 y.shape.length m1) (.slice z2 y.cells.length m2))
      have HF := hide (I4.give hv.deeper (by omega))
      have HFI := hide I4.fin
      clear I4 hv hb1 CC HI3 HI
      generalize y.shape.length = SB at *
      generalize y.cells.length = CB at *
      go_wp2
      exact bodyPost_ret (v := .tuple #[.agg #[.slice z1 SB m1, .slice z2 CB m2], .int .i64 0]) (by simp [results, Try.results35, go_sem, HT.out.1, HT.out.2]) rfl (gives2_of HE5.out (HF.out _ _) (HFI.out _ _))
    · have CC := copyA HX.out.2 (HX.out.1.next I3.bel)
      have HE5 : Hid (discR x = (x, 0)) := by unfold Hid; rw [HE.out, if_neg h2]
      have hk : (c.1 == 2) = false := beq_eq_false_iff_ne.2 h2
      clear I I3 HBX HX HE h2 z3
      go_enter Try.func35, Try.ntmps35
      go_wp2_with fail
      clear e2 e3 r0 r1 r2 q0 q1 hz2 i0 i1 i2 j0 j1
      refine CC.mono ?_
      rintro e w1 ⟨⟨v, rfl, hv⟩, hb1⟩
      obtain ⟨z1, m1, z2, m2, rfl, -, -⟩ := hv.form
      have I4 := HI3.out.1.next hb1
      have zz := HI3.out.2
      have p0 := I4.p0
      have p1 := I4.p1
      have f0 := I4.f0
      have f1 := I4.f1
      have HT := hide (I4.put (.slice z1 x.shape.length m1) (.slice z2 x.cells.length m2))
      have HF := hide (I4.give hv (by omega))
      have HFI := hide I4.fin
      clear I4 hv hb1 CC HI3 HI hone hs0 h0
      generalize x.shape.length = SB at *
      generalize x.cells.length = CB at *
      go_wp2
      exact bodyPost_ret (v := .tuple #[.agg #[.slice z1 SB m1, .slice z2 CB m2], .int .i64 0]) (by simp [results, Try.results35, go_sem, HT.out.1, HT.out.2]) rfl (gives2_of HE5.out (HF.out _ _) (HFI.out _ _))
end Go.Proofs.Ytmjncdhahdpplaa
