/-
  For all arrays the statement ArrCopies holds: a copy shares no memory with what it was copied from; no condition (the given row speaks of what a machine of 64 bits can hold).
-/
import Derived.Test.YtkigfmfegldhcaaOwnAB
import Derived.Test.YtkigfmfegldhcaaOwnAD
import Derived.Test.YtkigfmfegldhcaaOwnZ
namespace Go.Proofs.Ytkigfmfegldhcaa.arrCopies
open Go.ChangeShapes Go.WideShapes Go.ChangeAt Go.RowKit
set_option linter.unusedVariables false
set_option maxHeartbeats 4000000 in
theorem walk (n : Nat) (x : Ar) (c0 c1 : Value) (w : World) (hx : ArIn n 0 w x (.agg #[c0, c1])) :
    Calls Try.prog 3 #[.agg #[c0, c1]] w fun e w' => e = .returned (.bool true) ∧ Below w.heap.size w w' := by
  have hx' := hx
  cases n with
  | zero => exact hx.elim
  | succ n =>
  obtain ⟨a1, k1, a2, k2, hv, -⟩ := hx'
  simp only [Value.agg.injEq, Array.mk.injEq, List.cons.injEq, and_true] at hv
  obtain ⟨rfl, rfl⟩ := hv
  have b0 := one_alloc w (.cells #[.slice a1 x.shape.length k1, .slice a2 x.cells.length k2] 25)
  have C0 := light_any (hx.next b0)
  have q0 := cell_new0 w #[.slice a1 x.shape.length k1, .slice a2 x.cells.length k2] 25 0 _ rfl
  have q1 := cell_new0 w #[.slice a1 x.shape.length k1, .slice a2 x.cells.length k2] 25 1 _ rfl
  have s0 : w.heap.size < (w.alloc (.cells #[.slice a1 x.shape.length k1, .slice a2 x.cells.length k2] 25)).heap.size := by simp
  have HX : Hid (∀ W, Below w.heap.size w W → ArIn (n + 1) 0 W x (.agg #[.slice a1 x.shape.length k1, .slice a2 x.cells.length k2])) := fun W h => hx.next h
  have HGA : Hid (∀ (lo : Nat) (W : World) (v : Value), ArIn (n + 1) lo W x v → ∃ p1 d1 p2 d2, v = .agg #[.slice p1 x.shape.length d1, .slice p2 x.cells.length d2]) := fun lo W v h => by
    obtain ⟨p1, d1, p2, d2, hv, -⟩ := h
    exact ⟨p1, d1, p2, d2, hv⟩
  have hbd : Hid (x.shape.length ≤ 140737488355328 ∧ x.cells.length ≤ 5864062014805) := by
    obtain ⟨_, _, _, _, _, R, hl, _⟩ := hx
    exact ⟨R.1, hl⟩
  clear hx
  generalize hSA : x.shape.length = SA at *
  generalize hCA : x.cells.length = CA at *
  clear hSA hCA
  obtain ⟨W1, eW⟩ : ∃ W1, W1 = w.alloc (.cells #[.slice a1 SA k1, .slice a2 CA k2] 25) := ⟨_, rfl⟩
  rw [← eW] at b0 C0 q0 q1 s0
  have HB0 := hide b0
  have HQ := hide (And.intro q0 (And.intro q1 s0))
  clear b0 q0 q1 s0
  go_enter Try.func3, Try.ntmps3
  go_wp2_with fail
  rw [← eW]
  refine C0.mono ?_
  rintro e w1 ⟨⟨r, rfl, hr⟩, hb1⟩
  have B1 : Below w.heap.size w w1 := HB0.out.trans (hb1.mono HB0.out.size)
  have q0 := (hb1.cell (p := ⟨w.heap.size, 0, none⟩) HQ.out.2.2).trans HQ.out.1
  have q1 := (hb1.cell (p := ⟨w.heap.size, 1, none⟩) HQ.out.2.2).trans HQ.out.2.1
  have hlt : w.heap.size < w1.heap.size := Nat.lt_of_lt_of_le HQ.out.2.2 hb1.size
  clear hr C0 hb1 HB0 HQ eW
  have HB1 := hide B1
  have HLT := hide hlt
  cases r with
  | false =>
    clear B1 HX HGA hlt
    go_wp2_with fail
    refine (works_any _).mono ?_
    rintro e w2 ⟨rfl, hb2⟩
    go_wp2
    go_ret
    exact ⟨rfl, HB1.out.trans (hb2.mono HB1.out.size)⟩
  | true =>
    clear hlt B1
    go_wp2_with fail
    refine (rcheck_any _ x _ _ _ (HX.out _ HB1.out)).mono ?_
    rintro e w2 ⟨rfl, hb2⟩
    have HB2 : Hid (Below w.heap.size w w2) := HB1.out.trans (hb2.mono HB1.out.size)
    have q0' := (hb2.cell (p := ⟨w.heap.size, 0, none⟩) HLT.out).trans q0
    have q1' := (hb2.cell (p := ⟨w.heap.size, 1, none⟩) HLT.out).trans q1
    have HLT2 : Hid (w.heap.size < w2.heap.size) := Nat.lt_of_lt_of_le HLT.out hb2.size
    clear q0 q1 hb2 HB1 HLT
    obtain ⟨E, hE⟩ : ∃ E, chkA 8 x = E := ⟨_, rfl⟩
    have HE := hide hE
    rw [hE]
    clear hE
    by_cases hE0 : E = 0
    · subst hE0
      go_wp2_with fail
      refine (copy_any (n + 1) 8 x 0 _ _ HE.out (HX.out _ HB2.out)).mono ?_
      rintro e w3 ⟨⟨vb, rfl, hvb⟩, hb3⟩
      obtain ⟨p1, d1, p2, d2, rfl⟩ := HGA.out _ _ _ hvb
      obtain ⟨w4, e4⟩ : ∃ w4, w4 = w3.alloc (.cells #[.slice p1 SA d1, .slice p2 CA d2] 25) := ⟨_, rfl⟩
      have b34 : Below w3.heap.size w3 w4 := by rw [e4]; exact one_alloc _ _
      have s4 : w4.heap.size = w3.heap.size + 1 := by rw [e4]; simp
      have t0 : w4.cell? ⟨w3.heap.size, 0, none⟩ = some (.slice p1 SA d1) := by rw [e4]; exact cell_new0 w3 _ 25 0 _ rfl
      have t1 : w4.cell? ⟨w3.heap.size, 1, none⟩ = some (.slice p2 CA d2) := by rw [e4]; exact cell_new0 w3 _ 25 1 _ rfl
      have b24 : Below w2.heap.size w2 w4 := hb3.b.trans (b34.mono hb3.size)
      have q0 := (b24.cell (p := ⟨w.heap.size, 0, none⟩) HLT2.out).trans q0'
      have q1 := (b24.cell (p := ⟨w.heap.size, 1, none⟩) HLT2.out).trans q1'
      have HB4 : Hid (Below w.heap.size w w4) := HB2.out.trans (b24.mono HB2.out.size)
      have H34 := hide (And.intro b34 (And.intro s4 (And.intro t0 (And.intro t1 b24))))
      have H3 := hide (And.intro hvb hb3)
      clear q0' q1' hvb hb3 b34 s4 t0 t1 b24
      have e4' := e4.symm
      clear e4
      go_wp2_with fail
      clear e4'
      refine (copy_any (n + 1) 8 x 0 _ _ HE.out (HX.out _ HB4.out)).mono ?_
      rintro e w5 ⟨⟨vc, rfl, hvc⟩, hb5⟩
      obtain ⟨r1, f1, r2, f2, rfl⟩ := HGA.out _ _ _ hvc
      obtain ⟨W0, eW⟩ : ∃ W0, W0 = w5.alloc (.cells #[.slice r1 SA f1, .slice r2 CA f2] 25) := ⟨_, rfl⟩
      have b56 : Below w5.heap.size w5 W0 := by rw [eW]; exact one_alloc _ _
      have s6 : W0.heap.size = w5.heap.size + 1 := by rw [eW]; simp
      have u0 : W0.cell? ⟨w5.heap.size, 0, none⟩ = some (.slice r1 SA f1) := by rw [eW]; exact cell_new0 w5 _ 25 0 _ rfl
      have u1 : W0.cell? ⟨w5.heap.size, 1, none⟩ = some (.slice r2 CA f2) := by rw [eW]; exact cell_new0 w5 _ 25 1 _ rfl
      have b46 : Below w4.heap.size w4 W0 := hb5.b.trans (b56.mono hb5.size)
      obtain ⟨b34, s4, t0, t1, b24⟩ := H34.out
      have z24 := b24.size
      have z23 := H3.out.2.size
      have z45 := hb5.size
      have b36 : Below w3.heap.size w3 W0 := b34.trans (b46.mono (by omega))
      have Q0 := (b46.cell (p := ⟨w.heap.size, 0, none⟩) (by have := HLT2.out; show w.heap.size < _; omega)).trans q0
      have Q1 := (b46.cell (p := ⟨w.heap.size, 1, none⟩) (by have := HLT2.out; show w.heap.size < _; omega)).trans q1
      have T0 := (b46.cell (p := ⟨w3.heap.size, 0, none⟩) (by show w3.heap.size < _; omega)).trans t0
      have T1 := (b46.cell (p := ⟨w3.heap.size, 1, none⟩) (by show w3.heap.size < _; omega)).trans t1
      have B26 : Below w2.heap.size w2 W0 := b24.trans (b46.mono z24)
      have CP := copied H3.out.1 b36 H3.out.2.z.2.2
      /- What holds in whatever world the loops reach. -/
      obtain ⟨R, hR⟩ : ∃ R : World → Prop, R = Sf w2.heap.size w3.heap.size W0 := ⟨_, rfl⟩
      have R0 : Hid (R W0) := by rw [hR]; exact Sf.refl _ _ _
      have RT : Hid (∀ wr, R wr → wr.cell? ⟨w3.heap.size, 0, none⟩ = some (.slice p1 SA d1) ∧ wr.cell? ⟨w3.heap.size, 1, none⟩ = some (.slice p2 CA d2) ∧ w3.heap.size < wr.heap.size) := by
        rw [hR]; intro wr h; exact ⟨h.slice T0, h.slice T1, by have := h.below.size; omega⟩
      have RN : Hid (∀ wr o, R wr → R (wr.alloc o)) := by
        rw [hR]; intro wr o h; exact h.alloc (by omega) o
      have RE : Hid (∀ wr, R wr → wr.cell? ⟨w.heap.size, 0, none⟩ = some (.slice a1 SA k1) ∧ wr.cell? ⟨w.heap.size, 1, none⟩ = some (.slice a2 CA k2) ∧ wr.cell? ⟨w5.heap.size, 0, none⟩ = some (.slice r1 SA f1) ∧ wr.cell? ⟨w5.heap.size, 1, none⟩ = some (.slice r2 CA f2) ∧ Below w.heap.size w wr ∧ Calls Try.prog 8 #[.agg #[.slice a1 SA k1, .slice a2 CA k2], .agg #[.slice r1 SA f1, .slice r2 CA f2]] wr fun e w' => e = .returned (.bool true) ∧ Below wr.heap.size wr w') := by
        rw [hR]
        intro wr h
        have bw : Below w.heap.size w wr := HB2.out.trans ((B26.trans h.below).mono HB2.out.size)
        have hc0 : ArIn (n + 1) w3.heap.size W0 x (.agg #[.slice r1 SA f1, .slice r2 CA f2]) := hvc.mono (by omega) b56
        have hS := rsame_any (HX.out _ bw) (hc0.keeps h.keeps)
        rw [cmpA_self] at hS
        exact ⟨h.slice Q0, h.slice Q1, h.slice u0, h.slice u1, bw, hS⟩
      rw [← hR] at CP
      have RC := hide CP
      clear CP hR HX HGA HE q0 q1 hvc hb5 b56 s6 u0 u1 b46 b34 s4 t0 t1 b24 z24 z23 z45 b36 Q0 Q1 T0 T1 B26 H34 H3 HB4 HB2 HLT2
      have eW' := eW.symm
      clear eW
      go_wp2
      clear eW'
      obtain ⟨hbS, hbC⟩ := hbd.out
      go_loopg [5] SA (fun g iv wr => ∃ j : Nat, g + j = SA ∧ iv = .int .i64 (j : Int) ∧ R wr)
      case atStart => exact ⟨0, rfl, rfl, R0.out⟩
      case round =>
        obtain ⟨j, hj, rfl, hr⟩ := hrel
        have HR := hide hr
        obtain ⟨T0, T1, -⟩ := RT.out _ hr
        by_cases hlt : j < SA
        · obtain ⟨b, off, rfl, hi⟩ := RC.out.1 j hlt
          obtain ⟨⟨z, hz⟩, hf, hs⟩ := hi _ hr
          have HS := hide hs
          clear hi hs hr R0
          go_wp2
          go_roundg (SA - (j + 1))
          case rel => exact ⟨j + 1, by omega, by go_num, HS.out _⟩
          case measure => omega
        · have hje : j = SA := by omega
          subst hje
          clear hr hlt hj R0
          go_wp2
          go_loopg [6] CA (fun g iv wr => ∃ i : Nat, g + i = CA ∧ iv = .int .i64 (i : Int) ∧ R wr)
          case atStart => exact ⟨0, rfl, rfl, HR.out⟩
          case round =>
            clear HR T0 T1
            obtain ⟨i, hi, rfl, hr⟩ := hrel
            have HR := hide hr
            obtain ⟨T0, T1, -⟩ := RT.out _ hr
            by_cases hlt : i < CA
            · obtain ⟨b, off, ab, nb, cb, rfl, hin, hnb, hbx, hbs⟩ := RC.out.2 i hlt
              obtain ⟨⟨z, hz⟩, hf, hs⟩ := hin _ hr
              have HS := hide hs
              have HBX := hide hbx
              have HBS := hide hbs
              clear hin hs hr hbx hbs RC
              go_wp2
              go_loopg [7] nb (fun g kv wr => ∃ k : Nat, g + k = nb ∧ kv = .int .i64 (k : Int) ∧ R wr)
              case atStart => exact ⟨0, rfl, rfl, HS.out _⟩
              case round =>
                clear HR T0 T1 hz hf HS
                obtain ⟨k, hk, rfl, hr⟩ := hrel
                have HR := hide hr
                obtain ⟨T0, T1, -⟩ := RT.out _ hr
                have hbx := HBX.out _ hr
                by_cases hkl : k < nb
                · obtain ⟨bb, ob, y1, l1, g1, y2, m, g2, rfl, hm, hld, hin⟩ := HBS.out k hkl
                  obtain ⟨v0, v1⟩ := hld _ hr
                  have HIN := hide hin
                  have HX1 : Hid (R (wr.alloc (.cells #[.slice y1 l1 g1, .slice y2 m g2] 25)) ∧ (wr.alloc (.cells #[.slice y1 l1 g1, .slice y2 m g2] 25)).cell? ⟨wr.heap.size, 1, none⟩ = some (.slice y2 m g2)) := ⟨RN.out _ _ hr, cell_new0 wr _ 25 1 _ rfl⟩
                  have HZ : Hid (w3.heap.size < wr.heap.size) := (RT.out _ hr).2.2
                  obtain ⟨X, hX⟩ : ∃ X, X = wr.heap.size := ⟨_, rfl⟩
                  clear hld hin hr HBS
                  go_wp2
                  rw [← hX] at HX1 HZ ⊢
                  clear hX
                  go_loopg [9] m (fun g jv wr => ∃ j : Nat, g + j = m ∧ jv = .int .i64 (j : Int) ∧ R wr ∧ wr.cell? ⟨X, 1, none⟩ = some (.slice y2 m g2))
                  case atStart => exact ⟨0, rfl, rfl, HX1.out⟩
                  case round =>
                    clear HX1 HR T0 T1 hbx v0 v1
                    obtain ⟨q, hq, rfl, hr, hc⟩ := hrel
                    have HR := hide hr
                    by_cases hql : q < m
                    · obtain ⟨b3, o3, rfl, hb3, hin⟩ := HIN.out q hql
                      obtain ⟨⟨z, hz⟩, hf, hs⟩ := hin _ hr
                      have HS := hide hs
                      have HCS : Hid (∀ v, (wr.setCell ⟨b3, o3 + q * 3 + 1, none⟩ v).cell? ⟨X, 1, none⟩ = some (.slice (some ⟨b3, o3, none⟩) m g2)) := fun v => cell_apart (p := ⟨X, 1, none⟩) (q := ⟨b3, o3 + q * 3 + 1, none⟩) (by have := HZ.out; show X ≠ b3; omega) v hc
                      clear hin hs hr HIN hb3
                      go_wp2
                      go_roundg (m - (q + 1))
                      case rel => exact ⟨q + 1, by omega, by go_num, HS.out _, HCS.out _⟩
                      case measure => omega
                    · have hqe : q = m := by omega
                      subst hqe
                      clear hr HIN
                      go_wp2
                      go_roundg (nb - (k + 1))
                      case rel => exact ⟨k + 1, by omega, by go_num, HR.out⟩
                      case measure => omega
                · have hke : k = nb := by omega
                  subst hke
                  clear hr HBS
                  go_wp2
                  go_roundg (CA - (i + 1))
                  case rel => exact ⟨i + 1, by omega, by go_num, HR.out⟩
                  case measure => omega
            · have hie : i = CA := by omega
              subst hie
              clear hr hlt hi RC
              obtain ⟨z0, z1, z2, z3, bw, C⟩ := RE.out _ HR.out
              have HC := hide C
              have HBW := hide bw
              clear C bw RE RT RN
              go_wp2_with fail
              refine HC.out.mono ?_
              rintro e w6 ⟨rfl, hb6⟩
              have HB6 : Hid (Below w.heap.size w w6) := HBW.out.trans (hb6.mono HBW.out.size)
              clear z0 z1 z2 z3 HC hb6
              go_wp2_with fail
              refine (works_any _).mono ?_
              rintro e w7 ⟨rfl, hb7⟩
              go_wp2
              go_ret
              exact ⟨rfl, HB6.out.trans (hb7.mono HB6.out.size)⟩
    · clear HX HGA
      go_wp2_with fail
      refine (works_any _).mono ?_
      rintro e w3 ⟨rfl, hb3⟩
      go_wp2
      go_ret
      exact ⟨rfl, HB2.out.trans (hb3.mono HB2.out.size)⟩
set_option maxRecDepth 100000 in
theorem lifted (os : Os) (started : os.Started) (H : Type) (enc : TypeId × Value → H) :
    ReturnsInHanded {} Try.checked os 3 .any (Rows.arrCopiesSpec.pre6 enc Try.prog Try.f3 Rows.arrCopiesRow.domain false) (Rows.arrCopiesSpec.post enc Try.prog Try.f3 false true false false) := by
  refine returnsInHanded_of_change_sized (C := Try.checked) own started (by kernel_rfl) Try.func3
    (ChangeSpec.witness6 (enc := enc) (C := Try.checked) false ⟨#[], #[.agg #[.slice none 0 0, .slice none 0 0]], []⟩ 8 (by kernel_rfl) (by kernel_rfl) (by kernel_rfl) (by kernel_rfl)) ?_
  intro W base args ds gs before hval0 hW _ hsz0 _
  have hsz : (DataW.weightsEach Try.prog (Try.f3.params.toList ++ Rows.arrCopiesSpec.plain.varTypes Try.prog) (ds ++ gs)).all (· ≤ reachBytes) = true := hsz0
  clear hsz0
  have hval : ∀ (j : Nat) t v, Try.f3.params[j]? = some t → args[j]? = some v → Value.okWide Try.prog W .any base t v := hval0
  have hW' := hW
  obtain ⟨p, q, hA0, hV, rfl, hfz, hnd⟩ := hW
  have hA : DataW.TrodAll enc Try.prog W 0 (fun _ => true) true Try.f3.params.toList args.toList ds p := hA0
  rw [Try.params3] at hA hval hsz
  obtain ⟨v0, vs0, d0, ds0, p0, q0, hargs, rfl, rfl, h0, r0⟩ := trodAll_cons hA
  obtain ⟨rfl, rfl, rfl⟩ := trodAll_nil r0
  obtain rfl : args = #[v0] := by cases args; simp_all
  obtain ⟨rfl, rfl⟩ := trodVars_none hV
  have k0 := h0
  have lt0 : ∀ x ∈ p0, x.block < W.heap.size := by obtain ⟨m, hm⟩ := k0; exact DataW.trod_lt m _ _ _ hm
  obtain ⟨n0, y0, c00, c01, hc0, w0⟩ := arr_of hsz (j := 0) rfl rfl h0
  obtain rfl := agg_two hc0
  clear hA0 hval0
  refine (walk n0 y0 c00 c01 W w0.1).mono fun e W' ⟨he, bel⟩ => ?_
  subst he
  exact ⟨_, rfl, _, _, _, [], _, [], hW', trodAll_mk1 (shut_bool Try.underlying4 _), (trodAll_cons_mk (Below.trod laidOut (by kernel_rfl) (of_decide_eq_true (by kernel_rfl)) k0 bel lt0) trodAll_mk0), rfl, bel.frame _, fun h => by cases h⟩
theorem over : Rows.arrCopiesRow.holds Try.pinned (OpenSpec.ofChange Rows.arrCopiesSpec) :=
  OpenClaim.holds_of_wide 3 Try.f3 rfl rfl rfl rfl rfl rfl rfl ⟨rfl, rfl, rfl, rfl, rfl⟩ rfl rfl rfl rfl rfl (by kernel_rfl) Try.func3 (by kernel_rfl)
    (of_decide_eq_true (by kernel_rfl)) (by unfold Func.isWrapper; first | (rw [if_pos (by decide +kernel)]; kernel_rfl) | (rw [if_neg (by decide +kernel)]; exact ⟨rfl, rfl⟩))
    (fun os started H enc _ => lifted os started H enc)
theorem proved : Rows.ArrCopiesSaid := over
end Go.Proofs.Ytkigfmfegldhcaa.arrCopies
namespace Go.Proofs.Ytkigfmfegldhcaa
theorem arrCopies_holds : Rows.ArrCopiesSaid := arrCopies.proved
#print axioms arrCopies_holds
end Go.Proofs.Ytkigfmfegldhcaa
