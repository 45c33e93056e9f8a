/-
  For all fuel, cells and numbers of steps the statement MeterSteps holds: each step is allowed or refused as the document says, and what was used and is left is what it says; no condition.
-/
import Derived.Test.YtfhcdhkdcegieaaMtE
import Derived.Test.YtfhcdhkdcegieaaMtF
import Derived.Test.YtfhcdhkdcegieaaOwnZ
namespace Go.Proofs.Ytfhcdhkdcegieaa.meterSteps
open Go.ChangeShapes Go.WideShapes Go.ChangeAt Go.RowKit
set_option linter.unusedVariables false
set_option maxRecDepth 100000
set_option maxHeartbeats 4000000 in
theorem walk (f c n : Int) (w : World) (hf : -9223372036854775808 ≤ f ∧ f ≤ 9223372036854775807) (hc : -9223372036854775808 ≤ c ∧ c ≤ 9223372036854775807) (hn : 0 ≤ n ∧ n ≤ 255) :
    Calls Try.prog 3 #[.int .i64 f, .int .i64 c, .int .u8 n] w fun e w' => e = .returned (.bool true) ∧ Below w.heap.size w w' := by
  have C0 := new7 (w := w) f c hf.2 hc.2
  have HC1 : Hid (∀ W, Calls Try.prog 8 #[.int .i64 f, .int .i64 c] W fun e w' => e = .returned (.agg #[.int .i64 0, .int .i64 (pos f), .int .i64 (pos c)]) ∧ Below W.heap.size W w') := fun W => rnew8 f c
  have p1 := pos_fit hf.2
  generalize pos f = F at *
  generalize pos c = R at *
  obtain ⟨N, rfl⟩ : ∃ N : Nat, n = (N : Int) := ⟨n.toNat, by omega⟩
  go_enter Try.func3, Try.ntmps3
  go_wp2_with fail
  refine C0.mono ?_
  clear C0
  rintro e w1 ⟨⟨b, rfl, hb, hm⟩, hb1⟩
  have C1 := HC1.out w1
  have HM := hide (And.intro hm hb1)
  have HBB := hide hb
  clear hm hb1 hb HC1
  go_wp2_with fail
  refine C1.mono ?_
  clear C1
  rintro e w2 ⟨rfl, hb2⟩
  obtain ⟨B, hB⟩ : ∃ B, w2.heap.size = B := ⟨_, rfl⟩
  obtain ⟨W3, e3⟩ : ∃ W3, w2.alloc (.cells #[.int .i64 0, .int .i64 F, .int .i64 R] 25) = W3 := ⟨_, rfl⟩
  have HI : Hid (Mt W3 b F 0 R ∧ Rv W3 B 0 F R ∧ Below w.heap.size w W3 ∧ w.heap.size ≤ b ∧ w.heap.size ≤ B ∧ b ≠ B) := by
    have h1 := HM.out.1.next hb2 HM.out.1.lt
    have h2 := HM.out.2.trans (hb2.mono HM.out.2.size)
    rw [← e3, ← hB]
    have hl := h1.lt
    exact ⟨h1.next (one_alloc w2 _) h1.lt, rv_new w2 0 F R, h2.alloc h2.size _, HBB.out, h2.size, by omega⟩
  have HE3 := hide (And.intro e3 hB)
  clear HM HBB hb2 e3 hB
  go_wp2
  rw [HE3.out.1, HE3.out.2]
  clear HE3
  go_loopg [9] N (fun g i wr => ∃ (k : Nat) (U : Int), g + k = N ∧ i = .int .i64 (k : Int) ∧ Mt wr b F U R ∧ Rv wr B U F R ∧ Below w.heap.size w wr)
  case atStart => exact ⟨0, 0, rfl, rfl, HI.out.1, HI.out.2.1, HI.out.2.2.1⟩
  case round =>
    obtain ⟨k, U, hg, rfl, hm, hr, hbel⟩ := hrel
    have HBS : Hid (w.heap.size ≤ b ∧ w.heap.size ≤ B ∧ b ≠ B) := HI.out.2.2.2
    clear HI
    by_cases hlt : k < N
    · have hltz : (k : Int) < (N : Int) := by omega
      have u0 := hm.u0
      have uF := hm.uF
      have CS := rstep9 (w := wr) U F R hm.u0 hm.uF hm.fF
      have HMR := hide (And.intro hm (And.intro hr hbel))
      have c0 := hr.c0
      have c1 := hr.c1
      have c2 := hr.c2
      clear hm hr hbel
      by_cases hU : U < F
      · rw [if_pos hU] at CS
        go_wp2_with fail
        refine CS.mono ?_
        clear CS c0 c1 c2
        rintro e w4 ⟨rfl, hb4⟩
        obtain ⟨hm, hr, hbel⟩ := HMR.out
        have hm4 := hm.next hb4 hm.lt
        have hr4 := hr.next hb4 hr.lt
        have hbel4 := hbel.trans (hb4.mono hbel.size)
        obtain ⟨W5, e5⟩ : ∃ W5, w4.alloc (.cells #[.int .i64 (U + 1), .int .i64 F, .int .i64 R] 25) = W5 := ⟨_, rfl⟩
        have hm5 : Mt W5 b F U R := by rw [← e5]; exact hm4.next (one_alloc w4 _) hm4.lt
        have hr5 : Rv W5 B U F R := by rw [← e5]; exact hr4.next (one_alloc w4 _) hr4.lt
        have hs5 : Rv W5 w4.heap.size (U + 1) F R := by rw [← e5]; exact rv_new w4 _ _ _
        have hbel5 : Below w.heap.size w W5 := by rw [← e5]; exact hbel4.alloc hbel4.size _
        obtain ⟨W6, e6⟩ : ∃ W6, ((W5.setCell ⟨B, 0, none⟩ (.int .i64 (U + 1))).setCell ⟨B, 1, none⟩ (.int .i64 F)).setCell ⟨B, 2, none⟩ (.int .i64 R) = W6 := ⟨_, rfl⟩
        have hm6 : Mt W6 b F U R := by rw [← e6]; exact ((hm5.other HBS.out.2.2.symm _).other HBS.out.2.2.symm _).other HBS.out.2.2.symm _
        have hr6 : Rv W6 B (U + 1) F R := by rw [← e6]; exact hr5.put _ _ _
        have hbel6 : Below w.heap.size w W6 := by rw [← e6]; exact ((hbel5.setCell (p := ⟨B, 0, none⟩) HBS.out.2.1 _).setCell (p := ⟨B, 1, none⟩) HBS.out.2.1 _).setCell (p := ⟨B, 2, none⟩) HBS.out.2.1 _
        have C7 := step10 hm6
        have H6 := hide (And.intro hm6 (And.intro hr6 hbel6))
        have HE := hide (And.intro e5 e6)
        have s0 := hs5.c0
        have s1 := hs5.c1
        have s2 := hs5.c2
        have f0 := hr5.f0
        have f1 := hr5.f1
        have f2 := hr5.f2
        have d0 := hr5.c0
        have d1 := hr5.c1
        have d2 := hr5.c2
        clear hm hr hbel hm4 hr4 hbel4 hm5 hr5 hs5 hbel5 hm6 hr6 hbel6 hb4 HMR e6
        go_wp2_with fail
        rw [HE.out.2]
        clear e5 s0 s1 s2 f0 f1 f2 d0 d1 d2
        refine C7.mono ?_
        clear C7
        intro e w7 hs
        obtain ⟨hm6, hr6, hbel6⟩ := H6.out
        obtain ⟨rfl, hm7, hb7⟩ := hs.yes hm6 hU HBS.out.1
        have hr7 : Rv w7 B (U + 1) F R := by
          rcases hs with ⟨_, _, w8, h8, rfl⟩ | ⟨h8, _⟩
          · exact (hr6.next h8 hr6.lt).other HBS.out.2.2 _
          · omega
        have C8 := used11 hm7
        have H7 := hide (And.intro hm7 (And.intro hr7 (hbel6.trans hb7)))
        clear hm6 hr6 hbel6 hm7 hr7 hb7 hs H6 HE
        go_wp2_with fail
        refine C8.mono ?_
        clear C8
        rintro e w8 ⟨rfl, hb8⟩
        obtain ⟨hm7, hr7, hbel7⟩ := H7.out
        have hr8 := hr7.next hb8 hr7.lt
        have H8 := hide (And.intro (hm7.next hb8 hm7.lt) (And.intro hr8 (hbel7.trans (hb8.mono hbel7.size))))
        have c0 := hr8.c0
        have c1 := hr8.c1
        clear hm7 hr7 hbel7 hr8 H7 hb8
        go_wp2
        go_roundg (N - (k + 1))
        case rel => exact ⟨k + 1, U + 1, by omega, by go_num, H8.out.1, H8.out.2.1, H8.out.2.2⟩
        case measure => omega
      · rw [if_neg hU] at CS
        go_wp2_with fail
        refine CS.mono ?_
        clear CS c0 c1 c2
        rintro e w4 ⟨rfl, hb4⟩
        obtain ⟨hm, hr, hbel⟩ := HMR.out
        have hm4 := hm.next hb4 hm.lt
        have hr4 := hr.next hb4 hr.lt
        have hbel4 := hbel.trans (hb4.mono hbel.size)
        obtain ⟨W5, e5⟩ : ∃ W5, w4.alloc (.cells #[.int .i64 U, .int .i64 F, .int .i64 R] 25) = W5 := ⟨_, rfl⟩
        have hm5 : Mt W5 b F U R := by rw [← e5]; exact hm4.next (one_alloc w4 _) hm4.lt
        have hr5 : Rv W5 B U F R := by rw [← e5]; exact hr4.next (one_alloc w4 _) hr4.lt
        have hs5 : Rv W5 w4.heap.size U F R := by rw [← e5]; exact rv_new w4 _ _ _
        have hbel5 : Below w.heap.size w W5 := by rw [← e5]; exact hbel4.alloc hbel4.size _
        obtain ⟨W6, e6⟩ : ∃ W6, ((W5.setCell ⟨B, 0, none⟩ (.int .i64 U)).setCell ⟨B, 1, none⟩ (.int .i64 F)).setCell ⟨B, 2, none⟩ (.int .i64 R) = W6 := ⟨_, rfl⟩
        have hm6 : Mt W6 b F U R := by rw [← e6]; exact ((hm5.other HBS.out.2.2.symm _).other HBS.out.2.2.symm _).other HBS.out.2.2.symm _
        have hr6 : Rv W6 B U F R := by rw [← e6]; exact hr5.put _ _ _
        have hbel6 : Below w.heap.size w W6 := by rw [← e6]; exact ((hbel5.setCell (p := ⟨B, 0, none⟩) HBS.out.2.1 _).setCell (p := ⟨B, 1, none⟩) HBS.out.2.1 _).setCell (p := ⟨B, 2, none⟩) HBS.out.2.1 _
        have C7 := step10 hm6
        have H6 := hide (And.intro hm6 (And.intro hr6 hbel6))
        have HE := hide (And.intro e5 e6)
        have s0 := hs5.c0
        have s1 := hs5.c1
        have s2 := hs5.c2
        have f0 := hr5.f0
        have f1 := hr5.f1
        have f2 := hr5.f2
        have d0 := hr5.c0
        have d1 := hr5.c1
        have d2 := hr5.c2
        clear hm hr hbel hm4 hr4 hbel4 hm5 hr5 hs5 hbel5 hm6 hr6 hbel6 hb4 HMR e6
        go_wp2_with fail
        rw [HE.out.2]
        clear e5 s0 s1 s2 f0 f1 f2 d0 d1 d2
        refine C7.mono ?_
        clear C7
        intro e w7 hs
        obtain ⟨hm6, hr6, hbel6⟩ := H6.out
        obtain ⟨rfl, hm7, hb7⟩ := hs.no hm6 (by omega) HBS.out.1
        have hr7 : Rv w7 B U F R := by
          rcases hs with ⟨h8, _⟩ | ⟨_, _, h8⟩
          · omega
          · exact hr6.next h8 hr6.lt
        have C8 := used11 hm7
        have H7 := hide (And.intro hm7 (And.intro hr7 (hbel6.trans hb7)))
        clear hm6 hr6 hbel6 hm7 hr7 hb7 hs H6 HE
        go_wp2_with fail
        refine C8.mono ?_
        clear C8
        rintro e w8 ⟨rfl, hb8⟩
        obtain ⟨hm7, hr7, hbel7⟩ := H7.out
        have hr8 := hr7.next hb8 hr7.lt
        have H8 := hide (And.intro (hm7.next hb8 hm7.lt) (And.intro hr8 (hbel7.trans (hb8.mono hbel7.size))))
        have c0 := hr8.c0
        have c1 := hr8.c1
        clear hm7 hr7 hbel7 hr8 H7 hb8
        go_wp2
        go_roundg (N - (k + 1))
        case rel => exact ⟨k + 1, U, by omega, by go_num, H8.out.1, H8.out.2.1, H8.out.2.2⟩
        case measure => omega
    · have hke : k = N := by omega
      subst hke
      have HX := hide hbel
      have CW := works_any wr
      clear hm hr hbel HBS
      go_wp2_with fail
      refine CW.mono ?_
      rintro e w9 ⟨rfl, hb9⟩
      have HF := hide (HX.out.trans (hb9.mono HX.out.size))
      clear hb9 CW HX
      go_wp2
      go_ret
      exact ⟨rfl, HF.out⟩
set_option maxRecDepth 100000 in
theorem lifted (os : Os) (started : os.Started) (H : Type) (enc : TypeId × Value → H) :
    ReturnsInHanded {} Try.checked os 3 .any (Rows.meterStepsSpec.pre6 enc Try.prog Try.f3 Rows.meterStepsRow.domain false) (Rows.meterStepsSpec.post enc Try.prog Try.f3 false true false false) := by
  refine returnsInHanded_of_change_sized (C := Try.checked) own started (by kernel_rfl) Try.func3
    (ChangeSpec.witness6 (enc := enc) (C := Try.checked) false ⟨#[], #[.int .i64 0, .int .i64 0, .int .u8 0], []⟩ 8 (by kernel_rfl) (by kernel_rfl) (by kernel_rfl) (by kernel_rfl)) ?_
  intro W base args ds gs before hval0 hW _ hsz0 _
  have hsz : (DataW.weightsEach Try.prog (Try.f3.params.toList ++ Rows.meterStepsSpec.plain.varTypes Try.prog) (ds ++ gs)).all (· ≤ reachBytes) = true := hsz0
  clear hsz0
  have hval : ∀ (j : Nat) t v, Try.f3.params[j]? = some t → args[j]? = some v → Value.okWide Try.prog W .any base t v := hval0
  have hW' := hW
  obtain ⟨p, q, hA0, hV, rfl, hfz, hnd⟩ := hW
  have hA : DataW.TrodAll enc Try.prog W 0 (fun _ => true) true Try.f3.params.toList args.toList ds p := hA0
  rw [Try.params3] at hA hval hsz
  obtain ⟨v0, vs0, d0, ds0, p0, q0, hargs, rfl, rfl, h0, r0⟩ := trodAll_cons hA
  obtain ⟨v1, vs1, d1, ds1, p1, q1, rfl, rfl, rfl, h1, r1⟩ := trodAll_cons r0
  obtain ⟨v2, vs2, d2, ds2, p2, q2, rfl, rfl, rfl, h2, r2⟩ := trodAll_cons r1
  obtain ⟨rfl, rfl, rfl⟩ := trodAll_nil r2
  obtain rfl : args = #[v0, v1, v2] := by cases args; simp_all
  obtain ⟨rfl, rfl⟩ := trodVars_none hV
  obtain ⟨x0, rfl, rfl, rfl, w0⟩ := open_int Try.underlying3 (hval 0 3 v0 rfl rfl) h0
  obtain ⟨x1, rfl, rfl, rfl, w1⟩ := open_int Try.underlying3 (hval 1 3 v1 rfl rfl) h1
  obtain ⟨x2, rfl, rfl, rfl, w2⟩ := open_int Try.underlying5 (hval 2 5 v2 rfl rfl) h2
  clear hA0 hval0
  refine (walk x0 x1 x2 W (bounds_i64 w0) (bounds_i64 w1) (bounds_u8 w2)).mono fun e W' ⟨he, bel⟩ => ?_
  subst he
  exact ⟨_, rfl, _, _, _, [], _, [], hW', trodAll_mk1 (shut_bool Try.underlying4 _), (trodAll_cons_mk (shut_int Try.underlying3 w0) (trodAll_cons_mk (shut_int Try.underlying3 w1) (trodAll_cons_mk (shut_int Try.underlying5 w2) trodAll_mk0))), rfl, bel.frame _, fun h => by cases h⟩
theorem over : Rows.meterStepsRow.holds Try.pinned (OpenSpec.ofChange Rows.meterStepsSpec) :=
  OpenClaim.holds_of_wide 3 Try.f3 rfl rfl rfl rfl rfl rfl rfl ⟨rfl, rfl, rfl, rfl, rfl⟩ rfl rfl rfl rfl rfl (by kernel_rfl) Try.func3 (by kernel_rfl)
    (of_decide_eq_true (by kernel_rfl)) (by unfold Func.isWrapper; first | (rw [if_pos (by decide +kernel)]; kernel_rfl) | (rw [if_neg (by decide +kernel)]; exact ⟨rfl, rfl⟩))
    (fun os started H enc _ => lifted os started H enc)
theorem proved : Rows.MeterStepsSaid := over
end Go.Proofs.Ytfhcdhkdcegieaa.meterSteps
namespace Go.Proofs.Ytfhcdhkdcegieaa
theorem meterSteps_holds : Rows.MeterStepsSaid := meterSteps.proved
#print axioms meterSteps_holds
end Go.Proofs.Ytfhcdhkdcegieaa
