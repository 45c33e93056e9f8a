/-
  For all fuel and numbers of steps the statement MeterBound holds: no more steps are ever taken than may be, and once one is refused all are; no condition.
-/
import Derived.Test.YtfhcdhkdcegieaaMtE
import Derived.Test.YtfhcdhkdcegieaaMtF
import Derived.Test.YtfhcdhkdcegieaaOwnZ
namespace Go.Proofs.Ytfhcdhkdcegieaa.meterBound
open Go.ChangeShapes Go.WideShapes Go.ChangeAt Go.RowKit
set_option linter.unusedVariables false
set_option maxRecDepth 100000
set_option maxHeartbeats 4000000 in
theorem walk (f n : Int) (w : World) (hf : -9223372036854775808 ≤ f ∧ f ≤ 9223372036854775807) (hn : 0 ≤ n ∧ n ≤ 255) :
    Calls Try.prog 6 #[.int .i64 f, .int .u8 n] w fun e w' => e = .returned (.bool true) ∧ Below w.heap.size w w' := by
  have C0 := new7 (w := w) f 0 hf.2 (by omega)
  have p1 := pos_fit hf.2
  have HPF : Hid (0 < pos f → pos f = f) := fun h => by unfold pos at h ⊢; split <;> simp_all
  generalize pos f = F at *
  generalize pos 0 = R at *
  obtain ⟨N, rfl⟩ : ∃ N : Nat, n = (N : Int) := ⟨n.toNat, by omega⟩
  go_enter Try.func6, Try.ntmps6
  go_wp2_with fail
  refine C0.mono ?_
  clear C0
  rintro e w1 ⟨⟨b, rfl, hb, hm⟩, hb1⟩
  have HM := hide (And.intro hm hb1)
  have HBB := hide hb
  clear hm hb1 hb
  go_wp2
  go_loopg [6, 7, 8] N (fun g tk ov i wr => ∃ (k : Nat) (U : Int), g + k = N ∧ i = .int .i64 (k : Int) ∧ tk = .int .i64 U ∧ ov = .bool (decide ((k : Int) > U)) ∧ U ≤ (k : Int) ∧ ((k : Int) > U → U = F) ∧ Mt wr b F U R ∧ Below w.heap.size w wr)
  case atStart => exact ⟨0, 0, rfl, rfl, rfl, rfl, by omega, by omega, HM.out.1, HM.out.2⟩
  case round =>
    clear HM
    obtain ⟨k, U, hg, rfl, rfl, rfl, hUk, hov, hm, hbel⟩ := hrel
    have u0 := hm.u0
    have uF := hm.uF
    have hkN : k ≤ N := by omega
    by_cases hlt : k < N
    · have hltz : (k : Int) < (N : Int) := by omega
      have CS := step10 hm
      have HMR := hide (And.intro hm hbel)
      have HOV := hide hov
      clear hm hbel hov
      by_cases hU : U < F
      · have hke : U = (k : Int) := by
          have := HOV.out
          omega
        have hd : decide ((k : Int) > U) = false := by simp; omega
        rw [hd]
        have hd2 : Hid (decide (((k + 1 : Nat) : Int) > U + 1) = false) := by show _ = _; simp; omega
        have HUK := hide hke
        clear hd hke
        go_wp2_with fail
        refine CS.mono ?_
        clear CS
        intro e w4 hs
        obtain ⟨rfl, hm4, hb4⟩ := hs.yes HMR.out.1 hU HBB.out
        have H4 := hide (And.intro hm4 (HMR.out.2.trans hb4))
        clear hm4 hb4 hs HMR
        go_wp2
        go_roundg (N - (k + 1))
        case rel => exact ⟨k + 1, U + 1, by omega, by go_num, by go_num, by rw [hd2.out], by have := HUK.out; omega, fun h => by have := HUK.out; omega, H4.out.1, H4.out.2⟩
        case measure => omega
      · have hd2 : Hid (decide (((k + 1 : Nat) : Int) > U) = true) := by show _ = _; simp; omega
        go_wp2_with fail
        refine CS.mono ?_
        clear CS
        intro e w4 hs
        obtain ⟨rfl, hm4, hb4⟩ := hs.no HMR.out.1 (by omega) HBB.out
        have H4 := hide (And.intro hm4 (HMR.out.2.trans hb4))
        clear hm4 hb4 hs HMR
        go_wp2
        go_roundg (N - (k + 1))
        case rel => exact ⟨k + 1, U, by omega, by go_num, rfl, by rw [hd2.out], by omega, fun h => by omega, H4.out.1, H4.out.2⟩
        case measure => omega
    · have hke : k = N := by omega
      subst hke
      have CU := used11 hm
      have HX := hide hbel
      have HFF : Hid (U = 0 ∨ U ≤ f) := by
        by_cases h0 : U = 0
        · exact .inl h0
        · right
          have := HPF.out (by omega)
          omega
      have hFU : 0 ≤ F - U := by omega
      have hFUb : decide (F - U ≥ 0) = true := by simp; omega
      have HW : Hid (∀ W, Calls Try.prog 12 #[] W fun e w' => e = .returned (.bool true) ∧ Below W.heap.size W w') := fun W => works_any W
      clear hm hbel hov
      go_wp2_with fail
      refine CU.mono ?_
      clear CU
      rintro e w5 ⟨rfl, hb5⟩
      have H5 := hide (HX.out.trans (hb5.mono HX.out.size))
      have CW := HW.out w5
      clear hb5 HX HW
      by_cases h0 : U = 0
      · subst h0
        go_wp2_with fail
        refine CW.mono ?_
        rintro e w9 ⟨rfl, hb9⟩
        have HF := hide (H5.out.trans (hb9.mono H5.out.size))
        clear hb9 CW H5
        go_wp2
        go_ret
        exact ⟨rfl, HF.out⟩
      · have hUf : U ≤ f := by rcases HFF.out with h | h <;> omega
        have h0b : (U == 0) = false := by simp; omega
        have hUfb : decide (U ≤ f) = true := by simp; omega
        go_wp2_with fail
        refine CW.mono ?_
        rintro e w9 ⟨rfl, hb9⟩
        have HF := hide (H5.out.trans (hb9.mono H5.out.size))
        clear hb9 CW H5
        go_wp2
        go_ret
        exact ⟨rfl, HF.out⟩
set_option maxRecDepth 100000 in
theorem lifted (os : Os) (started : os.Started) (H : Type) (enc : TypeId × Value → H) :
    ReturnsInHanded {} Try.checked os 6 .any (Rows.meterBoundSpec.pre6 enc Try.prog Try.f6 Rows.meterBoundRow.domain false) (Rows.meterBoundSpec.post enc Try.prog Try.f6 false true false false) := by
  refine returnsInHanded_of_change_sized (C := Try.checked) own started (by kernel_rfl) Try.func6
    (ChangeSpec.witness6 (enc := enc) (C := Try.checked) false ⟨#[], #[.int .i64 0, .int .u8 0], []⟩ 8 (by kernel_rfl) (by kernel_rfl) (by kernel_rfl) (by kernel_rfl)) ?_
  intro W base args ds gs before hval0 hW _ hsz0 _
  have hsz : (DataW.weightsEach Try.prog (Try.f6.params.toList ++ Rows.meterBoundSpec.plain.varTypes Try.prog) (ds ++ gs)).all (· ≤ reachBytes) = true := hsz0
  clear hsz0
  have hval : ∀ (j : Nat) t v, Try.f6.params[j]? = some t → args[j]? = some v → Value.okWide Try.prog W .any base t v := hval0
  have hW' := hW
  obtain ⟨p, q, hA0, hV, rfl, hfz, hnd⟩ := hW
  have hA : DataW.TrodAll enc Try.prog W 0 (fun _ => true) true Try.f6.params.toList args.toList ds p := hA0
  rw [Try.params6] at hA hval hsz
  obtain ⟨v0, vs0, d0, ds0, p0, q0, hargs, rfl, rfl, h0, r0⟩ := trodAll_cons hA
  obtain ⟨v1, vs1, d1, ds1, p1, q1, rfl, rfl, rfl, h1, r1⟩ := trodAll_cons r0
  obtain ⟨rfl, rfl, rfl⟩ := trodAll_nil r1
  obtain rfl : args = #[v0, v1] := by cases args; simp_all
  obtain ⟨rfl, rfl⟩ := trodVars_none hV
  obtain ⟨x0, rfl, rfl, rfl, w0⟩ := open_int Try.underlying3 (hval 0 3 v0 rfl rfl) h0
  obtain ⟨x1, rfl, rfl, rfl, w1⟩ := open_int Try.underlying5 (hval 1 5 v1 rfl rfl) h1
  clear hA0 hval0
  refine (walk x0 x1 W (bounds_i64 w0) (bounds_u8 w1)).mono fun e W' ⟨he, bel⟩ => ?_
  subst he
  exact ⟨_, rfl, _, _, _, [], _, [], hW', trodAll_mk1 (shut_bool Try.underlying4 _), (trodAll_cons_mk (shut_int Try.underlying3 w0) (trodAll_cons_mk (shut_int Try.underlying5 w1) trodAll_mk0)), rfl, bel.frame _, fun h => by cases h⟩
theorem over : Rows.meterBoundRow.holds Try.pinned (OpenSpec.ofChange Rows.meterBoundSpec) :=
  OpenClaim.holds_of_wide 6 Try.f6 rfl rfl rfl rfl rfl rfl rfl ⟨rfl, rfl, rfl, rfl, rfl⟩ rfl rfl rfl rfl rfl (by kernel_rfl) Try.func6 (by kernel_rfl)
    (of_decide_eq_true (by kernel_rfl)) (by unfold Func.isWrapper; first | (rw [if_pos (by decide +kernel)]; kernel_rfl) | (rw [if_neg (by decide +kernel)]; exact ⟨rfl, rfl⟩))
    (fun os started H enc _ => lifted os started H enc)
theorem proved : Rows.MeterBoundSaid := over
end Go.Proofs.Ytfhcdhkdcegieaa.meterBound
namespace Go.Proofs.Ytfhcdhkdcegieaa
theorem meterBound_holds : Rows.MeterBoundSaid := meterBound.proved
#print axioms meterBound_holds
end Go.Proofs.Ytfhcdhkdcegieaa
