/-
  For all int64 a and b the statement NumRests holds: what Res of layer 1 leaves has the sign of a, is below it in size and leaves itself; no condition.
-/
import Derived.Test.YtmaddmbiddiebaaRows
import Derived.WalkKit
import Derived.ProofKit
import Derived.OpenShut
import Derived.ChangeOld
import Derived.Below
import Derived.Test.YtmaddmbiddiebaaOwnH
namespace Go.Proofs.Ytmaddmbiddiebaa.numRests
open Go.ChangeShapes Go.WideShapes Go.ChangeAt Go.RowKit
set_option linter.unusedVariables false
theorem own : ownKnob Try.prog.godebug = none := by kernel_rfl
theorem laidOut : laidOutB Try.prog = true := by kernel_rfl
theorem in64 {a : Int} (h : (Lit.int .i64 a).wf = true) : In64 a := by
  have := bounds_i64 h
  constructor <;> omega
theorem rest_facts (a b : Int) (h : a ≠ 0) : (b.fmod a ≠ 0 → (b.fmod a < 0 ↔ a < 0)) ∧ (0 < a → b.fmod a < a) ∧ (a < 0 → a < b.fmod a) ∧ (b.fmod a).fmod a = b.fmod a := by
  obtain ⟨f1, f2, f3⟩ := mod_facts a b h
  refine ⟨?_, ?_, ?_, Int.fmod_fmod b a⟩
  all_goals
    rw [f3]
    split <;> omega
theorem rest_in {a b : Int} (ha : In64 a) (hb : In64 b) : In64 (b.fmod a) := by
  by_cases h : a = 0
  · subst h; rw [Int.fmod_zero]; exact hb
  · obtain ⟨f1, f2, f3, f4⟩ := rest_facts a b h
    obtain ⟨h1, h2⟩ := ha
    constructor <;> omega
set_option maxHeartbeats 1000000 in
theorem walk (a b : Int) (w : World) (w0 : (Lit.int .i64 a).wf = true) (w1 : (Lit.int .i64 b).wf = true) :
    Calls Try.prog 8 #[.int .i64 a, .int .i64 b] w fun e w' => e = .returned (.bool true) ∧ Below w.heap.size w w' := by
  have ha := in64 w0
  have hb := in64 w1
  clear w0 w1
  by_cases h0 : a = 0
  · subst h0
    have C := fun w => res_any 0 b ha w
    rw [Int.fmod_zero] at C
    go_enter Try.func8, Try.ntmps8
    go_wp2_with (first | (go_at_call 16; refine (C _).mono ?_; rintro e w' ⟨rfl, hw⟩; rw [hw]) | (go_at_call 13; refine (works_any _).mono ?_; rintro e w3 ⟨rfl, hb3⟩))
    go_ret
    exact ⟨rfl, hb3⟩
  · obtain ⟨f1, f2, f3, f4⟩ := rest_facts a b h0
    have t0 : (a == 0) = false := by simpa using h0
    obtain ⟨r, hr⟩ : ∃ r, b.fmod a = r := ⟨_, rfl⟩
    rw [hr] at f1 f2 f3 f4
    by_cases hrb : r = b
    · subst hrb
      clear hr
      have t1 : (r == r) = true := by simp
      by_cases hz : r = 0
      · subst hz
        rcases (show a < 0 ∨ 0 < a by omega) with hn | hn
        all_goals
          clear f1 f2 f3 h0
          go_enter Try.func8, Try.ntmps8
          go_wp2_with (first | (go_at_call 16; refine (res_any _ _ ha _).mono ?_; rintro e w' ⟨rfl, hw⟩; rw [hw, f4]) | (go_at_call 13; refine (works_any _).mono ?_; rintro e w3 ⟨rfl, hb3⟩))
          go_ret
          exact ⟨rfl, hb3⟩
      · have g1 := f1 hz
        have tz : (r == 0) = false := by simpa using hz
        clear f1
        rcases (show a < 0 ∨ 0 < a by omega) with hn | hn
        · have g2 : r < 0 := g1.2 hn
          have g3 : a < r := f3 hn
          clear g1 f2 f3 h0
          go_enter Try.func8, Try.ntmps8
          go_wp2_with (first | (go_at_call 16; refine (res_any _ _ ha _).mono ?_; rintro e w' ⟨rfl, hw⟩; rw [hw, f4]) | (go_at_call 13; refine (works_any _).mono ?_; rintro e w3 ⟨rfl, hb3⟩))
          go_ret
          exact ⟨rfl, hb3⟩
        · have g2 : 0 < r := by
            have : ¬ r < 0 := fun h => absurd (g1.1 h) (by omega)
            omega
          have g3 : r < a := f2 (by omega)
          clear g1 f2 f3 h0
          go_enter Try.func8, Try.ntmps8
          go_wp2_with (first | (go_at_call 16; refine (res_any _ _ ha _).mono ?_; rintro e w' ⟨rfl, hw⟩; rw [hw, f4]) | (go_at_call 13; refine (works_any _).mono ?_; rintro e w3 ⟨rfl, hb3⟩))
          go_ret
          exact ⟨rfl, hb3⟩
    · have t1 : (r == b) = false := by simpa using hrb
      clear hrb
      by_cases hz : r = 0
      · subst hz
        rcases (show a < 0 ∨ 0 < a by omega) with hn | hn
        all_goals
          clear f1 f2 f3 h0
          go_enter Try.func8, Try.ntmps8
          go_wp2_with (first | (go_at_call 16; refine (res_any _ _ ha _).mono ?_; rintro e w' ⟨rfl, hw⟩; first | rw [hw, hr] | rw [hw, f4]) | (go_at_call 17; refine (rres_any _ _ ha _).mono ?_; rintro e w' ⟨rfl, hw⟩; rw [hw, hr]) | (go_at_call 13; refine (works_any _).mono ?_; rintro e w3 ⟨rfl, hb3⟩))
          go_ret
          exact ⟨rfl, hb3⟩
      · have g1 := f1 hz
        have tz : (r == 0) = false := by simpa using hz
        clear f1
        rcases (show a < 0 ∨ 0 < a by omega) with hn | hn
        · have g2 : r < 0 := g1.2 hn
          have g3 : a < r := f3 hn
          clear g1 f2 f3 h0
          go_enter Try.func8, Try.ntmps8
          go_wp2_with (first | (go_at_call 16; refine (res_any _ _ ha _).mono ?_; rintro e w' ⟨rfl, hw⟩; first | rw [hw, hr] | rw [hw, f4]) | (go_at_call 17; refine (rres_any _ _ ha _).mono ?_; rintro e w' ⟨rfl, hw⟩; rw [hw, hr]) | (go_at_call 13; refine (works_any _).mono ?_; rintro e w3 ⟨rfl, hb3⟩))
          go_ret
          exact ⟨rfl, hb3⟩
        · have g2 : 0 < r := by
            have : ¬ r < 0 := fun h => absurd (g1.1 h) (by omega)
            omega
          have g3 : r < a := f2 (by omega)
          clear g1 f2 f3 h0
          go_enter Try.func8, Try.ntmps8
          go_wp2_with (first | (go_at_call 16; refine (res_any _ _ ha _).mono ?_; rintro e w' ⟨rfl, hw⟩; first | rw [hw, hr] | rw [hw, f4]) | (go_at_call 17; refine (rres_any _ _ ha _).mono ?_; rintro e w' ⟨rfl, hw⟩; rw [hw, hr]) | (go_at_call 13; refine (works_any _).mono ?_; rintro e w3 ⟨rfl, hb3⟩))
          go_ret
          exact ⟨rfl, hb3⟩
set_option maxRecDepth 100000 in
theorem lifted (os : Os) (started : os.Started) (H : Type) (enc : TypeId × Value → H) :
    ReturnsInHanded {} Try.checked os 8 .any (Rows.numRestsSpec.pre6 enc Try.prog Try.f8 Rows.numRestsRow.domain false) (Rows.numRestsSpec.post enc Try.prog Try.f8 false true false false) := by
  refine returnsInHanded_of_change (C := Try.checked) own started (by kernel_rfl) Try.func8
    (ChangeSpec.witness6 (enc := enc) (C := Try.checked) false ⟨#[], #[.int .i64 0, .int .i64 0], []⟩ 8 (by kernel_rfl) (by kernel_rfl) (by kernel_rfl) (by kernel_rfl)) ?_
  intro W base args ds gs before hval0 hW hcnd _
  have hval : ∀ (j : Nat) t v, Try.f8.params[j]? = some t → args[j]? = some v → Value.okWide Try.prog W .any base t v := hval0
  have hW' := hW
  obtain ⟨p, q, hA0, hV, rfl, hfz, hnd⟩ := hW
  have hA : DataW.TrodAll enc Try.prog W 0 (fun _ => true) true Try.f8.params.toList args.toList ds p := hA0
  rw [Try.params8] at hA hval
  obtain ⟨v0, vs0, d0, ds0, p0, q0, hargs, rfl, rfl, h0, r0⟩ := trodAll_cons hA
  obtain ⟨v1, vs1, d1, ds1, p1, q1, rfl, rfl, rfl, h1, r1⟩ := trodAll_cons r0
  obtain ⟨rfl, rfl, rfl⟩ := trodAll_nil r1
  obtain rfl : args = #[v0, v1] := by cases args; simp_all
  obtain ⟨rfl, rfl⟩ := trodVars_none hV
  obtain ⟨a0, rfl, rfl, rfl, w0⟩ := open_int Try.underlying2 (hval 0 2 v0 rfl rfl) h0
  obtain ⟨a1, rfl, rfl, rfl, w1⟩ := open_int Try.underlying2 (hval 1 2 v1 rfl rfl) h1
  clear hA0 hval0
  refine (walk a0 a1 W w0 w1).mono fun e W' ⟨he, bel⟩ => ?_
  subst he
  exact ⟨_, rfl, _, _, _, [], _, [], hW', trodAll_mk1 (shut_bool Try.underlying4 _), (trodAll_cons_mk (shut_int Try.underlying2 w0) (trodAll_cons_mk (shut_int Try.underlying2 w1) trodAll_mk0)), rfl, bel.frame _, fun h => by cases h⟩
theorem over : Rows.numRestsRow.holds Try.pinned (OpenSpec.ofChange Rows.numRestsSpec) :=
  OpenClaim.holds_of_wide 8 Try.f8 rfl rfl rfl rfl rfl rfl rfl ⟨rfl, rfl, rfl, rfl, rfl⟩ rfl rfl rfl rfl rfl (by kernel_rfl) Try.func8 (by kernel_rfl)
    (of_decide_eq_true (by kernel_rfl)) (by unfold Func.isWrapper; first | (rw [if_pos (by decide +kernel)]; kernel_rfl) | (rw [if_neg (by decide +kernel)]; exact ⟨rfl, rfl⟩))
    (fun os started H enc _ => lifted os started H enc)
theorem proved : Rows.NumRestsSaid := over
end Go.Proofs.Ytmaddmbiddiebaa.numRests
namespace Go.Proofs.Ytmaddmbiddiebaa
theorem numRests_holds : Rows.NumRestsSaid := numRests.proved
#print axioms numRests_holds
end Go.Proofs.Ytmaddmbiddiebaa
