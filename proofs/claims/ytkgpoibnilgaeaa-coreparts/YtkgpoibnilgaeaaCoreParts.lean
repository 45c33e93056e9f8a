/-
  For all programs the statement CoreParts holds: an argument of a function's call in a program that may be is such a program, too; no condition (the given row speaks of what a machine of 64 bits can hold).
-/
import Derived.Test.YtkgpoibnilgaeaaCoS
import Derived.Test.YtkgpoibnilgaeaaCoT
import Derived.Deep.RegionHeld3
import Derived.Deep.Cut
import Derived.Deep.CutRange
import Derived.ChangeMaps5
namespace Go.Proofs.Ytkgpoibnilgaeaa.coreParts
open Go.ChangeShapes Go.WideShapes Go.ChangeAt Go.RowKit
set_option linter.unusedVariables false
set_option linter.unusedSimpArgs false
set_option maxRecDepth 100000
theorem part_ok {m : Nat} {x : Nd} (h : errN (m + 1) x = 0) (hk : x.kind = 5 ∨ x.kind = 6) (i : Nat) (h1 : 1 ≤ i) (h2 : i < x.kids.length) : errN m (nAt x.kids i) = 0 := by
  have hg : gdB (m + 1) x = true := by
    unfold errN at h
    split at h
    · assumption
    · omega
  have hgk : gdB m (nAt x.kids i) = true := by
    simp only [gdB, Bool.and_eq_true, decide_eq_true_eq] at hg ⊢
    obtain ⟨⟨hs, hd⟩, he⟩ := hg
    have s1 := size_kid (m := m) h2
    have d1 := maxUp_at (f := fun i => 1 + deepN m (nAt x.kids i)) h2
    have d2 : deepN (m + 1) x = maxUp (fun i => 1 + deepN m (nAt x.kids i)) x.kids.length := rfl
    refine ⟨⟨by omega, by omega⟩, ?_⟩
    simp only [exprN] at he
    rcases hk with hk | hk
    · rw [if_neg (by omega), if_neg (by omega), if_neg (by omega), if_pos hk] at he
      simp only [Bool.and_eq_true] at he
      have := bare2 he.1.1
      have hi : i = 1 := by omega
      subst hi
      exact he.2
    · rw [if_neg (by omega), if_neg (by omega), if_neg (by omega), if_neg (by omega), if_pos hk] at he
      simp only [Bool.and_eq_true] at he
      have := bare3 he.1.1.1
      have hi : i = 1 ∨ i = 2 := by omega
      rcases hi with rfl | rfl
      · exact he.1.2
      · exact he.2
  unfold errN
  rw [if_pos hgk]
set_option maxHeartbeats 4000000 in
theorem walk (m n : Nat) (x : Nd) (v0 v1 v2 v3 v4 v5 v6 : Value) (w : World) (hx : NdIn m n 0 w x (.agg #[v0, v1, v2, v3, v4, v5, v6])) :
    Calls Try.prog 6 #[.agg #[v0, v1, v2, v3, v4, v5, v6]] w fun e w' => e = .returned (.bool true) ∧ Below w.heap.size w w' := by
  have hxx := hx
  obtain ⟨m', hm', a1, c1, a2, c2, ak, ck, hv, hA, hl, hs, hK⟩ := hx.letters
  simp only [Value.agg.injEq, Array.mk.injEq, List.cons.injEq, and_true] at hv
  obtain ⟨rfl, rfl, rfl, rfl, rfl, rfl, rfl⟩ := hv
  have X0 := hide (box7_new w x.kind x.op x.name (.slice a1 x.lit.shape.length c1) (.slice a2 x.lit.cells.length c2) (.slice ak x.kids.length ck) x.pos)
  have hw0 := X0.out.1
  subst hm'
  have HLI := hide (fun wr (hwr : Below w.heap.size w wr) => light8 (hxx.next hwr))
  have HCD := hide (fun (hsz : sizeN (m' + 1) x ≤ 3000) wr (hwr : Below w.heap.size w wr) => rcheck11 (m' + 1) n x 0 _ wr (hxx.next hwr) (by omega))
  have HOKP : Hid (errN (m' + 1) x = 0 → (x.kind = 5 ∨ x.kind = 6) → ∀ i, 1 ≤ i → i < x.kids.length → errN m' (nAt x.kids i) = 0) := fun h hk i h1 h2 => part_ok h hk i h1 h2
  have HKS : Hid (∀ j, j < x.kids.length → ∃ b off K O S A1 L1 C1 A2 L2 C2 AK LK CK P, ak = some ⟨b, off, none⟩ ∧ ∀ wr, Below w.heap.size w wr → (wr.cell? ⟨b, off + j * 7, none⟩ = some (.int .i64 K) ∧ wr.cell? ⟨b, off + j * 7 + 1, none⟩ = some (.int .i64 O) ∧ wr.cell? ⟨b, off + j * 7 + 2, none⟩ = some (.string S) ∧ wr.cell? ⟨b, off + j * 7 + 3, none⟩ = some (.slice A1 L1 C1) ∧ wr.cell? ⟨b, off + j * 7 + 4, none⟩ = some (.slice A2 L2 C2) ∧ wr.cell? ⟨b, off + j * 7 + 5, none⟩ = some (.slice AK LK CK) ∧ wr.cell? ⟨b, off + j * 7 + 6, none⟩ = some (.int .i64 P)) ∧
      Calls Try.prog 10 #[.agg #[.int .i64 K, .int .i64 O, .string S, .slice A1 L1 C1, .slice A2 L2 C2, .slice AK LK CK, .int .i64 P]] wr fun e w' => e = .returned (.int .i64 (errN m' (nAt x.kids j))) ∧ Below wr.heap.size wr w') := by
    intro j hj
    obtain ⟨b, off, K, O, S, A1, L1, C1, A2, L2, C2, AK, LK, CK, P, ha, hb, hw⟩ := kid_cells hK hj
    exact ⟨b, off, K, O, S, A1, L1, C1, A2, L2, C2, AK, LK, CK, P, ha, fun wr hwr => ⟨(hw wr hwr).1, check10 m' n _ 0 _ wr (hw wr hwr).2⟩⟩
  clear hxx hA hK hx
  unfold GivesL at HLI
  generalize hSM : (sizeN (m' + 1) x ≤ 3000) = SM at *
  generalize errN (m' + 1) x = ER at *
  generalize hEK : (fun i => errN m' (nAt x.kids i)) = EK at *
  have HEK : Hid (∀ j, errN m' (nAt x.kids j) = EK j) := fun j => by rw [← hEK]
  clear hSM hEK
  generalize x.kids.length = LK at *
  generalize x.kind = K at *
  generalize x.op = O at *
  generalize x.name = S at *
  generalize x.pos = P at *
  generalize x.lit.shape.length = L1 at *
  generalize x.lit.cells.length = L2 at *
  by_cases hEr : ER = 0
  · by_cases hk : K = 5 ∨ K = 6
    · subst hEr
      have HALL : Hid (∀ i, 1 ≤ i → i < LK → EK i = 0) := fun i h1 h2 => by rw [← HEK.out i]; exact HOKP.out rfl hk i h1 h2
      clear HOKP
      rcases hk with rfl | rfl
      · go_enter Try.func6, Try.ntmps6
        go_wp2_with fail
        refine (HLI.out _ hw0).mono ?_
        rintro e w1 ⟨ok, rfl, hok, hb1⟩
        have X1 := hide (X0.out.next hb1)
        have HOK := hide hok
        clear hb1 hok HLI
        obtain ⟨hw1, -, q0, q1, q2, q3, q4, q5, q6⟩ := X1.out
        cases ok
        · go_wp2_with fail
          refine (works9 _).mono ?_
          rintro e w2 ⟨rfl, hb2⟩
          go_wp2
          all_goals go_ret
          all_goals exact ⟨rfl, X1.out.1.trans (hb2.mono X1.out.1.size)⟩
        have HCD' := hide (HCD.out (HOK.out (by first | rfl | trivial)))
        go_wp2_with fail
        refine (HCD'.out _ hw1).mono ?_
        rintro e w2 ⟨rfl, hb2⟩
        have X2 := hide (X1.out.next hb2)
        clear hb2 HCD HCD' HOK q0 q1 q2 q3 q4 q5 q6
        obtain ⟨hw2, -, q0, q1, q2, q3, q4, q5, q6⟩ := X2.out
        go_wp2
        go_loopg [3] (LK + 1) (fun g i wr => ∃ (j : Nat), g + j = LK + 2 ∧ 1 ≤ j ∧ i = .int .i64 (j : Int) ∧ Box7 w w.heap.size 5 O S (.slice a1 L1 c1) (.slice a2 L2 c2) (.slice ak LK ck) P wr ∧ j ≤ 1256584717422)
        case atStart =>
          refine ⟨1, ?_, by omega, rfl, X2.out, by omega⟩
          omega
        case round =>
          clear q0 q1 q2 q3 q4 q5 q6 hw2 X2 X1 X0 hw1 hw0
          obtain ⟨j, hj, hj1, rfl, hX, hjb⟩ := hrel
          have HX := hide hX
          obtain ⟨hnx, -, q0, q1, q2, q3, q4, q5, q6⟩ := hX
          clear q0 q1 q2 q3 q4 q6
          by_cases hlt : j < LK
          · obtain ⟨b, off, K', O', S', A1, L1', C1, A2, L2', C2, AK, LK', CK, P', rfl, hw⟩ := HKS.out j hlt
            obtain ⟨⟨g0, g1, g2, g3, g4, g5, g6⟩, C⟩ := hw _ hnx
            rw [HEK.out j, HALL.out j hj1 hlt] at C
            have HC := hide C
            clear C hw HKS HALL HEK
            go_wp2_with fail
            refine HC.out.mono ?_
            rintro e w4 ⟨rfl, hb4⟩
            clear HC
            go_wp2
            go_roundg (LK + 2 - (j + 1))
            case rel => exact ⟨j + 1, by omega, by omega, by go_num, HX.out.next hb4, by omega⟩
            case measure => omega
          · clear HKS HALL HEK
            go_wp2_with fail
            refine (works9 _).mono ?_
            rintro e w4 ⟨rfl, hb4⟩
            go_wp2
            go_ret
            exact ⟨rfl, HX.out.1.trans (hb4.mono HX.out.1.size)⟩
      · go_enter Try.func6, Try.ntmps6
        go_wp2_with fail
        refine (HLI.out _ hw0).mono ?_
        rintro e w1 ⟨ok, rfl, hok, hb1⟩
        have X1 := hide (X0.out.next hb1)
        have HOK := hide hok
        clear hb1 hok HLI
        obtain ⟨hw1, -, q0, q1, q2, q3, q4, q5, q6⟩ := X1.out
        cases ok
        · go_wp2_with fail
          refine (works9 _).mono ?_
          rintro e w2 ⟨rfl, hb2⟩
          go_wp2
          all_goals go_ret
          all_goals exact ⟨rfl, X1.out.1.trans (hb2.mono X1.out.1.size)⟩
        have HCD' := hide (HCD.out (HOK.out (by first | rfl | trivial)))
        go_wp2_with fail
        refine (HCD'.out _ hw1).mono ?_
        rintro e w2 ⟨rfl, hb2⟩
        have X2 := hide (X1.out.next hb2)
        clear hb2 HCD HCD' HOK q0 q1 q2 q3 q4 q5 q6
        obtain ⟨hw2, -, q0, q1, q2, q3, q4, q5, q6⟩ := X2.out
        go_wp2
        go_loopg [3] (LK + 1) (fun g i wr => ∃ (j : Nat), g + j = LK + 2 ∧ 1 ≤ j ∧ i = .int .i64 (j : Int) ∧ Box7 w w.heap.size 6 O S (.slice a1 L1 c1) (.slice a2 L2 c2) (.slice ak LK ck) P wr ∧ j ≤ 1256584717422)
        case atStart =>
          refine ⟨1, ?_, by omega, rfl, X2.out, by omega⟩
          omega
        case round =>
          clear q0 q1 q2 q3 q4 q5 q6 hw2 X2 X1 X0 hw1 hw0
          obtain ⟨j, hj, hj1, rfl, hX, hjb⟩ := hrel
          have HX := hide hX
          obtain ⟨hnx, -, q0, q1, q2, q3, q4, q5, q6⟩ := hX
          clear q0 q1 q2 q3 q4 q6
          by_cases hlt : j < LK
          · obtain ⟨b, off, K', O', S', A1, L1', C1, A2, L2', C2, AK, LK', CK, P', rfl, hw⟩ := HKS.out j hlt
            obtain ⟨⟨g0, g1, g2, g3, g4, g5, g6⟩, C⟩ := hw _ hnx
            rw [HEK.out j, HALL.out j hj1 hlt] at C
            have HC := hide C
            clear C hw HKS HALL HEK
            go_wp2_with fail
            refine HC.out.mono ?_
            rintro e w4 ⟨rfl, hb4⟩
            clear HC
            go_wp2
            go_roundg (LK + 2 - (j + 1))
            case rel => exact ⟨j + 1, by omega, by omega, by go_num, HX.out.next hb4, by omega⟩
            case measure => omega
          · clear HKS HALL HEK
            go_wp2_with fail
            refine (works9 _).mono ?_
            rintro e w4 ⟨rfl, hb4⟩
            go_wp2
            go_ret
            exact ⟨rfl, HX.out.1.trans (hb4.mono HX.out.1.size)⟩
    · have k5 : ¬ K = 5 := fun h => hk (Or.inl h)
      have k6 : ¬ K = 6 := fun h => hk (Or.inr h)
      have k5' : (K == 5) = false := beq_eq_false_iff_ne.2 k5
      have k6' : (K == 6) = false := beq_eq_false_iff_ne.2 k6
      have k5'' : (K != 5) = true := by simp [k5]
      have k6'' : (K != 6) = true := by simp [k6]
      clear hk HOKP
      subst hEr
      go_enter Try.func6, Try.ntmps6
      go_wp2_with fail
      refine (HLI.out _ hw0).mono ?_
      rintro e w1 ⟨ok, rfl, hok, hb1⟩
      have X1 := hide (X0.out.next hb1)
      have HOK := hide hok
      clear hb1 hok HLI
      obtain ⟨hw1, -, q0, q1, q2, q3, q4, q5, q6⟩ := X1.out
      cases ok
      · go_wp2_with fail
        refine (works9 _).mono ?_
        rintro e w2 ⟨rfl, hb2⟩
        go_wp2
        all_goals go_ret
        all_goals exact ⟨rfl, X1.out.1.trans (hb2.mono X1.out.1.size)⟩
      have HCD' := hide (HCD.out (HOK.out (by first | rfl | trivial)))
      go_wp2_with fail
      refine (HCD'.out _ hw1).mono ?_
      rintro e w2 ⟨rfl, hb2⟩
      have X2 := hide (X1.out.next hb2)
      clear hb2 HCD HCD' HOK q0 q1 q2 q3 q4 q5 q6
      obtain ⟨hw2, -, q0, q1, q2, q3, q4, q5, q6⟩ := X2.out
      go_wp2_with fail
      all_goals refine (works9 _).mono ?_
      all_goals rintro e w3 ⟨rfl, hb3⟩
      all_goals go_wp2
      all_goals go_ret
      all_goals exact ⟨rfl, X2.out.1.trans (hb3.mono X2.out.1.size)⟩
  · have hEr' : (ER == 0) = false := beq_eq_false_iff_ne.2 hEr
    have hEr'' : (ER != 0) = true := by simp [hEr]
    go_enter Try.func6, Try.ntmps6
    go_wp2_with fail
    refine (HLI.out _ hw0).mono ?_
    rintro e w1 ⟨ok, rfl, hok, hb1⟩
    have X1 := hide (X0.out.next hb1)
    have HOK := hide hok
    clear hb1 hok HLI
    obtain ⟨hw1, -, q0, q1, q2, q3, q4, q5, q6⟩ := X1.out
    cases ok
    · go_wp2_with fail
      refine (works9 _).mono ?_
      rintro e w2 ⟨rfl, hb2⟩
      go_wp2
      all_goals go_ret
      all_goals exact ⟨rfl, X1.out.1.trans (hb2.mono X1.out.1.size)⟩
    have HCD' := hide (HCD.out (HOK.out (by first | rfl | trivial)))
    go_wp2_with fail
    refine (HCD'.out _ hw1).mono ?_
    rintro e w2 ⟨rfl, hb2⟩
    have X2 := hide (X1.out.next hb2)
    clear hb2 HCD HCD' HOK q0 q1 q2 q3 q4 q5 q6
    obtain ⟨hw2, -, q0, q1, q2, q3, q4, q5, q6⟩ := X2.out
    go_wp2_with fail
    all_goals refine (works9 _).mono ?_
    all_goals rintro e w3 ⟨rfl, hb3⟩
    all_goals go_wp2
    all_goals go_ret
    all_goals exact ⟨rfl, X2.out.1.trans (hb3.mono X2.out.1.size)⟩
set_option maxRecDepth 100000 in
theorem lifted (os : Os) (started : os.Started) (H : Type) (enc : TypeId × Value → H) :
    ReturnsInHanded {} Try.checked os 6 .any (Rows.corePartsSpec.pre6 enc Try.prog Try.f6 Rows.corePartsRow.domain false) (Rows.corePartsSpec.post enc Try.prog Try.f6 false true false false) := by
  refine returnsInHanded_of_change_sized (C := Try.checked) own started (by kernel_rfl) Try.func6
    (ChangeSpec.witness6 (enc := enc) (C := Try.checked) false ⟨#[], #[.agg #[.int .i64 0, .int .i64 0, .string { data := #[] }, .slice none 0 0, .slice none 0 0, .slice none 0 0, .int .i64 0]], []⟩ 8 (by kernel_rfl) (by kernel_rfl) (by kernel_rfl) (by kernel_rfl)) ?_
  intro W base args ds gs before hval0 hW _ hsz0 _
  have hsz : (DataW.weightsEach Try.prog (Try.f6.params.toList ++ Rows.corePartsSpec.plain.varTypes Try.prog) (ds ++ gs)).all (· ≤ reachBytes) = true := hsz0
  clear hsz0
  have hval : ∀ (j : Nat) t v, Try.f6.params[j]? = some t → args[j]? = some v → Value.okWide Try.prog W .any base t v := hval0
  have hW' := hW
  obtain ⟨p, q, hA0, hV, rfl, hfz, hnd⟩ := hW
  have hA : DataW.TrodAll enc Try.prog W 0 (fun _ => true) true Try.f6.params.toList args.toList ds p := hA0
  rw [Try.params6] at hA hval hsz
  obtain ⟨v0, vs0, d0, ds0, p0, q0, hargs, rfl, rfl, h0, r0⟩ := trodAll_cons hA
  obtain ⟨rfl, rfl, rfl⟩ := trodAll_nil r0
  obtain rfl : args = #[v0] := by cases args; simp_all
  obtain ⟨rfl, rfl⟩ := trodVars_none hV
  have k0 := h0
  have lt0 : ∀ x ∈ p0, x.block < W.heap.size := by obtain ⟨m, hm⟩ := k0; exact DataW.trod_lt m _ _ _ hm
  obtain ⟨m0, n0, y0, c00, c01, c02, c03, c04, c05, c06, hc0, w0⟩ := node_of hsz (j := 0) rfl rfl h0
  obtain rfl := agg_seven hc0
  clear hA0 hval0
  refine (walk m0 n0 y0 c00 c01 c02 c03 c04 c05 c06 W w0).mono fun e W' ⟨he, bel⟩ => ?_
  subst he
  exact ⟨_, rfl, _, _, _, [], _, [], hW', trodAll_mk1 (shut_bool Try.underlying4 _), (trodAll_cons_mk (Below.trod laidOut (by kernel_rfl) (of_decide_eq_true (by kernel_rfl)) k0 bel lt0) trodAll_mk0), rfl, bel.frame _, fun h => by cases h⟩
theorem over : Rows.corePartsRow.holds Try.pinned (OpenSpec.ofChange Rows.corePartsSpec) :=
  OpenClaim.holds_of_wide 6 Try.f6 rfl rfl rfl rfl rfl rfl rfl ⟨rfl, rfl, rfl, rfl, rfl⟩ rfl rfl rfl rfl rfl (by kernel_rfl) Try.func6 (by kernel_rfl)
    (of_decide_eq_true (by kernel_rfl)) (by unfold Func.isWrapper; first | (rw [if_pos (by decide +kernel)]; kernel_rfl) | (rw [if_neg (by decide +kernel)]; exact ⟨rfl, rfl⟩))
    (fun os started H enc _ => lifted os started H enc)
theorem proved : Rows.CorePartsSaid := over
end Go.Proofs.Ytkgpoibnilgaeaa.coreParts
namespace Go.Proofs.Ytkgpoibnilgaeaa
theorem coreParts_holds : Rows.CorePartsSaid := coreParts.proved
#print axioms coreParts_holds
end Go.Proofs.Ytkgpoibnilgaeaa
