/-
  For all texts, arrays and numbers the statement CoreWords holds: which texts are names, which arrays can be written as they are, and which functions go cell by cell, is what the document says; no condition (the given row speaks of what a machine of 64 bits can hold).
-/
import Derived.Test.YtkgpoibnilgaeaaCoS
import Derived.Test.YtkgpoibnilgaeaaCoT
import Derived.Deep.RegionHeld3
import Derived.Deep.Cut
import Derived.Deep.CutRange
import Derived.ChangeMaps5
namespace Go.Proofs.Ytkgpoibnilgaeaa.coreWords
open Go.ChangeShapes Go.WideShapes Go.ChangeAt Go.RowKit
set_option linter.unusedVariables false
set_option linter.unusedSimpArgs false
set_option maxRecDepth 100000
set_option maxHeartbeats 4000000 in
theorem walk (s : ByteArray) (n : Nat) (x : Ar) (d0 d1 : Value) (op : Int) (w : World) (hx : ArIn n 0 w x (.agg #[d0, d1])) :
    Calls Try.prog 4 #[.string s, .agg #[d0, d1], .int .i64 op] w fun e w' => e = .returned (.bool true) ∧ Below w.heap.size w w' := by
  have HWT := hide (fun wr (hwr : Below w.heap.size w wr) => weight14 3000 (by omega) (by omega) (hx.next hwr))
  have HLP := hide (fun wr (hwr : Below w.heap.size w wr) => lit17 x _ wr (hx.next hwr))
  have HLD := hide (fun wr (hwr : Below w.heap.size w wr) => rlit18 x _ wr (hx.next hwr))
  cases n with
  | zero => exact hx.elim
  | succ n =>
  obtain ⟨a1, c1, a2, c2, hv, -⟩ := hx
  simp only [Value.agg.injEq, Array.mk.injEq, List.cons.injEq, and_true] at hv
  obtain ⟨rfl, rfl⟩ := hv
  generalize litB x = LB at *
  generalize x.shape.length = SA at *
  generalize x.cells.length = CA at *
  have hw0 := one_alloc w (.cells #[.slice a1 SA c1, .slice a2 CA c2] 25)
  have HQ : Hid (∀ W, Below (w.alloc (.cells #[.slice a1 SA c1, .slice a2 CA c2] 25)).heap.size (w.alloc (.cells #[.slice a1 SA c1, .slice a2 CA c2] 25)) W → Below w.heap.size w W ∧ W.cell? ⟨w.heap.size, 0, none⟩ = some (.slice a1 SA c1) ∧ W.cell? ⟨w.heap.size, 1, none⟩ = some (.slice a2 CA c2)) := fun W h => ⟨hw0.trans (h.mono hw0.size), (h.cell (p := ⟨w.heap.size, 0, none⟩) (by simp)).trans (cell_new0 w _ 25 0 _ rfl), (h.cell (p := ⟨w.heap.size, 1, none⟩) (by simp)).trans (cell_new0 w _ 25 1 _ rfl)⟩
  go_enter Try.func4, Try.ntmps4
  go_wp2_with fail
  refine (HWT.out _ hw0).mono ?_
  rintro e w1 ⟨⟨r, rfl, hr0, hr1⟩, hb1⟩
  have HQ1 := hide (HQ.out _ hb1)
  have HQ2 : Hid (∀ W, Below w1.heap.size w1 W → Below w1.heap.size w1 W ∧ W.cell? ⟨w.heap.size, 0, none⟩ = some (.slice a1 SA c1) ∧ W.cell? ⟨w.heap.size, 1, none⟩ = some (.slice a2 CA c2)) := fun W h => ⟨h, (HQ.out W (hb1.trans (h.mono hb1.size))).2⟩
  clear HWT hb1 hw0 HQ
  by_cases hr : 3000 < r
  · go_wp2_with fail
    refine (works9 _).mono ?_
    rintro e w2 ⟨rfl, hb2⟩
    go_wp2
    go_ret
    exact ⟨rfl, HQ1.out.1.trans (hb2.mono HQ1.out.1.size)⟩
  have HW1 := hide HQ1.out.1
  have KNP : Hid (∀ W, Below w1.heap.size w1 W → Calls Try.prog 15 #[.string s] W fun e w' => e = .returned (.bool (nameB s)) ∧ Below w1.heap.size w1 w') := fun W h => (name15 s W).mono fun e w' ⟨he, hb⟩ => ⟨he, h.trans (hb.mono h.size)⟩
  have KND : Hid (∀ W, Below w1.heap.size w1 W → Calls Try.prog 16 #[.string s] W fun e w' => e = .returned (.bool (nameB s)) ∧ Below w1.heap.size w1 w') := fun W h => (name16 s W).mono fun e w' ⟨he, hb⟩ => ⟨he, h.trans (hb.mono h.size)⟩
  have KLP : Hid (∀ W, Below w1.heap.size w1 W → Calls Try.prog 17 #[.agg #[.slice a1 SA c1, .slice a2 CA c2]] W fun e w' => e = .returned (.bool LB) ∧ Below w1.heap.size w1 w') := fun W h => (HLP.out W (HW1.out.trans (h.mono HW1.out.size))).mono fun e w' ⟨he, hb⟩ => ⟨he, h.trans (hb.mono h.size)⟩
  have KLD : Hid (∀ W, Below w1.heap.size w1 W → Calls Try.prog 18 #[.agg #[.slice a1 SA c1, .slice a2 CA c2]] W fun e w' => e = .returned (.bool LB) ∧ Below w1.heap.size w1 w') := fun W h => (HLD.out W (HW1.out.trans (h.mono HW1.out.size))).mono fun e w' ⟨he, hb⟩ => ⟨he, h.trans (hb.mono h.size)⟩
  have KSP : Hid (∀ W, Below w1.heap.size w1 W → Calls Try.prog 19 #[.int .i64 op] W fun e w' => e = .returned (.bool (frm op 21 32)) ∧ Below w1.heap.size w1 w') := fun W h => (scalar19 op W).mono fun e w' ⟨he, hb⟩ => ⟨he, h.trans (hb.mono h.size)⟩
  have KSD : Hid (∀ W, Below w1.heap.size w1 W → Calls Try.prog 20 #[.int .i64 op] W fun e w' => e = .returned (.bool (frm op 21 32)) ∧ Below w1.heap.size w1 w') := fun W h => (rscalar20 op W).mono fun e w' ⟨he, hb⟩ => ⟨he, h.trans (hb.mono h.size)⟩
  have KW : Hid (∀ W, Below w1.heap.size w1 W → Calls Try.prog 9 #[] W fun e w' => e = .returned (.bool true) ∧ Below w1.heap.size w1 w') := fun W h => (works9 W).mono fun e w' ⟨he, hb⟩ => ⟨he, h.trans (hb.mono h.size)⟩
  have HD0 : Hid (Below w1.heap.size w1 w1.drew) := (Below.refl _ _).drew
  generalize nameB s = NB at *
  generalize frm op 21 32 = FB at *
  clear HLP HLD HQ1 hr0 hr1
  have e1 : (NB == NB) = true := by simp
  have e2 : (LB == LB) = true := by simp
  have e3 : (FB == FB) = true := by simp
  go_upto_region 3 with fail
  go_region_held3 (fun W => Below w1.heap.size w1 W ∧ W.cell? ⟨w.heap.size, 0, none⟩ = some (.slice a1 SA c1) ∧ W.cell? ⟨w.heap.size, 1, none⟩ = some (.slice a2 CA c2)) (first | with_reducible exact HQ2.out _ HD0.out | with_reducible exact HQ2.out _ (by with_reducible assumption))
    (first | (go_at_call 15; refine (KNP.out _ (by first | exact HD0.out | with_reducible assumption)).mono ?_; rintro e w2 ⟨rfl, hb2⟩) | (go_at_call 16; refine (KND.out _ (by with_reducible assumption)).mono ?_; rintro e w3 ⟨rfl, hb3⟩) | (go_at_call 17; refine (KLP.out _ (by with_reducible assumption)).mono ?_; rintro e w4 ⟨rfl, hb4⟩) | (go_at_call 18; refine (KLD.out _ (by with_reducible assumption)).mono ?_; rintro e w5 ⟨rfl, hb5⟩) | (go_at_call 19; refine (KSP.out _ (by with_reducible assumption)).mono ?_; rintro e w6 ⟨rfl, hb6⟩) | (go_at_call 20; refine (KSD.out _ (by with_reducible assumption)).mono ?_; rintro e w7 ⟨rfl, hb7⟩) | (go_at_call 9; refine (KW.out _ (by with_reducible assumption)).mono ?_; rintro e w8 ⟨rfl, hb8⟩))
  all_goals
    go_wp2
    go_ret
    exact ⟨rfl, HW1.out.trans (Below.mono (by assumption) HW1.out.size)⟩
set_option maxRecDepth 100000 in
theorem lifted (os : Os) (started : os.Started) (H : Type) (enc : TypeId × Value → H) :
    ReturnsInHanded {} Try.checked os 4 .any (Rows.coreWordsSpec.pre6 enc Try.prog Try.f4 Rows.coreWordsRow.domain false) (Rows.coreWordsSpec.post enc Try.prog Try.f4 false true false false) := by
  refine returnsInHanded_of_change_sized (C := Try.checked) own started (by kernel_rfl) Try.func4
    (ChangeSpec.witness6 (enc := enc) (C := Try.checked) false ⟨#[], #[.string { data := #[] }, .agg #[.slice none 0 0, .slice none 0 0], .int .i64 0], []⟩ 8 (by kernel_rfl) (by kernel_rfl) (by kernel_rfl) (by kernel_rfl)) ?_
  intro W base args ds gs before hval0 hW _ hsz0 _
  have hsz : (DataW.weightsEach Try.prog (Try.f4.params.toList ++ Rows.coreWordsSpec.plain.varTypes Try.prog) (ds ++ gs)).all (· ≤ reachBytes) = true := hsz0
  clear hsz0
  have hval : ∀ (j : Nat) t v, Try.f4.params[j]? = some t → args[j]? = some v → Value.okWide Try.prog W .any base t v := hval0
  have hW' := hW
  obtain ⟨p, q, hA0, hV, rfl, hfz, hnd⟩ := hW
  have hA : DataW.TrodAll enc Try.prog W 0 (fun _ => true) true Try.f4.params.toList args.toList ds p := hA0
  rw [Try.params4] at hA hval hsz
  obtain ⟨v0, vs0, d0, ds0, p0, q0, hargs, rfl, rfl, h0, r0⟩ := trodAll_cons hA
  obtain ⟨v1, vs1, d1, ds1, p1, q1, rfl, rfl, rfl, h1, r1⟩ := trodAll_cons r0
  obtain ⟨v2, vs2, d2, ds2, p2, q2, rfl, rfl, rfl, h2, r2⟩ := trodAll_cons r1
  obtain ⟨rfl, rfl, rfl⟩ := trodAll_nil r2
  obtain rfl : args = #[v0, v1, v2] := by cases args; simp_all
  obtain ⟨rfl, rfl⟩ := trodVars_none hV
  obtain ⟨s0, rfl, rfl, rfl, w0⟩ := ChangeMaps.open_string Try.underlying9 (hval 0 9 v0 rfl rfl) h0
  have k1 := h1
  have lt1 : ∀ x ∈ p1, x.block < W.heap.size := by obtain ⟨m, hm⟩ := k1; exact DataW.trod_lt m _ _ _ hm
  obtain ⟨n1, y1, c10, c11, hc1, w1⟩ := arr_of hsz (j := 1) rfl rfl h1
  obtain rfl := agg_two hc1
  obtain ⟨x2, rfl, rfl, rfl, w2⟩ := open_int Try.underlying3 (hval 2 3 v2 rfl rfl) h2
  clear hA0 hval0
  refine (walk s0 n1 y1 c10 c11 x2 W w1.1).mono fun e W' ⟨he, bel⟩ => ?_
  subst he
  exact ⟨_, rfl, _, _, _, [], _, [], hW', trodAll_mk1 (shut_bool Try.underlying4 _), (trodAll_cons_mk (ChangeMaps.shut_string Try.underlying9 w0) (trodAll_cons_mk (Below.trod laidOut (by kernel_rfl) (of_decide_eq_true (by kernel_rfl)) k1 bel lt1) (trodAll_cons_mk (shut_int Try.underlying3 w2) trodAll_mk0))), rfl, bel.frame _, fun h => by cases h⟩
theorem over : Rows.coreWordsRow.holds Try.pinned (OpenSpec.ofChange Rows.coreWordsSpec) :=
  OpenClaim.holds_of_wide 4 Try.f4 rfl rfl rfl rfl rfl rfl rfl ⟨rfl, rfl, rfl, rfl, rfl⟩ rfl rfl rfl rfl rfl (by kernel_rfl) Try.func4 (by kernel_rfl)
    (of_decide_eq_true (by kernel_rfl)) (by unfold Func.isWrapper; first | (rw [if_pos (by decide +kernel)]; kernel_rfl) | (rw [if_neg (by decide +kernel)]; exact ⟨rfl, rfl⟩))
    (fun os started H enc _ => lifted os started H enc)
theorem proved : Rows.CoreWordsSaid := over
end Go.Proofs.Ytkgpoibnilgaeaa.coreWords
namespace Go.Proofs.Ytkgpoibnilgaeaa
theorem coreWords_holds : Rows.CoreWordsSaid := coreWords.proved
#print axioms coreWords_holds
end Go.Proofs.Ytkgpoibnilgaeaa
