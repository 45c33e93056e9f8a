/-
  The contract of the library's Insert of one number ahead of a row, and of layer 5's listed.
-/
import Derived.Test.YtmjncdhahdpplaaLyH
import Derived.Laws.AppendOwn
import Derived.BigFrame
namespace Go.Proofs.Ytmjncdhahdpplaa
open Go.ChangeShapes Go.WideShapes Go.ChangeAt Go.RowKit
set_option linter.unusedVariables false
set_option maxRecDepth 100000
theorem infoI3 : ∃ i, Try.prog.info? 3 = some i ∧ i.zero = some (.int .i64 0) ∧ i.size = 1 ∧ i.bytes = 8 := by
  obtain ⟨i, hi, hzz⟩ := Option.map_eq_some_iff.1 int3
  simp only [Prod.mk.injEq] at hzz
  exact ⟨i, hi, hzz.1, hzz.2.1, hzz.2.2⟩
theorem under3 : Try.prog.underlying 3 = some (.int .i64) := by kernel_rfl
theorem wpList_append_run {P : Program} {w : World} {ops : Array Oper} {rest : List Oper} {o : Oper} {a : Act} {Q : Exit → Act → World → Prop} (hw : Region.wanted o (yielded ops a.tmps) = true) (s x : Operand) (t u : TypeId)
    (ho : o.op = .call { callee := .builtin .append, args := #[s, x], argTypes := #[t, u] }) (v1 v2 : Value) (hs : a.eval s = v1) (hx : a.eval x = v2) (v' : Value) (w' : World)
    (hrun : (Builtin.append_ #[t, u] o.type #[v1, v2]).run P w = .ok v' w') (h : wpList P ops Q rest (a.put o.dst v') w') : wpList P ops Q (o :: rest) a w := by
  refine BigFrame.wpList_want hw fun K hK => ?_
  unfold Oper.wp
  simp only [execOp, ho, resolve, invoke, builtin, Sem.run_bind, Sem.run_pure, Result.andThen_ok, List.map_toArray, List.map_cons, List.map_nil, hs, hx, hrun]
  exact hK _ _ h
/-- Noughts behind an empty part of a row that has no room for them: a new row. -/
theorem run_append_zeros (w : World) (b : Addr) (L : Nat) (hL : L ≤ 8) (h0 : 0 < L) : ∃ gc cs, (∀ ty, (Builtin.append_ #[22, 3] ty #[.slice (some b) 0 L, .int .i64 ((L : Int) + 1)]).run Try.prog w = .ok (.slice (some ⟨w.heap.size, 0, none⟩) (L + 1) gc) (w.drew.alloc (.cells cs 3))) ∧ L + 1 ≤ gc ∧ cs.size = gc ∧ ∀ i, i < gc → cs[i]? = some (.int .i64 0) := by
  obtain ⟨i, hi, hz, hs, hb⟩ := infoI3
  have hg := grownCap_ge w (L + 1) L 3
  refine ⟨grownCap w (L + 1) L 3, Builtin.zeroCells #[.int .i64 0] (L + 1) ++ Builtin.zeroCells #[.int .i64 0] (grownCap w (L + 1) L 3 - (L + 1)), ?_, hg, ?_, ?_⟩
  · intro ty
    have hn : ¬ ((L : Int) + 1 ≤ (L : Int)) := by omega
    have hw : IntKind.i64.wrap ((L : Int) + 1) = (L : Int) + 1 := IntWalk.i64_in _ ⟨by omega, by omega⟩
    have h1 : ¬ ((L : Int) + 1 < 0) := by omega
    have h2 : ¬ (281474976710656 < ((L : Int) + 1) * 8) := by omega
    have h3 : ((L : Int) + 1).toNat = L + 1 := by omega
    have h4 : ¬ (9223372036854775807 < max ((L : Int) + 1) 0) := by omega
    have h5 := growslice_fits (need := L + 1) (old := L) (bytes := 8) (by omega) (by omega)
    have h48 : ¬ (281474976710656 < Builtin.nextslicecap (L + 1) L * 8) := by omega
    simp [Builtin.append_, run_underlying Try.underlying22, run_underlying under3, sizeOf, typeInfo, zeroValue, hi, hz, hs, hb, Builtin.lenOf, hn, hw, h1, h2, h3, h4, h48, Question.forced, newRow, grownCap, asInt, asIntOf, Builtin.firstCells, loadCells, loadCellsFrom]
    rfl
  · rw [Array.size_append, size_zeroCells, size_zeroCells]
    simp
    omega
  · intro i hi
    rw [Array.getElem?_append, size_zeroCells]
    simp only [List.size_toArray, List.length_cons, List.length_nil, Nat.zero_add, Nat.mul_one]
    by_cases h : i < L + 1
    · rw [if_pos h]; simp [Builtin.zeroCells, h, Nat.mod_one]
    · have hh : i - (L + 1) < grownCap w (L + 1) L 3 - (L + 1) := by omega
      rw [if_neg h]; simp [Builtin.zeroCells, Nat.mod_one, hh]
theorem setCells_cell (b : Nat) (vs : List Value) : ∀ (o : Nat) (w : World) (i : Nat) (v : Value), i < vs.length → vs[i]? = some v → (∀ j, j < vs.length → (w.cell? ⟨b, o + j, none⟩).isSome = true) → (w.setCells b o vs).cell? ⟨b, o + i, none⟩ = some v := by
  induction vs with
  | nil => intro o w i v hi; simp at hi
  | cons u us ih =>
    intro o w i v hi hv hc
    have hc' : ∀ j, j < us.length → ((w.setCell ⟨b, o, none⟩ u).cell? ⟨b, o + 1 + j, none⟩).isSome = true := fun j hj => by
      rw [World.cell?_setCell_other _ _ _ _ (by simp)]
      have := hc (j + 1) (by simp; omega)
      rw [show o + (j + 1) = o + 1 + j by omega] at this
      exact this
    cases i with
    | zero =>
      simp only [List.getElem?_cons_zero, Option.some.injEq] at hv
      subst hv
      show ((w.setCell ⟨b, o, none⟩ u).setCells b (o + 1) us).cell? ⟨b, o, none⟩ = some u
      have hk : ∀ (vs : List Value) (o' : Nat) (w : World), o < o' → (w.setCells b o' vs).cell? ⟨b, o, none⟩ = w.cell? ⟨b, o, none⟩ := by
        intro vs
        induction vs with
        | nil => intro o' w h; rfl
        | cons x xs ih2 =>
          intro o' w h
          show ((w.setCell ⟨b, o', none⟩ x).setCells b (o' + 1) xs).cell? ⟨b, o, none⟩ = _
          rw [ih2 (o' + 1) _ (by omega), World.cell?_setCell_other _ _ _ _ (by simp)]
      rw [hk us (o + 1) _ (by omega)]
      exact World.cell?_setCell_same' _ _ _ (by simpa using hc 0 (by simp))
    | succ i =>
      show ((w.setCell ⟨b, o, none⟩ u).setCells b (o + 1) us).cell? ⟨b, o + (i + 1), none⟩ = some v
      rw [show o + (i + 1) = o + 1 + i by omega]
      exact ih (o + 1) _ i v (by simpa using hi) (by simpa using hv) hc'
set_option maxHeartbeats 2000000 in
theorem insert_any (l : List Int) (bs V : Nat) (w : World) (hl : l.length ≤ 8) (hrow : ∀ i, i < l.length → w.cell? ⟨bs, i, none⟩ = some (.int .i64 (gI l i))) (hV : w.cell? ⟨V, 0, none⟩ = some (.int .i64 1)) (hVl : V < w.heap.size) (hbs : bs < w.heap.size) :
    Calls Try.prog 66 #[.slice (some ⟨bs, 0, none⟩) l.length l.length, .int .i64 0, .slice (some ⟨V, 0, none⟩) 1 1] w fun e w' => (∃ a cap, e = .returned (.slice a (l.length + 1) cap) ∧ Row w.heap.size w' a (1 :: l)) ∧ Below w.heap.size w w' := by
  obtain ⟨i0, hi, hz, hs, hb⟩ := infoI3
  have addOff : ∀ (b o j : Nat), (⟨b, o, none⟩ : Addr).add j = ⟨b, o + j, none⟩ := add_off
  by_cases h0 : l.length = 0
  · have e : l = [] := List.eq_nil_of_length_eq_zero h0
    subst e
    have hr := fun ty => run_append_grow (P := Try.prog) w 22 ty 3 i0 (.int .i64 0) Try.underlying22 hi hz ⟨bs, 0, none⟩ 0 0 [] (by simp) (by simp) ⟨V, 0, none⟩ 1 1 [.int .i64 1] (by rw [hs]; rfl) (by
      intro j v hv
      cases j with
      | zero => simp at hv; subst hv; rw [addOff]; exact hV
      | succ j => simp at hv) (by omega) (by omega) (growslice_fits (by omega) (by rw [hb]; omega))
    have hc : (w.drew.alloc (.cells (([] : List Value).toArray ++ [Value.int .i64 1].toArray ++ Builtin.zeroCells (Value.int .i64 0).cells (grownCap w (0 + 1) 0 3 - (0 + 1))) 3)).cell? ⟨w.heap.size, 0, none⟩ = some (.int .i64 1) := cell_new0 w.drew _ 3 0 _ (by simp [Array.getElem?_append])
    have HC : Hid (∀ gc, (∃ a cap, Ending.returned (.slice (some ⟨w.heap.size, 0, none⟩) 1 gc) = .returned (.slice a (([] : List Int).length + 1) cap) ∧ Row w.heap.size (w.drew.alloc (.cells (([] : List Value).toArray ++ [Value.int .i64 1].toArray ++ Builtin.zeroCells (Value.int .i64 0).cells (grownCap w (0 + 1) 0 3 - (0 + 1))) 3)) a (1 :: [])) ∧ Below w.heap.size w (w.drew.alloc (.cells (([] : List Value).toArray ++ [Value.int .i64 1].toArray ++ Builtin.zeroCells (Value.int .i64 0).cells (grownCap w (0 + 1) 0 3 - (0 + 1))) 3))) := fun gc => ⟨⟨_, _, rfl, row_one (by simp) (Nat.le_refl _) hc⟩, ((Below.refl _ _).drew).alloc (Nat.le_refl _) _⟩
    simp only [List.length_nil]
    go_enter Try.func66, Try.ntmps66
    go_wp2
    go_ret
    exact HC.out _
  · obtain ⟨gc, cs, hrun, hgc, hcs, hz0⟩ := run_append_zeros w ⟨bs, 0, none⟩ l.length hl (by omega)
    obtain ⟨WA, eA⟩ : ∃ WA, w.drew.alloc (.cells cs 3) = WA := ⟨_, rfl⟩
    rw [eA] at hrun
    have BA : Below w.heap.size w WA := by rw [← eA]; exact ((Below.refl _ _).drew).alloc (Nat.le_refl _) _
    have sA : WA.heap.size = w.heap.size + 1 := by rw [← eA]; simp
    have cA : ∀ j, j < gc → WA.cell? ⟨w.heap.size, j, none⟩ = some (.int .i64 0) := fun j hj => by rw [← eA]; exact cell_new0 w.drew cs 3 j _ (hz0 j hj)
    have fA : ∀ j, WA.frozen? ⟨w.heap.size, j, none⟩ = false := fun j => by rw [← eA]; exact frozen_new w.drew cs 3 j
    have size3' : (Try.prog.info? 3).map (·.size) = some 1 := size3
    have hc1 := fun ty => run_copy_cells (P := Try.prog) WA 22 22 ty 3 w.heap.size 0 (l.length + 1) gc ⟨V, 0, none⟩ 1 1 [.int .i64 1] Try.underlying22 size3' (by simp) (by
      intro j v hv
      cases j with
      | zero => simp at hv; subst hv; rw [addOff]; exact (BA.cell (p := ⟨V, 0 + 0, none⟩) hVl).trans hV
      | succ j => simp at hv) (by intro j hj; simp at hj; subst hj; rw [cA _ (by omega)]; rfl) (by intro j hj; exact fA _) (by intro v hv; simp at hv; subst hv; rfl)
    obtain ⟨WB, eB⟩ : ∃ WB, WA.setCells w.heap.size 0 [.int .i64 1] = WB := ⟨_, rfl⟩
    rw [eB] at hc1
    have BB : Below w.heap.size WA WB := by rw [← eB]; exact (below_setCells w.heap.size (Nat.le_refl _) _ 0 _ (BelowS.refl _ _)).b
    have sB : WB.heap.size = w.heap.size + 1 := by rw [← eB, (setCells_block _ _ _ _).1, sA]
    have cB : ∀ j, j < gc → WB.cell? ⟨w.heap.size, j, none⟩ = some (.int .i64 (if j = 0 then 1 else 0)) := fun j hj => by
      rw [← eB]
      show (WA.setCell ⟨w.heap.size, 0, none⟩ (.int .i64 1)).cell? _ = _
      by_cases hj0 : j = 0
      · subst hj0; rw [if_pos rfl]; exact World.cell?_setCell_same' _ _ _ (by rw [cA 0 hj]; rfl)
      · rw [if_neg hj0, World.cell?_setCell_other _ _ _ _ (by simp)]; exact cA j hj
    have fB : ∀ j, WB.frozen? ⟨w.heap.size, j, none⟩ = false := fun j => by
      rw [← eB]
      show (WA.setCell ⟨w.heap.size, 0, none⟩ (.int .i64 1)).frozen? _ = _
      simpa using fA j
    have hml : (l.map (Value.int .i64)).length = l.length := by simp
    have hmv : ∀ j v, (l.map (Value.int .i64))[j]? = some v → j < l.length ∧ v = .int .i64 (gI l j) := by
      intro j v hv
      have hj : j < l.length := by
        rcases Nat.lt_or_ge j l.length with h' | h'
        · exact h'
        · simp [List.getElem?_eq_none h'] at hv
      refine ⟨hj, ?_⟩
      simp [hj] at hv
      simp [gI, hj, ← hv]
    have hc2 := fun ty => run_copy_cells (P := Try.prog) WB.drew 22 22 ty 3 w.heap.size 1 l.length (gc - 1) ⟨bs, 0, none⟩ l.length l.length (l.map (Value.int .i64)) Try.underlying22 size3' (by simp) (by
      intro j v hv
      obtain ⟨hj, rfl⟩ := hmv j v hv
      rw [addOff, Nat.zero_add]
      exact ((BA.trans BB).cell (p := ⟨bs, j, none⟩) hbs).trans (hrow j hj)) (by intro j hj; rw [hml] at hj; have := cB (1 + j) (by omega); show (WB.cell? _).isSome = true; rw [this]; rfl) (by intro j hj; exact fB _) (by intro v hv; obtain ⟨z, _, rfl⟩ := List.mem_map.1 hv; rfl)
    rw [hml] at hc2
    have FIN : Hid (∀ W, W = (WB.drew.setCells w.heap.size 1 (l.map (Value.int .i64))) → Row w.heap.size W (some ⟨w.heap.size, 0, none⟩) (1 :: l) ∧ Below w.heap.size w W) := by
      rintro W rfl
      refine ⟨⟨by simp; omega, Or.inr ⟨w.heap.size, 0, rfl, Nat.le_refl _, by rw [(setCells_block _ _ _ _).1]; show _ < WB.heap.size; omega, fun i hi => ?_⟩⟩, ?_⟩
      · rw [Nat.zero_add]
        cases i with
        | zero =>
          have hk : ∀ (vs : List Value) (o' : Nat) (w' : World), 0 < o' → (w'.setCells w.heap.size o' vs).cell? ⟨w.heap.size, 0, none⟩ = w'.cell? ⟨w.heap.size, 0, none⟩ := by
            intro vs
            induction vs with
            | nil => intro o' w' h; rfl
            | cons x xs ih2 =>
              intro o' w' h
              show ((w'.setCell ⟨w.heap.size, o', none⟩ x).setCells w.heap.size (o' + 1) xs).cell? ⟨w.heap.size, 0, none⟩ = _
              rw [ih2 (o' + 1) _ (by omega), World.cell?_setCell_other _ _ _ _ (by simp)]
          rw [hk _ _ _ (by omega)]
          have := cB 0 (by omega)
          rw [if_pos rfl] at this
          exact this
        | succ i =>
          have hil : i < l.length := by simpa using hi
          have := setCells_cell w.heap.size (l.map (Value.int .i64)) 1 WB.drew i (.int .i64 (gI l i)) (by simpa using hil) (by simp [gI, hil]) (fun j hj => by rw [hml] at hj; have := cB (1 + j) (by omega); show (WB.cell? _).isSome = true; rw [this]; rfl)
          rw [Nat.add_comm 1 i] at this
          rw [this]
          rfl
      · exact (below_setCells w.heap.size (Nat.le_refl _) _ 1 WB.drew ⟨(BA.trans BB).drew, by
          have : Fz w WB := by
            rw [← eB, ← eA]
            exact (Fz.alloc w.drew (.cells cs 3) rfl).trans (Fz.setCell _ _ _)
          exact this⟩).b
    obtain ⟨WC, eC⟩ : ∃ WC, WB.drew.setCells w.heap.size 1 (l.map (Value.int .i64)) = WC := ⟨_, rfl⟩
    rw [eC] at hc2
    have HF := hide (FIN.out WC eC.symm)
    obtain ⟨L, hL⟩ : ∃ L, l.length = L := ⟨_, rfl⟩
    rw [hL] at hrun hc1 hc2 hgc h0 hl ⊢
    clear FIN eC hmv hml fB cB BB sB eB fA cA sA BA eA hrow hz0 hL
    go_enter Try.func66, Try.ntmps66
    have HRUN := hide hrun
    clear hrun
    go_wp2_with (at_builtin; refine wpList_append_run (by rfl) (.tmp 34) (.tmp 39) 22 3 rfl _ _ rfl rfl _ _ (HRUN.out _) ?_)
    go_region
    all_goals
      go_wp2
      go_ret
      exact ⟨⟨_, _, rfl, HF.out.1⟩, HF.out.2⟩
end Go.Proofs.Ytmjncdhahdpplaa
