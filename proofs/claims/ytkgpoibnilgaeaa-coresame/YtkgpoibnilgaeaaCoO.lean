/-
  The program's walk: expressions, and Check: it answers as the document's; for all programs.
-/
import Derived.Test.YtkgpoibnilgaeaaCoN
import Derived.Laws.Cover3
namespace Go.Proofs.Ytkgpoibnilgaeaa
open Go.ChangeShapes Go.WideShapes Go.ChangeAt Go.RowKit Go.Maps
set_option linter.unusedVariables false
set_option linter.unusedSimpArgs false
/-- A boxed node while the walk's counter and a map turn. -/
def BwT (w0 w : World) (T : Nat → Prop) (B : Nat) (K O : Int) (S : ByteArray) (s1 s2 sk : Value) (P : Int) (wr : World) : Prop :=
  But T w wr ∧ Below w0.heap.size w0 wr ∧ B < wr.heap.size ∧ wr.cell? ⟨B, 0, none⟩ = some (.int .i64 K) ∧ wr.cell? ⟨B, 1, none⟩ = some (.int .i64 O) ∧ wr.cell? ⟨B, 2, none⟩ = some (.string S) ∧ wr.cell? ⟨B, 3, none⟩ = some s1 ∧ wr.cell? ⟨B, 4, none⟩ = some s2 ∧ wr.cell? ⟨B, 5, none⟩ = some sk ∧ wr.cell? ⟨B, 6, none⟩ = some (.int .i64 P)
theorem bwT_new {w0 w : World} {T : Nat → Prop} (hw : Below w0.heap.size w0 w) (K O : Int) (S : ByteArray) (s1 s2 sk : Value) (P : Int) : BwT w0 w T w.heap.size K O S s1 s2 sk P (w.alloc (.cells #[.int .i64 K, .int .i64 O, .string S, s1, s2, sk, .int .i64 P] 28)) := by
  obtain ⟨h, hs, r⟩ := box7_new w K O S s1 s2 sk P
  exact ⟨But.of h, hw.trans (h.mono hw.size), hs, r⟩
theorem BwT.next {w0 w : World} {T T' : Nat → Prop} {B : Nat} {K O : Int} {S : ByteArray} {s1 s2 sk : Value} {P : Int} {wr w' : World} (h : BwT w0 w T B K O S s1 s2 sk P wr) (hb : But T' wr w') (hT : ∀ k, T' k → T k) (hp : (∀ k, T k → w0.heap.size ≤ k) ∧ ¬ T B ∧ w0.heap.size ≤ w.heap.size) : BwT w0 w T B K O S s1 s2 sk P w' := by
  obtain ⟨h0, h1, hs, q0, q1, q2, q3, q4, q5, q6⟩ := h
  have hc : ∀ i, w'.cell? ⟨B, i, none⟩ = wr.cell? ⟨B, i, none⟩ := fun i => hb.cell (p := ⟨B, i, none⟩) hs (fun h => hp.2.1 (hT _ h))
  refine ⟨h0.trans hb (fun _ _ h => hT _ h), h1.trans (hb.below h1.size (fun k hk => hp.1 k (hT k hk))), Nat.lt_of_lt_of_le hs hb.size, ?_, ?_, ?_, ?_, ?_, ?_, ?_⟩
  all_goals (rw [hc]; assumption)
theorem eql_map (w : World) (m : Option Nat) : (binOp .eql 66 (.map m) (.map none)).run Try.prog w = .ok (.bool m.isNone) w := by
  simp only [binOp]
  simp [run_equal_map_nil w 66 3 3 m Try.underlying66]
theorem eql_none (w : World) : (binOp .eql 66 (.map none) (.map none)).run Try.prog w = .ok (.bool true) w := eql_map w none
theorem eql_some (w : World) (r : Nat) : (binOp .eql 66 (.map (some r)) (.map none)).run Try.prog w = .ok (.bool false) w := eql_map w (some r)
theorem MrS.next {mr : Option Nat} {B B' c3 c4 : Int} {w w' : World} {T : Nat → Prop} (h : MrS mr B c3 c4 w) (hb : But T w w') (hT : ∀ r, mr = some r → ¬ T r) (hB : B ≤ B') : MrS mr B' c3 c4 w' := fun r hr => (h r hr).kept (hb.block (h r hr).lt (hT r hr)) hB
theorem But.grown {T : Nat → Prop} {w w' : World} {r : Nat} (hg : w.grownBy w' (some r)) (hT : T r) : But T w w' := ⟨hg.os, hg.tape, hg.output, hg.size, fun k hk hn => hg.block k hk (fun e => by injection e with e; exact hn (e ▸ hT))⟩

set_option maxHeartbeats 8000000 in
theorem exE_step (m : Nat) (IH : ExE m) : ExE (m + 1) := by
  intro n x lo va w0 w p c d mr c3 c4 hx hw hp hmr hct hM hc0 hc hd0 hd
  have hxx := hx
  obtain ⟨m', hm', a1, c1, a2, c2, ak, ck, rfl, hA, hl, hs, hK⟩ := hx.letters
  obtain rfl : m = m' := by omega
  have hpl := hct.lt
  have X0 := hide (bwT_new (T := fun k => k = p ∨ mr = some k) hw x.kind x.op x.name (.slice a1 x.lit.shape.length c1) (.slice a2 x.lit.cells.length c2) (.slice ak x.kids.length ck) x.pos)
  have hct0 : Ctr (w.alloc (.cells #[.int .i64 x.kind, .int .i64 x.op, .string x.name, .slice a1 x.lit.shape.length c1, .slice a2 x.lit.cells.length c2, .slice ak x.kids.length ck, .int .i64 x.pos] 28)) p c := hct.next (one_alloc _ _)
  have hw0 := X0.out.2.1
  have HP : Hid ((∀ k, (k = p ∨ mr = some k) → w0.heap.size ≤ k) ∧ ¬ (w.heap.size = p ∨ mr = some w.heap.size) ∧ w0.heap.size ≤ w.heap.size) := ⟨fun k h => h.elim (fun e => e ▸ hp) (fun e => (hmr k e).1), (fun h => h.elim (fun e => by omega) (fun e => by have := (hM _ e).lt; omega)), hw.size⟩
  have HNP : Hid (∀ r, mr = some r → ¬ r = p) := fun r h => (hmr r h).2
  have HEN : Hid (∀ wr, Ctr wr p c → Calls Try.prog 48 #[.pointer (some ⟨p, 0, none⟩), .agg #[.int .i64 x.kind, .int .i64 x.op, .string x.name, .slice a1 x.lit.shape.length c1, .slice a2 x.lit.cells.length c2, .slice ak x.kids.length ck, .int .i64 x.pos], .int .i64 d] wr fun e w' => e = .returned (.bool (entX c d x)) ∧ But (· = p) wr w' ∧ Ctr w' p (c + 1)) := fun wr h => enter48 _ _ _ _ _ _ _ _ _ _ _ _ _ c d p wr h hc0 hc
  have HM0 : Hid (MrS mr c c3 c4 (w.alloc (.cells #[.int .i64 x.kind, .int .i64 x.op, .string x.name, .slice a1 x.lit.shape.length c1, .slice a2 x.lit.cells.length c2, .slice ak x.kids.length ck, .int .i64 x.pos] 28))) := hM.next (But.of (T := fun _ => False) (one_alloc _ _)) (fun _ _ h => h) (Int.le_refl _)
  have HLT := hide (fun wr (hwr : Below w0.heap.size w0 wr) => lit17 x.lit _ wr (hA.next hwr))
  have HNM := hide (fun wr (hwr : Below w0.heap.size w0 wr) => name15 x.name wr)
  by_cases h1 : x.kind = 1
  · have HG := hide (gd0 (m := m) (c := c) (d := d) (ent_lit h1) (show exprN (m + 1) mr.isSome x = (bareB x 0 false false true && litB x.lit) by simp only [exprN]; rw [if_pos h1]))
    have HCE : Hid (entX c d x = true → c + (sizeN (m + 1) x : Int) = c + 1) := fun h => by rw [size0 (ent_len (k := 0) h (ent_lit h1))]; rfl
    have HN3 : Hid (c3 + (cntN (m + 1) 3 x : Int) = c3) := by show _ = _; unfold cntN; rw [if_neg (by omega), if_neg (by omega), if_neg (by omega)]; omega
    have HN4 : Hid (c4 + (cntN (m + 1) 4 x : Int) = c4) := by show _ = _; unfold cntN; rw [if_neg (by omega), if_neg (by omega), if_neg (by omega)]; omega
    generalize c3 + (cntN (m + 1) 3 x : Int) = N3 at *
    generalize c4 + (cntN (m + 1) 4 x : Int) = N4 at *
    generalize litB x.lit = FR at *
    generalize Gd (exprN (m + 1) mr.isSome x) c d (m + 1) x = GD at *
    generalize c + (sizeN (m + 1) x : Int) = CE at *
    generalize entX c d x = EN at *
    clear HNM
    clear hxx hA hK hct hw hx hpl hM
    generalize x.kids.length = LK at *
    generalize x.kind = K at *
    generalize x.op = O at *
    generalize x.name = S at *
    generalize x.pos = P at *
    generalize x.lit.shape.length = L1 at *
    generalize x.lit.cells.length = L2 at *
    subst h1
    cases EN
    · go_enter Try.func32, Try.ntmps32
      go_wp2_with fail
      refine (HEN.out _ hct0).mono ?_
      rintro e w1 ⟨rfl, hbt1, hct1⟩
      have X1 := hide (X0.out.next hbt1 (fun _ h => Or.inl h) HP.out)
      have HM1 := hide (HM0.out.next hbt1 HNP.out (show c ≤ c + 1 by omega))
      clear hbt1
      obtain ⟨-, hw1, -, q0, q1, q2, q3, q4, q5, q6⟩ := X1.out
      go_wp2
      all_goals go_ret
      all_goals exact ⟨false, retB (by first | rfl | simp_all), ⟨(fun h => by cases h), fun h => (HG.out.1 h).1⟩, X1.out.1, (fun h => by cases h)⟩
    · have HCE' := hide (HCE.out rfl)
      cases FR
      · go_enter Try.func32, Try.ntmps32
        go_wp2_with fail
        refine (HEN.out _ hct0).mono ?_
        rintro e w1 ⟨rfl, hbt1, hct1⟩
        have X1 := hide (X0.out.next hbt1 (fun _ h => Or.inl h) HP.out)
        have HM1 := hide (HM0.out.next hbt1 HNP.out (show c ≤ c + 1 by omega))
        clear hbt1
        obtain ⟨-, hw1, -, q0, q1, q2, q3, q4, q5, q6⟩ := X1.out
        go_wp2_with fail
        refine (HLT.out _ hw1).mono ?_
        rintro e w2 ⟨rfl, hb2⟩
        have hct2 := hct1.next hb2
        have X2 := hide (X1.out.next (But.of (T := fun _ => False) hb2) (fun _ h => h.elim) HP.out)
        have HM2 := hide (HM1.out.next (But.of (T := fun _ => False) hb2) (fun _ _ h => h) (Int.le_refl _))
        clear hb2 q0 q1 q2 q3 q4 q5 q6
        obtain ⟨-, hw2, -, q0, q1, q2, q3, q4, q5, q6⟩ := X2.out
        go_wp2
        all_goals go_ret
        all_goals exact ⟨false, retB (by first | rfl | simp_all), ⟨(fun h => by cases h), fun h => (HG.out.1 h).2⟩, X2.out.1, (fun h => by cases h)⟩
      · go_enter Try.func32, Try.ntmps32
        go_wp2_with fail
        refine (HEN.out _ hct0).mono ?_
        rintro e w1 ⟨rfl, hbt1, hct1⟩
        have X1 := hide (X0.out.next hbt1 (fun _ h => Or.inl h) HP.out)
        have HM1 := hide (HM0.out.next hbt1 HNP.out (show c ≤ c + 1 by omega))
        clear hbt1
        obtain ⟨-, hw1, -, q0, q1, q2, q3, q4, q5, q6⟩ := X1.out
        go_wp2_with fail
        refine (HLT.out _ hw1).mono ?_
        rintro e w2 ⟨rfl, hb2⟩
        have hct2 := hct1.next hb2
        have X2 := hide (X1.out.next (But.of (T := fun _ => False) hb2) (fun _ h => h.elim) HP.out)
        have HM2 := hide (HM1.out.next (But.of (T := fun _ => False) hb2) (fun _ _ h => h) (Int.le_refl _))
        clear hb2 q0 q1 q2 q3 q4 q5 q6
        obtain ⟨-, hw2, -, q0, q1, q2, q3, q4, q5, q6⟩ := X2.out
        go_wp2
        all_goals go_ret
        all_goals exact ⟨true, retB (by first | rfl | simp_all), ⟨fun _ => HG.out.2 ⟨(by first | rfl | trivial), (by first | rfl | trivial)⟩, fun _ => rfl⟩, X2.out.1, fun _ => by rw [HCE'.out, HN3.out, HN4.out]; exact ⟨hct2, HM2.out⟩⟩
  by_cases h2 : x.kind = 2
  · have HG := hide (gd0 (m := m) (c := c) (d := d) (ent_var h2) (show exprN (m + 1) mr.isSome x = (bareB x 0 false true false && nameB x.name) by simp only [exprN]; rw [if_neg h1, if_pos h2]))
    have HCE : Hid (entX c d x = true → c + (sizeN (m + 1) x : Int) = c + 1) := fun h => by rw [size0 (ent_len (k := 0) h (ent_var h2))]; rfl
    have HN3 : Hid (c3 + (cntN (m + 1) 3 x : Int) = c3) := by show _ = _; unfold cntN; rw [if_neg (by omega), if_neg (by omega), if_neg (by omega)]; omega
    have HN4 : Hid (c4 + (cntN (m + 1) 4 x : Int) = c4) := by show _ = _; unfold cntN; rw [if_neg (by omega), if_neg (by omega), if_neg (by omega)]; omega
    generalize c3 + (cntN (m + 1) 3 x : Int) = N3 at *
    generalize c4 + (cntN (m + 1) 4 x : Int) = N4 at *
    generalize nameB x.name = FR at *
    generalize Gd (exprN (m + 1) mr.isSome x) c d (m + 1) x = GD at *
    generalize c + (sizeN (m + 1) x : Int) = CE at *
    generalize entX c d x = EN at *
    clear HLT h1
    clear hxx hA hK hct hw hx hpl hM
    generalize x.kids.length = LK at *
    generalize x.kind = K at *
    generalize x.op = O at *
    generalize x.name = S at *
    generalize x.pos = P at *
    generalize x.lit.shape.length = L1 at *
    generalize x.lit.cells.length = L2 at *
    subst h2
    cases EN
    · go_enter Try.func32, Try.ntmps32
      go_wp2_with fail
      refine (HEN.out _ hct0).mono ?_
      rintro e w1 ⟨rfl, hbt1, hct1⟩
      have X1 := hide (X0.out.next hbt1 (fun _ h => Or.inl h) HP.out)
      have HM1 := hide (HM0.out.next hbt1 HNP.out (show c ≤ c + 1 by omega))
      clear hbt1
      obtain ⟨-, hw1, -, q0, q1, q2, q3, q4, q5, q6⟩ := X1.out
      go_wp2
      all_goals go_ret
      all_goals exact ⟨false, retB (by first | rfl | simp_all), ⟨(fun h => by cases h), fun h => (HG.out.1 h).1⟩, X1.out.1, (fun h => by cases h)⟩
    · have HCE' := hide (HCE.out rfl)
      cases FR
      · go_enter Try.func32, Try.ntmps32
        go_wp2_with fail
        refine (HEN.out _ hct0).mono ?_
        rintro e w1 ⟨rfl, hbt1, hct1⟩
        have X1 := hide (X0.out.next hbt1 (fun _ h => Or.inl h) HP.out)
        have HM1 := hide (HM0.out.next hbt1 HNP.out (show c ≤ c + 1 by omega))
        clear hbt1
        obtain ⟨-, hw1, -, q0, q1, q2, q3, q4, q5, q6⟩ := X1.out
        go_wp2_with fail
        refine (HNM.out _ hw1).mono ?_
        rintro e w2 ⟨rfl, hb2⟩
        have hct2 := hct1.next hb2
        have X2 := hide (X1.out.next (But.of (T := fun _ => False) hb2) (fun _ h => h.elim) HP.out)
        have HM2 := hide (HM1.out.next (But.of (T := fun _ => False) hb2) (fun _ _ h => h) (Int.le_refl _))
        clear hb2 q0 q1 q2 q3 q4 q5 q6
        obtain ⟨-, hw2, -, q0, q1, q2, q3, q4, q5, q6⟩ := X2.out
        go_wp2
        all_goals go_ret
        all_goals exact ⟨false, retB (by first | rfl | simp_all), ⟨(fun h => by cases h), fun h => (HG.out.1 h).2⟩, X2.out.1, (fun h => by cases h)⟩
      · go_enter Try.func32, Try.ntmps32
        go_wp2_with fail
        refine (HEN.out _ hct0).mono ?_
        rintro e w1 ⟨rfl, hbt1, hct1⟩
        have X1 := hide (X0.out.next hbt1 (fun _ h => Or.inl h) HP.out)
        have HM1 := hide (HM0.out.next hbt1 HNP.out (show c ≤ c + 1 by omega))
        clear hbt1
        obtain ⟨-, hw1, -, q0, q1, q2, q3, q4, q5, q6⟩ := X1.out
        go_wp2_with fail
        refine (HNM.out _ hw1).mono ?_
        rintro e w2 ⟨rfl, hb2⟩
        have hct2 := hct1.next hb2
        have X2 := hide (X1.out.next (But.of (T := fun _ => False) hb2) (fun _ h => h.elim) HP.out)
        have HM2 := hide (HM1.out.next (But.of (T := fun _ => False) hb2) (fun _ _ h => h) (Int.le_refl _))
        clear hb2 q0 q1 q2 q3 q4 q5 q6
        obtain ⟨-, hw2, -, q0, q1, q2, q3, q4, q5, q6⟩ := X2.out
        go_wp2
        all_goals go_ret
        all_goals exact ⟨true, retB (by first | rfl | simp_all), ⟨fun _ => HG.out.2 ⟨(by first | rfl | trivial), (by first | rfl | trivial)⟩, fun _ => rfl⟩, X2.out.1, fun _ => by rw [HCE'.out, HN3.out, HN4.out]; exact ⟨hct2, HM2.out⟩⟩
  clear HLT HNM
  by_cases h34 : x.kind = 3 ∨ x.kind = 4
  · have HG := hide (gd0 (m := m) (c := c) (d := d) (ent_arg h34) (show exprN (m + 1) mr.isSome x = (bareB x 0 false false false && mr.isSome) by simp only [exprN]; rw [if_neg h1, if_neg h2, if_pos h34]; exact Bool.and_comm _ _))
    have HCE : Hid (entX c d x = true → c + (sizeN (m + 1) x : Int) = c + 1) := fun h => by rw [size0 (ent_len (k := 0) h (ent_arg h34))]; rfl
    have HN : Hid ((x.kind = 3 → c3 + (cntN (m + 1) 3 x : Int) = c3 + 1 ∧ c4 + (cntN (m + 1) 4 x : Int) = c4) ∧ (x.kind = 4 → c3 + (cntN (m + 1) 3 x : Int) = c3 ∧ c4 + (cntN (m + 1) 4 x : Int) = c4 + 1)) := by
      constructor
      · intro h
        simp only [cntN, h]
        exact ⟨by simp, by simp⟩
      · intro h
        simp only [cntN, h]
        exact ⟨by simp, by simp⟩
    generalize c3 + (cntN (m + 1) 3 x : Int) = N3 at *
    generalize c4 + (cntN (m + 1) 4 x : Int) = N4 at *
    generalize Gd (exprN (m + 1) mr.isSome x) c d (m + 1) x = GD at *
    generalize c + (sizeN (m + 1) x : Int) = CE at *
    generalize entX c d x = EN at *
    have HK3 := hide h34
    clear h1 h2 h34
    clear hxx hA hK hct hw hx hpl hM
    generalize x.kids.length = LK at *
    generalize x.kind = K at *
    generalize x.op = O at *
    generalize x.name = S at *
    generalize x.pos = P at *
    generalize x.lit.shape.length = L1 at *
    generalize x.lit.cells.length = L2 at *
    cases EN
    · rcases HK3.out with rfl | rfl
      · go_enter Try.func32, Try.ntmps32
        go_wp2_with fail
        refine (HEN.out _ hct0).mono ?_
        rintro e w1 ⟨rfl, hbt1, hct1⟩
        have X1 := hide (X0.out.next hbt1 (fun _ h => Or.inl h) HP.out)
        have HM1 := hide (HM0.out.next hbt1 HNP.out (show c ≤ c + 1 by omega))
        clear hbt1
        obtain ⟨-, hw1, -, q0, q1, q2, q3, q4, q5, q6⟩ := X1.out
        go_wp2
        all_goals go_ret
        all_goals exact ⟨false, retB (by first | rfl | simp_all), ⟨(fun h => by cases h), fun h => (HG.out.1 h).1⟩, X1.out.1, (fun h => by cases h)⟩
      · go_enter Try.func32, Try.ntmps32
        go_wp2_with fail
        refine (HEN.out _ hct0).mono ?_
        rintro e w1 ⟨rfl, hbt1, hct1⟩
        have X1 := hide (X0.out.next hbt1 (fun _ h => Or.inl h) HP.out)
        have HM1 := hide (HM0.out.next hbt1 HNP.out (show c ≤ c + 1 by omega))
        clear hbt1
        obtain ⟨-, hw1, -, q0, q1, q2, q3, q4, q5, q6⟩ := X1.out
        go_wp2
        all_goals go_ret
        all_goals exact ⟨false, retB (by first | rfl | simp_all), ⟨(fun h => by cases h), fun h => (HG.out.1 h).1⟩, X1.out.1, (fun h => by cases h)⟩
    · have HCE' := hide (HCE.out rfl)
      have en := @eql_none
      have es := @eql_some
      cases mr with
      | none =>
        rcases HK3.out with rfl | rfl
        · go_enter Try.func32, Try.ntmps32
          go_wp2_with fail
          refine (HEN.out _ hct0).mono ?_
          rintro e w1 ⟨rfl, hbt1, hct1⟩
          have X1 := hide (X0.out.next hbt1 (fun _ h => Or.inl h) HP.out)
          have HM1 := hide (HM0.out.next hbt1 HNP.out (show c ≤ c + 1 by omega))
          clear hbt1
          obtain ⟨-, hw1, -, q0, q1, q2, q3, q4, q5, q6⟩ := X1.out
          go_wp2
          all_goals go_ret
          all_goals exact ⟨false, retB (by first | rfl | simp_all), ⟨(fun h => by cases h), fun h => (HG.out.1 h).2⟩, X1.out.1, (fun h => by cases h)⟩
        · go_enter Try.func32, Try.ntmps32
          go_wp2_with fail
          refine (HEN.out _ hct0).mono ?_
          rintro e w1 ⟨rfl, hbt1, hct1⟩
          have X1 := hide (X0.out.next hbt1 (fun _ h => Or.inl h) HP.out)
          have HM1 := hide (HM0.out.next hbt1 HNP.out (show c ≤ c + 1 by omega))
          clear hbt1
          obtain ⟨-, hw1, -, q0, q1, q2, q3, q4, q5, q6⟩ := X1.out
          go_wp2
          all_goals go_ret
          all_goals exact ⟨false, retB (by first | rfl | simp_all), ⟨(fun h => by cases h), fun h => (HG.out.1 h).2⟩, X1.out.1, (fun h => by cases h)⟩
      | some r =>
        rcases HK3.out with rfl | rfl
        · obtain ⟨hN3, hN4⟩ := HN.out.1 rfl
          go_enter Try.func32, Try.ntmps32
          go_wp2_with fail
          refine (HEN.out _ hct0).mono ?_
          rintro e w1 ⟨rfl, hbt1, hct1⟩
          have X1 := hide (X0.out.next hbt1 (fun _ h => Or.inl h) HP.out)
          have HM1 := hide (HM0.out.next hbt1 HNP.out (Int.le_refl _))
          clear hbt1
          obtain ⟨-, hw1, -, q0, q1, q2, q3, q4, q5, q6⟩ := X1.out
          have hm1 := HM1.out r rfl
          obtain ⟨l3, l4⟩ := hm1.look
          obtain ⟨kk, D, hown, him, hkk, hd3, hd4, b1, b2, b3, b4⟩ := hm1
          have HD3 := hide hd3
          have HD4 := hide hd4
          have HIM := hide him
          clear hd3 hd4 him
          have hwr1 : IntKind.i64.wrap (c3 + 1) = c3 + 1 := IntWalk.i64_in _ ⟨by omega, by omega⟩
          have hwr2 : IntKind.i64.wrap (c4 + 1) = c4 + 1 := IntWalk.i64_in _ ⟨by omega, by omega⟩
          go_wp2_with (first | (at_mapUpdate; refine wpList_mapUpdate_own _ rfl _ _ _ 66 rfl 3 3 law3 Try.underlying66 _ r kk _ rfl hown (by unfold maxLen; omega) _ _ _ rfl rfl (keyOf_int_mk Try.underlying3 (a := 3) (by decide)) _ [] (plainElem_int Try.underlying3 (by go_wf)) ?_; intro w2 hown2 hgrow2) | go_in)
          have hbt2 : But (fun k => k = p ∨ some r = some k) w1 w2 := But.grown hgrow2 (Or.inr rfl)
          have X2 := hide (X1.out.next hbt2 (fun _ h => h) HP.out)
          have hct2 : Ctr w2 p (c + 1) := (hgrow2.block p hct1.lt (fun e => by injection e with e; exact HNP.out r rfl e.symm)).trans hct1
          have HM2 : Hid (MrS (some r) (c + 1) (c3 + 1) c4 w2) := by
            intro r' hr'
            injection hr' with hr'
            subst hr'
            exact ⟨kk + 1, _, hown2, HIM.out.put _ _, by omega, (atKey_put_same HIM.out (by first | decide | trivial | simp [WideAt.IsKeyLit]) _ _), ((atKey_put_other (fun h => by injection h with _ h; exact absurd h (by decide)) _ _).trans HD4.out), by omega, by omega, by omega, by omega⟩
          clear hown2 hgrow2 hbt2 l3 l4 hown
          go_wp2
          all_goals go_ret
          all_goals exact ⟨true, retB (by first | rfl | simp_all), ⟨fun _ => HG.out.2 ⟨(by first | rfl | trivial), (by first | rfl | trivial)⟩, fun _ => rfl⟩, X2.out.1, fun _ => by rw [HCE'.out, hN3, hN4]; exact ⟨hct2, HM2.out⟩⟩
        · obtain ⟨hN3, hN4⟩ := HN.out.2 rfl
          go_enter Try.func32, Try.ntmps32
          go_wp2_with fail
          refine (HEN.out _ hct0).mono ?_
          rintro e w1 ⟨rfl, hbt1, hct1⟩
          have X1 := hide (X0.out.next hbt1 (fun _ h => Or.inl h) HP.out)
          have HM1 := hide (HM0.out.next hbt1 HNP.out (Int.le_refl _))
          clear hbt1
          obtain ⟨-, hw1, -, q0, q1, q2, q3, q4, q5, q6⟩ := X1.out
          have hm1 := HM1.out r rfl
          obtain ⟨l3, l4⟩ := hm1.look
          obtain ⟨kk, D, hown, him, hkk, hd3, hd4, b1, b2, b3, b4⟩ := hm1
          have HD3 := hide hd3
          have HD4 := hide hd4
          have HIM := hide him
          clear hd3 hd4 him
          have hwr1 : IntKind.i64.wrap (c3 + 1) = c3 + 1 := IntWalk.i64_in _ ⟨by omega, by omega⟩
          have hwr2 : IntKind.i64.wrap (c4 + 1) = c4 + 1 := IntWalk.i64_in _ ⟨by omega, by omega⟩
          go_wp2_with (first | (at_mapUpdate; refine wpList_mapUpdate_own _ rfl _ _ _ 66 rfl 3 3 law3 Try.underlying66 _ r kk _ rfl hown (by unfold maxLen; omega) _ _ _ rfl rfl (keyOf_int_mk Try.underlying3 (a := 4) (by decide)) _ [] (plainElem_int Try.underlying3 (by go_wf)) ?_; intro w2 hown2 hgrow2) | go_in)
          have hbt2 : But (fun k => k = p ∨ some r = some k) w1 w2 := But.grown hgrow2 (Or.inr rfl)
          have X2 := hide (X1.out.next hbt2 (fun _ h => h) HP.out)
          have hct2 : Ctr w2 p (c + 1) := (hgrow2.block p hct1.lt (fun e => by injection e with e; exact HNP.out r rfl e.symm)).trans hct1
          have HM2 : Hid (MrS (some r) (c + 1) c3 (c4 + 1) w2) := by
            intro r' hr'
            injection hr' with hr'
            subst hr'
            exact ⟨kk + 1, _, hown2, HIM.out.put _ _, by omega, ((atKey_put_other (fun h => by injection h with _ h; exact absurd h (by decide)) _ _).trans HD3.out), (atKey_put_same HIM.out (by first | decide | trivial | simp [WideAt.IsKeyLit]) _ _), by omega, by omega, by omega, by omega⟩
          clear hown2 hgrow2 hbt2 l3 l4 hown
          go_wp2
          all_goals go_ret
          all_goals exact ⟨true, retB (by first | rfl | simp_all), ⟨fun _ => HG.out.2 ⟨(by first | rfl | trivial), (by first | rfl | trivial)⟩, fun _ => rfl⟩, X2.out.1, fun _ => by rw [HCE'.out, hN3, hN4]; exact ⟨hct2, HM2.out⟩⟩
  have h3 : ¬ x.kind = 3 := fun h => h34 (Or.inl h)
  have h4 : ¬ x.kind = 4 := fun h => h34 (Or.inr h)
  by_cases h5 : x.kind = 5
  · have HG := hide (gd2 (m := m) (c := c) (d := d) (ent_mo h5) (show exprN (m + 1) mr.isSome x = (bareB x 2 false false false && moB (exprN m true) (usesN m) (kd x 0) && exprN m mr.isSome (kd x 1)) by simp only [exprN]; rw [if_neg h1, if_neg h2, if_neg h34, if_pos h5]; rfl))
    cases hEN : entX c d x with
    | false =>
      rw [hEN] at HEN HG
      generalize c3 + (cntN (m + 1) 3 x : Int) = N3 at *
      generalize c4 + (cntN (m + 1) 4 x : Int) = N4 at *
      generalize Gd (exprN (m + 1) mr.isSome x) c d (m + 1) x = GD at *
      generalize c + (sizeN (m + 1) x : Int) = CE at *
      clear h1 h2 h3 h4 h34
      clear hxx hA hK hct hw hx hpl hM
      generalize x.kids.length = LK at *
      generalize x.kind = K at *
      generalize x.op = O at *
      generalize x.name = S at *
      generalize x.pos = P at *
      generalize x.lit.shape.length = L1 at *
      generalize x.lit.cells.length = L2 at *
      subst h5
      go_enter Try.func32, Try.ntmps32
      go_wp2_with fail
      refine (HEN.out _ hct0).mono ?_
      rintro e w1 ⟨rfl, hbt1, hct1⟩
      have X1 := hide (X0.out.next hbt1 (fun _ h => Or.inl h) HP.out)
      have HM1 := hide (HM0.out.next hbt1 HNP.out (show c ≤ c + 1 by omega))
      clear hbt1
      obtain ⟨-, hw1, -, q0, q1, q2, q3, q4, q5, q6⟩ := X1.out
      go_wp2
      all_goals go_ret
      all_goals exact ⟨false, retB (by first | rfl | simp_all), ⟨(fun h => by cases h), fun h => (HG.out.1 h).1⟩, X1.out.1, (fun h => by cases h)⟩
    | true =>
      rw [hEN] at HEN HG
      have hlen := ent_len (k := 2) hEN (ent_mo h5)
      obtain ⟨hr1, hr2⟩ := ent_room hEN
      have HCE : Hid (c + (sizeN (m + 1) x : Int) = c + 1 + (sizeN m (kd x 0) : Int) + (sizeN m (kd x 1) : Int)) := by show _ = _; rw [size2 hlen]; omega
      have HN3 : Hid (c3 + (cntN (m + 1) 3 x : Int) = c3 + (cntN m 3 (kd x 1) : Int)) := by show _ = _; simp only [cntN]; rw [if_neg (by omega), if_pos h5]; try omega
      have HN4 : Hid (c4 + (cntN (m + 1) 4 x : Int) = c4 + (cntN m 4 (kd x 1) : Int)) := by show _ = _; simp only [cntN]; rw [if_neg (by omega), if_pos h5]; try omega
      obtain ⟨b, off, rfl, hbb, hkk⟩ := kids_base hK (by omega)
      obtain ⟨K0, O0, S0, A10, L10, C10, A20, L20, C20, AK0, LK0, CK0, P0, hkw0⟩ := hkk 0 (by omega)
      simp only [Nat.zero_mul, Nat.add_zero] at hkw0
      have HKW0 := hide (fun wr hwr => And.intro (hkw0 wr hwr).1 trivial)
      obtain ⟨K1, O1, S1, A11, L11, C11, A21, L21, C21, AK1, LK1, CK1, P1, hkw1⟩ := hkk 1 (by omega)
      simp only [Nat.one_mul, Nat.add_assoc, Nat.reduceAdd] at hkw1
      have HKW1 := hide (fun wr hwr => And.intro (hkw1 wr hwr).1 trivial)
      have HF := hide (fun wr (hwr : Below w0.heap.size w0 wr) (hc1 : Ctr wr p (c + 1)) => (one49 m IH).kid n (kd x 0) lo _ w0 wr p (c + 1) (d + 1) (hkw0 w0 (Below.refl _ _)).2.1 hwr hp hc1 (by omega) (by omega) (by omega) (by omega))
      have HE1 := hide (fun (hg0 : Gd (moB (exprN m true) (usesN m) (kd x 0)) (c + 1) (d + 1) m (kd x 0)) wr (hwr : Below w0.heap.size w0 wr) (hc1 : Ctr wr p (c + 1 + (sizeN m (kd x 0) : Int))) (hm1 : MrS mr (c + 1 + (sizeN m (kd x 0) : Int)) c3 c4 wr) => IH n (kd x 1) lo _ w0 wr p (c + 1 + (sizeN m (kd x 0) : Int)) (d + 1) mr c3 c4 (hkw1 w0 (Below.refl _ _)).2.1 hwr hp hmr hc1 hm1 (by omega) hg0.2.1 (by omega) (by omega))
      have hd1 : IntKind.i64.wrap (d + 1) = d + 1 := IntWalk.i64_in _ ⟨by omega, by omega⟩
      have HLE : Hid (c + 1 ≤ c + 1 + (sizeN m (kd x 0) : Int)) := by show _ ≤ _; omega
      generalize c3 + (cntN (m + 1) 3 x : Int) = N3 at *
      generalize c4 + (cntN (m + 1) 4 x : Int) = N4 at *
      generalize Gd (exprN (m + 1) mr.isSome x) c d (m + 1) x = GD at *
      generalize c + (sizeN (m + 1) x : Int) = CE at *
      generalize Gd (moB (exprN m true) (usesN m) (kd x 0)) (c + 1) (d + 1) m (kd x 0) = G0 at *
      generalize Gd (exprN m mr.isSome (kd x 1)) (c + 1 + (sizeN m (kd x 0) : Int)) (d + 1) m (kd x 1) = G1 at *
      generalize c + 1 + (sizeN m (kd x 0) : Int) + (sizeN m (kd x 1) : Int) = C2 at *
      generalize c + 1 + (sizeN m (kd x 0) : Int) = C1 at *
      generalize c3 + (cntN m 3 (kd x 1) : Int) = Q31 at *
      generalize c4 + (cntN m 4 (kd x 1) : Int) = Q41 at *
      clear hkk hkw0 hkw1 hEN
      rw [hlen] at *
      clear hlen
      clear h1 h2 h3 h4 h34
      clear hxx hA hK hct hw hx hpl hM
      generalize x.kind = K at *
      generalize x.op = O at *
      generalize x.name = S at *
      generalize x.pos = P at *
      generalize x.lit.shape.length = L1 at *
      generalize x.lit.cells.length = L2 at *
      subst h5
      go_enter Try.func32, Try.ntmps32
      obtain ⟨⟨g00, g01, g02, g03, g04, g05, g06⟩, -⟩ := HKW0.out _ hw0
      obtain ⟨⟨g10, g11, g12, g13, g14, g15, g16⟩, -⟩ := HKW1.out _ hw0
      go_wp2_with fail
      refine (HEN.out _ hct0).mono ?_
      rintro e w1 ⟨rfl, hbt1, hct1⟩
      have X1 := hide (X0.out.next hbt1 (fun _ h => Or.inl h) HP.out)
      have HM1 := hide (HM0.out.next hbt1 HNP.out (show c ≤ c + 1 by omega))
      clear hbt1 g00 g01 g02 g03 g04 g05 g06 g10 g11 g12 g13 g14 g15 g16
      obtain ⟨-, hw1, -, q0, q1, q2, q3, q4, q5, q6⟩ := X1.out
      obtain ⟨⟨g00, g01, g02, g03, g04, g05, g06⟩, -⟩ := HKW0.out _ hw1
      obtain ⟨⟨g10, g11, g12, g13, g14, g15, g16⟩, -⟩ := HKW1.out _ hw1
      go_wp2_with fail
      refine (HF.out _ hw1 hct1).mono ?_
      rintro e w2 ⟨ok2, rfl, hok2, hbt2, hst2⟩
      have X2 := hide (X1.out.next hbt2 (fun _ h => Or.inl h) HP.out)
      have HM2 := hide (HM1.out.next hbt2 HNP.out HLE.out)
      have HOK2 := hide hok2
      have HST2 := hide hst2
      clear hbt2 hok2 hst2 g00 g01 g02 g03 g04 g05 g06 g10 g11 g12 g13 g14 g15 g16 q0 q1 q2 q3 q4 q5 q6
      obtain ⟨-, hw2, -, q0, q1, q2, q3, q4, q5, q6⟩ := X2.out
      obtain ⟨⟨g00, g01, g02, g03, g04, g05, g06⟩, -⟩ := HKW0.out _ hw2
      obtain ⟨⟨g10, g11, g12, g13, g14, g15, g16⟩, -⟩ := HKW1.out _ hw2
      cases ok2
      · go_wp2
        all_goals go_ret
        all_goals exact ⟨false, retB (by first | rfl | simp_all), ⟨(fun h => by cases h), fun h => HOK2.out.2 (HG.out.1 h).2.1⟩, X2.out.1, (fun h => by cases h)⟩
      · have hct2 := HST2.out (by first | rfl | trivial)
        have HE1' := hide (HE1.out (HOK2.out.1 (by first | rfl | trivial)))
        go_wp2_with fail
        refine (HE1'.out _ hw2 hct2 HM2.out).mono ?_
        rintro e w3 ⟨ok3, rfl, hok3, hbt3, hst3⟩
        have X3 := hide (X2.out.next hbt3 (fun _ h => h) HP.out)
        have HOK3 := hide hok3
        have HST3 := hide hst3
        clear hbt3 hok3 hst3 g00 g01 g02 g03 g04 g05 g06 g10 g11 g12 g13 g14 g15 g16 q0 q1 q2 q3 q4 q5 q6
        obtain ⟨-, hw3, -, q0, q1, q2, q3, q4, q5, q6⟩ := X3.out
        obtain ⟨⟨g00, g01, g02, g03, g04, g05, g06⟩, -⟩ := HKW0.out _ hw3
        obtain ⟨⟨g10, g11, g12, g13, g14, g15, g16⟩, -⟩ := HKW1.out _ hw3
        cases ok3
        · go_wp2
          all_goals go_ret
          all_goals exact ⟨false, retB (by first | rfl | simp_all), ⟨(fun h => by cases h), fun h => HOK3.out.2 (HG.out.1 h).2.2⟩, X3.out.1, (fun h => by cases h)⟩
        · go_wp2
          all_goals go_ret
          all_goals exact ⟨true, retB (by first | rfl | simp_all), ⟨fun _ => HG.out.2 ⟨(by first | rfl | trivial), HOK2.out.1 (by first | rfl | trivial), HOK3.out.1 (by first | rfl | trivial)⟩, fun _ => rfl⟩, X3.out.1, fun _ => by rw [HCE.out, HN3.out, HN4.out]; exact HST3.out (by first | rfl | trivial)⟩
  by_cases h6 : x.kind = 6
  · have HG := hide (gd3 (m := m) (c := c) (d := d) (ent_dy h6) (show exprN (m + 1) mr.isSome x = (bareB x 3 false false false && dyB (exprN m true) (usesN m) (kd x 0) && exprN m mr.isSome (kd x 1) && exprN m mr.isSome (kd x 2)) by simp only [exprN]; rw [if_neg h1, if_neg h2, if_neg h34, if_neg h5, if_pos h6]; rfl))
    cases hEN : entX c d x with
    | false =>
      rw [hEN] at HEN HG
      generalize c3 + (cntN (m + 1) 3 x : Int) = N3 at *
      generalize c4 + (cntN (m + 1) 4 x : Int) = N4 at *
      generalize Gd (exprN (m + 1) mr.isSome x) c d (m + 1) x = GD at *
      generalize c + (sizeN (m + 1) x : Int) = CE at *
      clear h1 h2 h3 h4 h34 h5
      clear hxx hA hK hct hw hx hpl hM
      generalize x.kids.length = LK at *
      generalize x.kind = K at *
      generalize x.op = O at *
      generalize x.name = S at *
      generalize x.pos = P at *
      generalize x.lit.shape.length = L1 at *
      generalize x.lit.cells.length = L2 at *
      subst h6
      go_enter Try.func32, Try.ntmps32
      go_wp2_with fail
      refine (HEN.out _ hct0).mono ?_
      rintro e w1 ⟨rfl, hbt1, hct1⟩
      have X1 := hide (X0.out.next hbt1 (fun _ h => Or.inl h) HP.out)
      have HM1 := hide (HM0.out.next hbt1 HNP.out (show c ≤ c + 1 by omega))
      clear hbt1
      obtain ⟨-, hw1, -, q0, q1, q2, q3, q4, q5, q6⟩ := X1.out
      go_wp2
      all_goals go_ret
      all_goals exact ⟨false, retB (by first | rfl | simp_all), ⟨(fun h => by cases h), fun h => (HG.out.1 h).1⟩, X1.out.1, (fun h => by cases h)⟩
    | true =>
      rw [hEN] at HEN HG
      have hlen := ent_len (k := 3) hEN (ent_dy h6)
      obtain ⟨hr1, hr2⟩ := ent_room hEN
      have HCE : Hid (c + (sizeN (m + 1) x : Int) = c + 1 + (sizeN m (kd x 0) : Int) + (sizeN m (kd x 1) : Int) + (sizeN m (kd x 2) : Int)) := by show _ = _; rw [size3 hlen]; omega
      have HN3 : Hid (c3 + (cntN (m + 1) 3 x : Int) = c3 + ((cntN m 3 (kd x 1) : Int) + (cntN m 3 (kd x 2) : Int))) := by show _ = _; simp only [cntN]; rw [if_neg (by omega), if_neg h5, if_pos h6]; try omega
      have HN4 : Hid (c4 + (cntN (m + 1) 4 x : Int) = c4 + ((cntN m 4 (kd x 1) : Int) + (cntN m 4 (kd x 2) : Int))) := by show _ = _; simp only [cntN]; rw [if_neg (by omega), if_neg h5, if_pos h6]; try omega
      obtain ⟨b, off, rfl, hbb, hkk⟩ := kids_base hK (by omega)
      obtain ⟨K0, O0, S0, A10, L10, C10, A20, L20, C20, AK0, LK0, CK0, P0, hkw0⟩ := hkk 0 (by omega)
      simp only [Nat.zero_mul, Nat.add_zero] at hkw0
      have HKW0 := hide (fun wr hwr => And.intro (hkw0 wr hwr).1 trivial)
      obtain ⟨K1, O1, S1, A11, L11, C11, A21, L21, C21, AK1, LK1, CK1, P1, hkw1⟩ := hkk 1 (by omega)
      simp only [Nat.one_mul, Nat.add_assoc, Nat.reduceAdd] at hkw1
      have HKW1 := hide (fun wr hwr => And.intro (hkw1 wr hwr).1 trivial)
      obtain ⟨K2, O2, S2, A12, L12, C12, A22, L22, C22, AK2, LK2, CK2, P2, hkw2⟩ := hkk 2 (by omega)
      simp only [Nat.reduceMul, Nat.add_assoc, Nat.reduceAdd] at hkw2
      have HKW2 := hide (fun wr hwr => And.intro (hkw2 wr hwr).1 trivial)
      have HF := hide (fun wr (hwr : Below w0.heap.size w0 wr) (hc1 : Ctr wr p (c + 1)) => (two50 m IH).kid n (kd x 0) lo _ w0 wr p (c + 1) (d + 1) (hkw0 w0 (Below.refl _ _)).2.1 hwr hp hc1 (by omega) (by omega) (by omega) (by omega))
      have HE1 := hide (fun (hg0 : Gd (dyB (exprN m true) (usesN m) (kd x 0)) (c + 1) (d + 1) m (kd x 0)) wr (hwr : Below w0.heap.size w0 wr) (hc1 : Ctr wr p (c + 1 + (sizeN m (kd x 0) : Int))) (hm1 : MrS mr (c + 1 + (sizeN m (kd x 0) : Int)) c3 c4 wr) => IH n (kd x 1) lo _ w0 wr p (c + 1 + (sizeN m (kd x 0) : Int)) (d + 1) mr c3 c4 (hkw1 w0 (Below.refl _ _)).2.1 hwr hp hmr hc1 hm1 (by omega) hg0.2.1 (by omega) (by omega))
      have HE2 := hide (fun (hg1 : Gd (exprN m mr.isSome (kd x 1)) (c + 1 + (sizeN m (kd x 0) : Int)) (d + 1) m (kd x 1)) wr (hwr : Below w0.heap.size w0 wr) (hc1 : Ctr wr p (c + 1 + (sizeN m (kd x 0) : Int) + (sizeN m (kd x 1) : Int))) (hm1 : MrS mr (c + 1 + (sizeN m (kd x 0) : Int) + (sizeN m (kd x 1) : Int)) (c3 + (cntN m 3 (kd x 1) : Int)) (c4 + (cntN m 4 (kd x 1) : Int)) wr) => IH n (kd x 2) lo _ w0 wr p (c + 1 + (sizeN m (kd x 0) : Int) + (sizeN m (kd x 1) : Int)) (d + 1) mr (c3 + (cntN m 3 (kd x 1) : Int)) (c4 + (cntN m 4 (kd x 1) : Int)) (hkw2 w0 (Below.refl _ _)).2.1 hwr hp hmr hc1 hm1 (by omega) hg1.2.1 (by omega) (by omega))
      have HA3 : Hid (∀ a b c : Int, a + (b + c) = a + b + c) := fun a b c => (Int.add_assoc a b c).symm
      rw [HA3.out] at HN3 HN4
      have hd1 : IntKind.i64.wrap (d + 1) = d + 1 := IntWalk.i64_in _ ⟨by omega, by omega⟩
      have HLE : Hid (c + 1 ≤ c + 1 + (sizeN m (kd x 0) : Int)) := by show _ ≤ _; omega
      generalize c3 + (cntN (m + 1) 3 x : Int) = N3 at *
      generalize c4 + (cntN (m + 1) 4 x : Int) = N4 at *
      generalize Gd (exprN (m + 1) mr.isSome x) c d (m + 1) x = GD at *
      generalize c + (sizeN (m + 1) x : Int) = CE at *
      generalize Gd (dyB (exprN m true) (usesN m) (kd x 0)) (c + 1) (d + 1) m (kd x 0) = G0 at *
      generalize Gd (exprN m mr.isSome (kd x 1)) (c + 1 + (sizeN m (kd x 0) : Int)) (d + 1) m (kd x 1) = G1 at *
      generalize Gd (exprN m mr.isSome (kd x 2)) (c + 1 + (sizeN m (kd x 0) : Int) + (sizeN m (kd x 1) : Int)) (d + 1) m (kd x 2) = G2 at *
      generalize c + 1 + (sizeN m (kd x 0) : Int) + (sizeN m (kd x 1) : Int) + (sizeN m (kd x 2) : Int) = C3 at *
      generalize c3 + (cntN m 3 (kd x 1) : Int) + (cntN m 3 (kd x 2) : Int) = Q32 at *
      generalize c4 + (cntN m 4 (kd x 1) : Int) + (cntN m 4 (kd x 2) : Int) = Q42 at *
      generalize c + 1 + (sizeN m (kd x 0) : Int) + (sizeN m (kd x 1) : Int) = C2 at *
      generalize c + 1 + (sizeN m (kd x 0) : Int) = C1 at *
      generalize c3 + (cntN m 3 (kd x 1) : Int) = Q31 at *
      generalize c4 + (cntN m 4 (kd x 1) : Int) = Q41 at *
      clear hkk hkw0 hkw1 hkw2 hEN
      rw [hlen] at *
      clear hlen
      clear h1 h2 h3 h4 h34 h5
      clear hxx hA hK hct hw hx hpl hM
      generalize x.kind = K at *
      generalize x.op = O at *
      generalize x.name = S at *
      generalize x.pos = P at *
      generalize x.lit.shape.length = L1 at *
      generalize x.lit.cells.length = L2 at *
      subst h6
      go_enter Try.func32, Try.ntmps32
      obtain ⟨⟨g00, g01, g02, g03, g04, g05, g06⟩, -⟩ := HKW0.out _ hw0
      obtain ⟨⟨g10, g11, g12, g13, g14, g15, g16⟩, -⟩ := HKW1.out _ hw0
      obtain ⟨⟨g20, g21, g22, g23, g24, g25, g26⟩, -⟩ := HKW2.out _ hw0
      go_wp2_with fail
      refine (HEN.out _ hct0).mono ?_
      rintro e w1 ⟨rfl, hbt1, hct1⟩
      have X1 := hide (X0.out.next hbt1 (fun _ h => Or.inl h) HP.out)
      have HM1 := hide (HM0.out.next hbt1 HNP.out (show c ≤ c + 1 by omega))
      clear hbt1 g00 g01 g02 g03 g04 g05 g06 g10 g11 g12 g13 g14 g15 g16 g20 g21 g22 g23 g24 g25 g26
      obtain ⟨-, hw1, -, q0, q1, q2, q3, q4, q5, q6⟩ := X1.out
      obtain ⟨⟨g00, g01, g02, g03, g04, g05, g06⟩, -⟩ := HKW0.out _ hw1
      obtain ⟨⟨g10, g11, g12, g13, g14, g15, g16⟩, -⟩ := HKW1.out _ hw1
      obtain ⟨⟨g20, g21, g22, g23, g24, g25, g26⟩, -⟩ := HKW2.out _ hw1
      go_wp2_with fail
      refine (HF.out _ hw1 hct1).mono ?_
      rintro e w2 ⟨ok2, rfl, hok2, hbt2, hst2⟩
      have X2 := hide (X1.out.next hbt2 (fun _ h => Or.inl h) HP.out)
      have HM2 := hide (HM1.out.next hbt2 HNP.out HLE.out)
      have HOK2 := hide hok2
      have HST2 := hide hst2
      clear hbt2 hok2 hst2 g00 g01 g02 g03 g04 g05 g06 g10 g11 g12 g13 g14 g15 g16 g20 g21 g22 g23 g24 g25 g26 q0 q1 q2 q3 q4 q5 q6
      obtain ⟨-, hw2, -, q0, q1, q2, q3, q4, q5, q6⟩ := X2.out
      obtain ⟨⟨g00, g01, g02, g03, g04, g05, g06⟩, -⟩ := HKW0.out _ hw2
      obtain ⟨⟨g10, g11, g12, g13, g14, g15, g16⟩, -⟩ := HKW1.out _ hw2
      obtain ⟨⟨g20, g21, g22, g23, g24, g25, g26⟩, -⟩ := HKW2.out _ hw2
      cases ok2
      · go_wp2
        all_goals go_ret
        all_goals exact ⟨false, retB (by first | rfl | simp_all), ⟨(fun h => by cases h), fun h => HOK2.out.2 (HG.out.1 h).2.1⟩, X2.out.1, (fun h => by cases h)⟩
      · have hct2 := HST2.out (by first | rfl | trivial)
        have HE1' := hide (HE1.out (HOK2.out.1 (by first | rfl | trivial)))
        go_wp2_with fail
        refine (HE1'.out _ hw2 hct2 HM2.out).mono ?_
        rintro e w3 ⟨ok3, rfl, hok3, hbt3, hst3⟩
        have X3 := hide (X2.out.next hbt3 (fun _ h => h) HP.out)
        have HOK3 := hide hok3
        have HST3 := hide hst3
        clear hbt3 hok3 hst3 g00 g01 g02 g03 g04 g05 g06 g10 g11 g12 g13 g14 g15 g16 g20 g21 g22 g23 g24 g25 g26 q0 q1 q2 q3 q4 q5 q6
        obtain ⟨-, hw3, -, q0, q1, q2, q3, q4, q5, q6⟩ := X3.out
        obtain ⟨⟨g00, g01, g02, g03, g04, g05, g06⟩, -⟩ := HKW0.out _ hw3
        obtain ⟨⟨g10, g11, g12, g13, g14, g15, g16⟩, -⟩ := HKW1.out _ hw3
        obtain ⟨⟨g20, g21, g22, g23, g24, g25, g26⟩, -⟩ := HKW2.out _ hw3
        cases ok3
        · go_wp2
          all_goals go_ret
          all_goals exact ⟨false, retB (by first | rfl | simp_all), ⟨(fun h => by cases h), fun h => HOK3.out.2 (HG.out.1 h).2.2.1⟩, X3.out.1, (fun h => by cases h)⟩
        · have hct3 := (HST3.out (by first | rfl | trivial)).1
          have HM3 := hide (HST3.out (by first | rfl | trivial)).2
          have HE2' := hide (HE2.out (HOK3.out.1 (by first | rfl | trivial)))
          go_wp2_with fail
          refine (HE2'.out _ hw3 hct3 HM3.out).mono ?_
          rintro e w4 ⟨ok4, rfl, hok4, hbt4, hst4⟩
          have X4 := hide (X3.out.next hbt4 (fun _ h => h) HP.out)
          have HOK4 := hide hok4
          have HST4 := hide hst4
          clear hbt4 hok4 hst4 g00 g01 g02 g03 g04 g05 g06 g10 g11 g12 g13 g14 g15 g16 g20 g21 g22 g23 g24 g25 g26 q0 q1 q2 q3 q4 q5 q6
          obtain ⟨-, hw4, -, q0, q1, q2, q3, q4, q5, q6⟩ := X4.out
          obtain ⟨⟨g00, g01, g02, g03, g04, g05, g06⟩, -⟩ := HKW0.out _ hw4
          obtain ⟨⟨g10, g11, g12, g13, g14, g15, g16⟩, -⟩ := HKW1.out _ hw4
          obtain ⟨⟨g20, g21, g22, g23, g24, g25, g26⟩, -⟩ := HKW2.out _ hw4
          cases ok4
          · go_wp2
            all_goals go_ret
            all_goals exact ⟨false, retB (by first | rfl | simp_all), ⟨(fun h => by cases h), fun h => HOK4.out.2 (HG.out.1 h).2.2.2⟩, X4.out.1, (fun h => by cases h)⟩
          · go_wp2
            all_goals go_ret
            all_goals exact ⟨true, retB (by first | rfl | simp_all), ⟨fun _ => HG.out.2 ⟨(by first | rfl | trivial), HOK2.out.1 (by first | rfl | trivial), HOK3.out.1 (by first | rfl | trivial), HOK4.out.1 (by first | rfl | trivial)⟩, fun _ => rfl⟩, X4.out.1, fun _ => by rw [HCE.out, HN3.out, HN4.out]; exact HST4.out (by first | rfl | trivial)⟩
  · have HG := hide (not_gd (m := m + 1) (c := c) (d := d) (x := x) (show exprN (m + 1) mr.isSome x = false by simp only [exprN]; rw [if_neg h1, if_neg h2, if_neg h34, if_neg h5, if_neg h6]))
    generalize c3 + (cntN (m + 1) 3 x : Int) = N3 at *
    generalize c4 + (cntN (m + 1) 4 x : Int) = N4 at *
    generalize Gd (exprN (m + 1) mr.isSome x) c d (m + 1) x = GD at *
    generalize c + (sizeN (m + 1) x : Int) = CE at *
    generalize entX c d x = EN at *
    clear h34
    clear hxx hA hK hct hw hx hpl hM
    generalize x.kids.length = LK at *
    generalize x.kind = K at *
    generalize x.op = O at *
    generalize x.name = S at *
    generalize x.pos = P at *
    generalize x.lit.shape.length = L1 at *
    generalize x.lit.cells.length = L2 at *
    have k1 : (K == 1) = false := beq_eq_false_iff_ne.2 h1
    have k2 : (K == 2) = false := beq_eq_false_iff_ne.2 h2
    have k3 : (K == 3) = false := beq_eq_false_iff_ne.2 h3
    have k4 : (K == 4) = false := beq_eq_false_iff_ne.2 h4
    have k5 : (K == 5) = false := beq_eq_false_iff_ne.2 h5
    have k6 : (K == 6) = false := beq_eq_false_iff_ne.2 h6
    cases EN
    · go_enter Try.func32, Try.ntmps32
      go_wp2_with fail
      refine (HEN.out _ hct0).mono ?_
      rintro e w1 ⟨rfl, hbt1, hct1⟩
      have X1 := hide (X0.out.next hbt1 (fun _ h => Or.inl h) HP.out)
      have HM1 := hide (HM0.out.next hbt1 HNP.out (show c ≤ c + 1 by omega))
      clear hbt1
      obtain ⟨-, hw1, -, q0, q1, q2, q3, q4, q5, q6⟩ := X1.out
      go_wp2
      all_goals go_ret
      all_goals exact ⟨false, retB (by first | rfl | simp_all), ⟨(fun h => by cases h), fun h => absurd h HG.out⟩, X1.out.1, (fun h => by cases h)⟩
    · go_enter Try.func32, Try.ntmps32
      go_wp2_with fail
      refine (HEN.out _ hct0).mono ?_
      rintro e w1 ⟨rfl, hbt1, hct1⟩
      have X1 := hide (X0.out.next hbt1 (fun _ h => Or.inl h) HP.out)
      have HM1 := hide (HM0.out.next hbt1 HNP.out (show c ≤ c + 1 by omega))
      clear hbt1
      obtain ⟨-, hw1, -, q0, q1, q2, q3, q4, q5, q6⟩ := X1.out
      go_wp2
      all_goals go_ret
      all_goals exact ⟨false, retB (by first | rfl | simp_all), ⟨(fun h => by cases h), fun h => absurd h HG.out⟩, X1.out.1, (fun h => by cases h)⟩

theorem exE (m : Nat) : ExE m := by
  induction m with
  | zero => exact fun n x lo va w0 w p c d mr c3 c4 hx => hx.elim
  | succ m ih => exact exE_step m ih
end Go.Proofs.Ytkgpoibnilgaeaa
