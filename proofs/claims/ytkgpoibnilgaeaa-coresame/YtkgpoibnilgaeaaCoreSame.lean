/-
  For all programs the statement CoreSame holds: whether two programs are the same is what the document says, and where they begin plays no part; no condition (the given row speaks of what a machine of 64 bits can hold).
-/
import Derived.Test.YtkgpoibnilgaeaaCoS
import Derived.Test.YtkgpoibnilgaeaaCoT
import Derived.Test.YtkgpoibnilgaeaaCoV
import Derived.Deep.RegionHeld3
import Derived.Deep.Cut
import Derived.Deep.CutRange
import Derived.ChangeMaps5
namespace Go.Proofs.Ytkgpoibnilgaeaa.coreSame
open Go.ChangeShapes Go.WideShapes Go.ChangeAt Go.RowKit
set_option linter.unusedVariables false
set_option linter.unusedSimpArgs false
set_option maxRecDepth 100000
set_option maxHeartbeats 16000000 in
theorem walk (m1 n1 : Nat) (x : Nd) (u0 u1 u2 u3 u4 u5 u6 : Value) (m2 n2 : Nat) (y : Nd) (v0 v1 v2 v3 v4 v5 v6 : Value) (w : World) (hx : NdIn m1 n1 0 w x (.agg #[u0, u1, u2, u3, u4, u5, u6])) (hy : NdIn m2 n2 0 w y (.agg #[v0, v1, v2, v3, v4, v5, v6])) :
    Calls Try.prog 5 #[.agg #[u0, u1, u2, u3, u4, u5, u6], .agg #[v0, v1, v2, v3, v4, v5, v6]] w fun e w' => e = .returned (.bool true) ∧ Below w.heap.size w w' := by
  obtain ⟨m, hm⟩ : ∃ m, m1 + m2 = m := ⟨_, rfl⟩
  obtain ⟨n, hn⟩ : ∃ n, n1 + n2 = n := ⟨_, rfl⟩
  replace hx : NdIn m n 0 w x (.agg #[u0, u1, u2, u3, u4, u5, u6]) := (hx.deep (by omega)).boxes (by omega)
  replace hy : NdIn m n 0 w y (.agg #[v0, v1, v2, v3, v4, v5, v6]) := (hy.deep (by omega)).boxes (by omega)
  clear hm hn
  have hxx := hx
  have hyy := hy
  obtain ⟨m', hm', a1, c1, a2, c2, ak, ck, hv, hA, hl, hs, hK⟩ := hx.letters
  simp only [Value.agg.injEq, Array.mk.injEq, List.cons.injEq, and_true] at hv
  obtain ⟨rfl, rfl, rfl, rfl, rfl, rfl, rfl⟩ := hv
  obtain ⟨m'', hm'', a1', c1', a2', c2', ak', ck', hv, hA', hl', hs', hK'⟩ := hy.letters
  simp only [Value.agg.injEq, Array.mk.injEq, List.cons.injEq, and_true] at hv
  obtain ⟨rfl, rfl, rfl, rfl, rfl, rfl, rfl⟩ := hv
  have X0 := hide ((box7_new w x.kind x.op x.name (.slice a1 x.lit.shape.length c1) (.slice a2 x.lit.cells.length c2) (.slice ak x.kids.length ck) x.pos).next (one_alloc _ (.cells #[.int .i64 y.kind, .int .i64 y.op, .string y.name, .slice a1' y.lit.shape.length c1', .slice a2' y.lit.cells.length c2', .slice ak' y.kids.length ck', .int .i64 y.pos] 28)))
  have Y0 : Hid (Box7 w (w.heap.size + 1) y.kind y.op y.name (.slice a1' y.lit.shape.length c1') (.slice a2' y.lit.cells.length c2') (.slice ak' y.kids.length ck') y.pos ((w.alloc (.cells #[.int .i64 x.kind, .int .i64 x.op, .string x.name, .slice a1 x.lit.shape.length c1, .slice a2 x.lit.cells.length c2, .slice ak x.kids.length ck, .int .i64 x.pos] 28)).alloc (.cells #[.int .i64 y.kind, .int .i64 y.op, .string y.name, .slice a1' y.lit.shape.length c1', .slice a2' y.lit.cells.length c2', .slice ak' y.kids.length ck', .int .i64 y.pos] 28))) := by
    have h := box7_new (w.alloc (.cells #[.int .i64 x.kind, .int .i64 x.op, .string x.name, .slice a1 x.lit.shape.length c1, .slice a2 x.lit.cells.length c2, .slice ak x.kids.length ck, .int .i64 x.pos] 28)) y.kind y.op y.name (.slice a1' y.lit.shape.length c1') (.slice a2' y.lit.cells.length c2') (.slice ak' y.kids.length ck') y.pos
    have hsz : (w.alloc (.cells #[.int .i64 x.kind, .int .i64 x.op, .string x.name, .slice a1 x.lit.shape.length c1, .slice a2 x.lit.cells.length c2, .slice ak x.kids.length ck, .int .i64 x.pos] 28)).heap.size = w.heap.size + 1 := by simp
    generalize w.alloc (.cells #[.int .i64 x.kind, .int .i64 x.op, .string x.name, .slice a1 x.lit.shape.length c1, .slice a2 x.lit.cells.length c2, .slice ak x.kids.length ck, .int .i64 x.pos] 28) = W1 at *
    rw [hsz] at h
    exact ⟨X0.out.1, h.2⟩
  have hw0 := X0.out.1
  have HLX := hide (fun wr (hwr : Below w.heap.size w wr) => light8 (hxx.next hwr))
  have HLY := hide (fun wr (hwr : Below w.heap.size w wr) => light8 (hyy.next hwr))
  have HSP := hide (fun wr (hwr : Below w.heap.size w wr) => same21 m n x y 0 0 _ _ wr (hxx.next hwr) (hyy.next hwr))
  have HSD := hide (fun wr (hwr : Below w.heap.size w wr) => rsame22 m n x y 0 0 _ _ wr (hxx.next hwr) (hyy.next hwr))
  have HBR : Hid (∀ wr, Below w.heap.size w wr → Calls Try.prog 23 #[.agg #[.int .i64 x.kind, .int .i64 x.op, .string x.name, .slice a1 x.lit.shape.length c1, .slice a2 x.lit.cells.length c2, .slice ak x.kids.length ck, .int .i64 x.pos]] wr fun e w' => (∃ d1 e1 d2 e2 dk ek, e = .returned (.agg #[.int .i64 x.kind, .int .i64 x.op, .string x.name, .slice d1 x.lit.shape.length e1, .slice d2 x.lit.cells.length e2, .slice dk x.kids.length ek, .int .i64 0]) ∧ NdIn m n 0 w' (bareD m x) (.agg #[.int .i64 x.kind, .int .i64 x.op, .string x.name, .slice d1 x.lit.shape.length e1, .slice d2 x.lit.cells.length e2, .slice dk x.kids.length ek, .int .i64 0])) ∧ Below wr.heap.size wr w') := fun wr hwr => (bare23 m n x 0 _ w wr hxx hwr).mono fun e w' ⟨⟨d1, e1, d2, e2, dk, ek, he, hN⟩, hb⟩ => ⟨⟨d1, e1, d2, e2, dk, ek, he, hN w' (hwr.trans (hb.mono hwr.size)) (Keeps.refl _ _)⟩, hb⟩
  have HBP : Hid (∀ wr, Below w.heap.size w wr → ∀ d1 e1 d2 e2 dk ek, NdIn m n 0 wr (bareD m x) (.agg #[.int .i64 x.kind, .int .i64 x.op, .string x.name, .slice d1 x.lit.shape.length e1, .slice d2 x.lit.cells.length e2, .slice dk x.kids.length ek, .int .i64 0]) → Calls Try.prog 21 #[.agg #[.int .i64 x.kind, .int .i64 x.op, .string x.name, .slice a1 x.lit.shape.length c1, .slice a2 x.lit.cells.length c2, .slice ak x.kids.length ck, .int .i64 x.pos], .agg #[.int .i64 x.kind, .int .i64 x.op, .string x.name, .slice d1 x.lit.shape.length e1, .slice d2 x.lit.cells.length e2, .slice dk x.kids.length ek, .int .i64 0]] wr fun e w' => e = .returned (.bool (sameN n m x (bareD m x))) ∧ Below wr.heap.size wr w') := fun wr hwr d1 e1 d2 e2 dk ek hN => same21 m n x (bareD m x) 0 0 _ _ wr (hxx.next hwr) hN
  have HBD : Hid (∀ wr, Below w.heap.size w wr → ∀ d1 e1 d2 e2 dk ek, NdIn m n 0 wr (bareD m x) (.agg #[.int .i64 x.kind, .int .i64 x.op, .string x.name, .slice d1 x.lit.shape.length e1, .slice d2 x.lit.cells.length e2, .slice dk x.kids.length ek, .int .i64 0]) → Calls Try.prog 22 #[.agg #[.int .i64 x.kind, .int .i64 x.op, .string x.name, .slice a1 x.lit.shape.length c1, .slice a2 x.lit.cells.length c2, .slice ak x.kids.length ck, .int .i64 x.pos], .agg #[.int .i64 x.kind, .int .i64 x.op, .string x.name, .slice d1 x.lit.shape.length e1, .slice d2 x.lit.cells.length e2, .slice dk x.kids.length ek, .int .i64 0]] wr fun e w' => e = .returned (.bool (sameN n m x (bareD m x))) ∧ Below wr.heap.size wr w') := fun wr hwr d1 e1 d2 e2 dk ek hN => rsame22 m n x (bareD m x) 0 0 _ _ wr (hxx.next hwr) hN
  clear hxx hyy hA hA' hK hK' hx hy hm' hm''
  unfold GivesL at HLX HLY
  generalize sameN n m x y = SS at *
  generalize sameN n m x (bareD m x) = SB at *
  generalize hSMX : (sizeN m x ≤ 3000) = SMX at *
  generalize hSMY : (sizeN m y ≤ 3000) = SMY at *
  generalize hND : (fun W v => NdIn m n 0 W (bareD m x) v) = ND at *
  have HND : Hid (∀ W v, NdIn m n 0 W (bareD m x) v = ND W v) := fun W v => by rw [← hND]
  simp only [HND.out] at HBR HBP HBD
  clear hSMX hSMY hND HND
  generalize x.kind = K at *
  generalize x.op = O at *
  generalize x.name = S at *
  generalize x.pos = P at *
  generalize x.lit.shape.length = L1 at *
  generalize x.lit.cells.length = L2 at *
  generalize x.kids.length = LK at *
  generalize y.kind = K' at *
  generalize y.op = O' at *
  generalize y.name = S' at *
  generalize y.pos = P' at *
  generalize y.lit.shape.length = L1' at *
  generalize y.lit.cells.length = L2' at *
  generalize y.kids.length = LK' at *
  obtain ⟨-, -, q0, q1, q2, q3, q4, q5, q6⟩ := X0.out
  obtain ⟨-, -, r0, r1, r2, r3, r4, r5, r6⟩ := Y0.out
  go_enter Try.func5, Try.ntmps5
  go_wp2_with fail
  refine (HLX.out _ hw0).mono ?_
  rintro e w1 ⟨ok, rfl, hok, hb1⟩
  have X1 := hide (X0.out.next hb1)
  have Y1 := hide (Y0.out.next hb1)
  have HOK1 := hide hok
  clear hb1 hok q0 q1 q2 q3 q4 q5 q6 r0 r1 r2 r3 r4 r5 r6
  obtain ⟨hw1, -, q0, q1, q2, q3, q4, q5, q6⟩ := X1.out
  obtain ⟨-, -, r0, r1, r2, r3, r4, r5, r6⟩ := Y1.out
  cases ok
  · go_wp2_with fail
    all_goals refine (works9 _).mono ?_
    all_goals rintro e ww ⟨rfl, hbw⟩
    all_goals go_wp2
    all_goals go_ret
    all_goals exact ⟨rfl, X1.out.1.trans (hbw.mono X1.out.1.size)⟩
  go_wp2_with fail
  refine (HLY.out _ hw1).mono ?_
  rintro e w2 ⟨ok, rfl, hok, hb2⟩
  have X2 := hide (X1.out.next hb2)
  have Y2 := hide (Y1.out.next hb2)
  have HOK2 := hide hok
  clear hb2 hok q0 q1 q2 q3 q4 q5 q6 r0 r1 r2 r3 r4 r5 r6
  obtain ⟨hw2, -, q0, q1, q2, q3, q4, q5, q6⟩ := X2.out
  obtain ⟨-, -, r0, r1, r2, r3, r4, r5, r6⟩ := Y2.out
  cases ok
  · go_wp2_with fail
    all_goals refine (works9 _).mono ?_
    all_goals rintro e ww ⟨rfl, hbw⟩
    all_goals go_wp2
    all_goals go_ret
    all_goals exact ⟨rfl, X2.out.1.trans (hbw.mono X2.out.1.size)⟩
  have HW2 := hide hw2
  have HGW : Hid (∀ W, Below w2.heap.size w2 W → Below w.heap.size w W) := fun W h => HW2.out.trans (h.mono HW2.out.size)
  have KP : Hid (∀ W, Below w2.heap.size w2 W → Calls Try.prog 21 #[.agg #[.int .i64 K, .int .i64 O, .string S, .slice a1 L1 c1, .slice a2 L2 c2, .slice ak LK ck, .int .i64 P], .agg #[.int .i64 K', .int .i64 O', .string S', .slice a1' L1' c1', .slice a2' L2' c2', .slice ak' LK' ck', .int .i64 P']] W fun e w' => e = .returned (.bool SS) ∧ Below w2.heap.size w2 w') := fun W h => (HSP.out W (HGW.out W h)).mono fun e w' ⟨he, hb⟩ => ⟨he, h.trans (hb.mono h.size)⟩
  have KD : Hid (∀ W, Below w2.heap.size w2 W → Calls Try.prog 22 #[.agg #[.int .i64 K, .int .i64 O, .string S, .slice a1 L1 c1, .slice a2 L2 c2, .slice ak LK ck, .int .i64 P], .agg #[.int .i64 K', .int .i64 O', .string S', .slice a1' L1' c1', .slice a2' L2' c2', .slice ak' LK' ck', .int .i64 P']] W fun e w' => e = .returned (.bool SS) ∧ Below w2.heap.size w2 w') := fun W h => (HSD.out W (HGW.out W h)).mono fun e w' ⟨he, hb⟩ => ⟨he, h.trans (hb.mono h.size)⟩
  have KW : Hid (∀ W, Below w2.heap.size w2 W → Calls Try.prog 9 #[] W fun e w' => e = .returned (.bool true) ∧ Below w2.heap.size w2 w') := fun W h => (works9 W).mono fun e w' ⟨he, hb⟩ => ⟨he, h.trans (hb.mono h.size)⟩
  have KR : Hid (∀ W, Below w2.heap.size w2 W → Calls Try.prog 23 #[.agg #[.int .i64 K, .int .i64 O, .string S, .slice a1 L1 c1, .slice a2 L2 c2, .slice ak LK ck, .int .i64 P]] W fun e w' => (∃ d1 e1 d2 e2 dk ek, e = .returned (.agg #[.int .i64 K, .int .i64 O, .string S, .slice d1 L1 e1, .slice d2 L2 e2, .slice dk LK ek, .int .i64 0]) ∧ ND w' (.agg #[.int .i64 K, .int .i64 O, .string S, .slice d1 L1 e1, .slice d2 L2 e2, .slice dk LK ek, .int .i64 0])) ∧ Below w2.heap.size w2 w') := fun W h => (HBR.out W (HGW.out W h)).mono fun e w' ⟨he, hb⟩ => ⟨he, h.trans (hb.mono h.size)⟩
  have KBP : Hid (∀ W, Below w2.heap.size w2 W → ∀ d1 e1 d2 e2 dk ek, ND W (.agg #[.int .i64 K, .int .i64 O, .string S, .slice d1 L1 e1, .slice d2 L2 e2, .slice dk LK ek, .int .i64 0]) → Calls Try.prog 21 #[.agg #[.int .i64 K, .int .i64 O, .string S, .slice a1 L1 c1, .slice a2 L2 c2, .slice ak LK ck, .int .i64 P], .agg #[.int .i64 K, .int .i64 O, .string S, .slice d1 L1 e1, .slice d2 L2 e2, .slice dk LK ek, .int .i64 0]] W fun e w' => e = .returned (.bool SB) ∧ Below w2.heap.size w2 w') := fun W h d1 e1 d2 e2 dk ek hN => (HBP.out W (HGW.out W h) d1 e1 d2 e2 dk ek hN).mono fun e w' ⟨he, hb⟩ => ⟨he, h.trans (hb.mono h.size)⟩
  have KBD : Hid (∀ W, Below w2.heap.size w2 W → ∀ d1 e1 d2 e2 dk ek, ND W (.agg #[.int .i64 K, .int .i64 O, .string S, .slice d1 L1 e1, .slice d2 L2 e2, .slice dk LK ek, .int .i64 0]) → Calls Try.prog 22 #[.agg #[.int .i64 K, .int .i64 O, .string S, .slice a1 L1 c1, .slice a2 L2 c2, .slice ak LK ck, .int .i64 P], .agg #[.int .i64 K, .int .i64 O, .string S, .slice d1 L1 e1, .slice d2 L2 e2, .slice dk LK ek, .int .i64 0]] W fun e w' => e = .returned (.bool SB) ∧ Below w2.heap.size w2 w') := fun W h d1 e1 d2 e2 dk ek hN => (HBD.out W (HGW.out W h) d1 e1 d2 e2 dk ek hN).mono fun e w' ⟨he, hb⟩ => ⟨he, h.trans (hb.mono h.size)⟩
  have KS : Hid (∀ W, Below w2.heap.size w2 W → (Below w2.heap.size w2 W ∧ W.cell? ⟨w.heap.size, 0, none⟩ = some (.int .i64 K) ∧ W.cell? ⟨w.heap.size, 1, none⟩ = some (.int .i64 O) ∧ W.cell? ⟨w.heap.size, 2, none⟩ = some (.string S) ∧ W.cell? ⟨w.heap.size, 3, none⟩ = some (.slice a1 L1 c1) ∧ W.cell? ⟨w.heap.size, 4, none⟩ = some (.slice a2 L2 c2) ∧ W.cell? ⟨w.heap.size, 5, none⟩ = some (.slice ak LK ck) ∧ W.cell? ⟨w.heap.size, 6, none⟩ = some (.int .i64 P) ∧ W.cell? ⟨w.heap.size + 1, 0, none⟩ = some (.int .i64 K') ∧ W.cell? ⟨w.heap.size + 1, 1, none⟩ = some (.int .i64 O') ∧ W.cell? ⟨w.heap.size + 1, 2, none⟩ = some (.string S') ∧ W.cell? ⟨w.heap.size + 1, 3, none⟩ = some (.slice a1' L1' c1') ∧ W.cell? ⟨w.heap.size + 1, 4, none⟩ = some (.slice a2' L2' c2') ∧ W.cell? ⟨w.heap.size + 1, 5, none⟩ = some (.slice ak' LK' ck') ∧ W.cell? ⟨w.heap.size + 1, 6, none⟩ = some (.int .i64 P'))) := fun W h => by
    obtain ⟨-, -, x0, x1, x2, x3, x4, x5, x6⟩ := X2.out.next h
    obtain ⟨-, -, y0, y1, y2, y3, y4, y5, y6⟩ := Y2.out.next h
    exact ⟨h, x0, x1, x2, x3, x4, x5, x6, y0, y1, y2, y3, y4, y5, y6⟩
  have HD0 : Hid (Below w2.heap.size w2 w2.drew) := (Below.refl _ _).drew
  have e1 : (SS == SS) = true := by simp
  have e2 : (SB == SB) = true := by simp
  clear HSP HSD HBR HBP HBD HLX HLY HOK1 HOK2 hw0 hw1 hw2 X0 X1 Y0 Y1 q0 q1 q2 q3 q4 q5 q6 r0 r1 r2 r3 r4 r5 r6
  go_upto_region 3 with fail
  go_region_held3 (fun W => Below w2.heap.size w2 W ∧ W.cell? ⟨w.heap.size, 0, none⟩ = some (.int .i64 K) ∧ W.cell? ⟨w.heap.size, 1, none⟩ = some (.int .i64 O) ∧ W.cell? ⟨w.heap.size, 2, none⟩ = some (.string S) ∧ W.cell? ⟨w.heap.size, 3, none⟩ = some (.slice a1 L1 c1) ∧ W.cell? ⟨w.heap.size, 4, none⟩ = some (.slice a2 L2 c2) ∧ W.cell? ⟨w.heap.size, 5, none⟩ = some (.slice ak LK ck) ∧ W.cell? ⟨w.heap.size, 6, none⟩ = some (.int .i64 P) ∧ W.cell? ⟨w.heap.size + 1, 0, none⟩ = some (.int .i64 K') ∧ W.cell? ⟨w.heap.size + 1, 1, none⟩ = some (.int .i64 O') ∧ W.cell? ⟨w.heap.size + 1, 2, none⟩ = some (.string S') ∧ W.cell? ⟨w.heap.size + 1, 3, none⟩ = some (.slice a1' L1' c1') ∧ W.cell? ⟨w.heap.size + 1, 4, none⟩ = some (.slice a2' L2' c2') ∧ W.cell? ⟨w.heap.size + 1, 5, none⟩ = some (.slice ak' LK' ck') ∧ W.cell? ⟨w.heap.size + 1, 6, none⟩ = some (.int .i64 P')) (first | with_reducible exact KS.out _ HD0.out | with_reducible exact KS.out _ (by with_reducible assumption))
    (first
      | (go_at_call 21; first | ((with_reducible refine (KP.out _ HD0.out).mono ?_); rintro e w3 ⟨rfl, hb3⟩) | ((with_reducible refine (KBP.out _ (by with_reducible assumption) _ _ _ _ _ _ (by with_reducible assumption)).mono ?_); rintro e w5 ⟨rfl, hb5⟩))
      | (go_at_call 22; first | ((with_reducible refine (KD.out _ (by with_reducible assumption)).mono ?_); rintro e w4 ⟨rfl, hb4⟩) | ((with_reducible refine (KBD.out _ (by with_reducible assumption) _ _ _ _ _ _ (by with_reducible assumption)).mono ?_); rintro e w7 ⟨rfl, hb7⟩))
      | (go_at_call 23; refine (KR.out _ (by with_reducible assumption)).mono ?_; rintro e w6 ⟨⟨d1, e1, d2, e2, dk, ek, rfl, hN⟩, hb6⟩)
      | (go_at_call 9; refine (KW.out _ (by with_reducible assumption)).mono ?_; rintro e w8 ⟨rfl, hb8⟩))
  all_goals
    go_wp2
    go_ret
    exact ⟨rfl, HGW.out _ (by assumption)⟩
set_option maxRecDepth 100000 in
theorem lifted (os : Os) (started : os.Started) (H : Type) (enc : TypeId × Value → H) :
    ReturnsInHanded {} Try.checked os 5 .any (Rows.coreSameSpec.pre6 enc Try.prog Try.f5 Rows.coreSameRow.domain false) (Rows.coreSameSpec.post enc Try.prog Try.f5 false true false false) := by
  refine returnsInHanded_of_change_sized (C := Try.checked) own started (by kernel_rfl) Try.func5
    (ChangeSpec.witness6 (enc := enc) (C := Try.checked) false ⟨#[], #[.agg #[.int .i64 0, .int .i64 0, .string { data := #[] }, .slice none 0 0, .slice none 0 0, .slice none 0 0, .int .i64 0], .agg #[.int .i64 0, .int .i64 0, .string { data := #[] }, .slice none 0 0, .slice none 0 0, .slice none 0 0, .int .i64 0]], []⟩ 8 (by kernel_rfl) (by kernel_rfl) (by kernel_rfl) (by kernel_rfl)) ?_
  intro W base args ds gs before hval0 hW _ hsz0 _
  have hsz : (DataW.weightsEach Try.prog (Try.f5.params.toList ++ Rows.coreSameSpec.plain.varTypes Try.prog) (ds ++ gs)).all (· ≤ reachBytes) = true := hsz0
  clear hsz0
  have hval : ∀ (j : Nat) t v, Try.f5.params[j]? = some t → args[j]? = some v → Value.okWide Try.prog W .any base t v := hval0
  have hW' := hW
  obtain ⟨p, q, hA0, hV, rfl, hfz, hnd⟩ := hW
  have hA : DataW.TrodAll enc Try.prog W 0 (fun _ => true) true Try.f5.params.toList args.toList ds p := hA0
  rw [Try.params5] at hA hval hsz
  obtain ⟨v0, vs0, d0, ds0, p0, q0, hargs, rfl, rfl, h0, r0⟩ := trodAll_cons hA
  obtain ⟨v1, vs1, d1, ds1, p1, q1, rfl, rfl, rfl, h1, r1⟩ := trodAll_cons r0
  obtain ⟨rfl, rfl, rfl⟩ := trodAll_nil r1
  obtain rfl : args = #[v0, v1] := by cases args; simp_all
  obtain ⟨rfl, rfl⟩ := trodVars_none hV
  have k0 := h0
  have lt0 : ∀ x ∈ p0, x.block < W.heap.size := by obtain ⟨m, hm⟩ := k0; exact DataW.trod_lt m _ _ _ hm
  obtain ⟨m0, n0, y0, c00, c01, c02, c03, c04, c05, c06, hc0, w0⟩ := node_of hsz (j := 0) rfl rfl h0
  obtain rfl := agg_seven hc0
  have k1 := h1
  have lt1 : ∀ x ∈ p1, x.block < W.heap.size := by obtain ⟨m, hm⟩ := k1; exact DataW.trod_lt m _ _ _ hm
  obtain ⟨m1, n1, y1, c10, c11, c12, c13, c14, c15, c16, hc1, w1⟩ := node_of hsz (j := 1) rfl rfl h1
  obtain rfl := agg_seven hc1
  clear hA0 hval0
  refine (walk m0 n0 y0 c00 c01 c02 c03 c04 c05 c06 m1 n1 y1 c10 c11 c12 c13 c14 c15 c16 W w0 w1).mono fun e W' ⟨he, bel⟩ => ?_
  subst he
  exact ⟨_, rfl, _, _, _, [], _, [], hW', trodAll_mk1 (shut_bool Try.underlying4 _), (trodAll_cons_mk (Below.trod laidOut (by kernel_rfl) (of_decide_eq_true (by kernel_rfl)) k0 bel lt0) (trodAll_cons_mk (Below.trod laidOut (by kernel_rfl) (of_decide_eq_true (by kernel_rfl)) k1 bel lt1) trodAll_mk0)), rfl, bel.frame _, fun h => by cases h⟩
theorem over : Rows.coreSameRow.holds Try.pinned (OpenSpec.ofChange Rows.coreSameSpec) :=
  OpenClaim.holds_of_wide 5 Try.f5 rfl rfl rfl rfl rfl rfl rfl ⟨rfl, rfl, rfl, rfl, rfl⟩ rfl rfl rfl rfl rfl (by kernel_rfl) Try.func5 (by kernel_rfl)
    (of_decide_eq_true (by kernel_rfl)) (by unfold Func.isWrapper; first | (rw [if_pos (by decide +kernel)]; kernel_rfl) | (rw [if_neg (by decide +kernel)]; exact ⟨rfl, rfl⟩))
    (fun os started H enc _ => lifted os started H enc)
theorem proved : Rows.CoreSameSaid := over
end Go.Proofs.Ytkgpoibnilgaeaa.coreSame
namespace Go.Proofs.Ytkgpoibnilgaeaa
theorem coreSame_holds : Rows.CoreSameSaid := coreSame.proved
#print axioms coreSame_holds
end Go.Proofs.Ytkgpoibnilgaeaa
