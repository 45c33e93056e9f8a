/-
  For all numbers and programs the statement CoreWraps holds: what is made of programs that may be, by a function that may stand there, may be, if it is not too much; no condition (the given row speaks of what a machine of 64 bits can hold).
-/
import Derived.Test.YtkgpoibnilgaeaaCoS
import Derived.Test.YtkgpoibnilgaeaaCoT
import Derived.Test.YtkgpoibnilgaeaaCoU
import Derived.Deep.RegionHeld3
import Derived.Deep.Cut
import Derived.Deep.CutRange
import Derived.ChangeMaps5
namespace Go.Proofs.Ytkgpoibnilgaeaa.coreWraps
open Go.ChangeShapes Go.WideShapes Go.ChangeAt Go.RowKit
set_option linter.unusedVariables false
set_option linter.unusedSimpArgs false
set_option maxRecDepth 100000
set_option maxHeartbeats 16000000 in
theorem walk (op : Int) (m1 n1 : Nat) (x : Nd) (u0 u1 u2 u3 u4 u5 u6 : Value) (m2 n2 : Nat) (y : Nd) (v0 v1 v2 v3 v4 v5 v6 : Value) (w : World) (hx : NdIn m1 n1 0 w x (.agg #[u0, u1, u2, u3, u4, u5, u6])) (hy : NdIn m2 n2 0 w y (.agg #[v0, v1, v2, v3, v4, v5, v6])) :
    Calls Try.prog 7 #[.int .i64 op, .agg #[u0, u1, u2, u3, u4, u5, u6], .agg #[v0, v1, v2, v3, v4, v5, v6]] w fun e w' => e = .returned (.bool true) ∧ Below w.heap.size w w' := by
  obtain ⟨m, hm⟩ : ∃ m, m1 + m2 + 2 = m + 2 := ⟨_, rfl⟩
  obtain ⟨n, hn⟩ : ∃ n, n1 + n2 + 1 = n + 1 := ⟨_, rfl⟩
  replace hx : NdIn (m + 2) (n + 1) 0 w x (.agg #[u0, u1, u2, u3, u4, u5, u6]) := (hx.deep (by omega)).boxes (by omega)
  replace hy : NdIn (m + 2) (n + 1) 0 w y (.agg #[v0, v1, v2, v3, v4, v5, v6]) := (hy.deep (by omega)).boxes (by omega)
  clear hm hn
  have hxx := hx
  have hyy := hy
  obtain ⟨m', hm', a1, c1, a2, c2, ak, ck, hv, hA, hl, hs, hK⟩ := hx.letters
  simp only [Value.agg.injEq, Array.mk.injEq, List.cons.injEq, and_true] at hv
  obtain ⟨rfl, rfl, rfl, rfl, rfl, rfl, rfl⟩ := hv
  obtain ⟨m'', hm'', a1', c1', a2', c2', ak', ck', hv, hA', hl', hs', hK'⟩ := hy.letters
  simp only [Value.agg.injEq, Array.mk.injEq, List.cons.injEq, and_true] at hv
  obtain ⟨rfl, rfl, rfl, rfl, rfl, rfl, rfl⟩ := hv
  have X0 := hide ((box7_new w x.kind x.op x.name (.slice a1 x.lit.shape.length c1) (.slice a2 x.lit.cells.length c2) (.slice ak x.kids.length ck) x.pos).next (one_alloc _ (.cells #[.int .i64 y.kind, .int .i64 y.op, .string y.name, .slice a1' y.lit.shape.length c1', .slice a2' y.lit.cells.length c2', .slice ak' y.kids.length ck', .int .i64 y.pos] 28)))
  have Y0 : Hid (Box7 w (w.heap.size + 1) y.kind y.op y.name (.slice a1' y.lit.shape.length c1') (.slice a2' y.lit.cells.length c2') (.slice ak' y.kids.length ck') y.pos ((w.alloc (.cells #[.int .i64 x.kind, .int .i64 x.op, .string x.name, .slice a1 x.lit.shape.length c1, .slice a2 x.lit.cells.length c2, .slice ak x.kids.length ck, .int .i64 x.pos] 28)).alloc (.cells #[.int .i64 y.kind, .int .i64 y.op, .string y.name, .slice a1' y.lit.shape.length c1', .slice a2' y.lit.cells.length c2', .slice ak' y.kids.length ck', .int .i64 y.pos] 28))) := by
    have h := box7_new (w.alloc (.cells #[.int .i64 x.kind, .int .i64 x.op, .string x.name, .slice a1 x.lit.shape.length c1, .slice a2 x.lit.cells.length c2, .slice ak x.kids.length ck, .int .i64 x.pos] 28)) y.kind y.op y.name (.slice a1' y.lit.shape.length c1') (.slice a2' y.lit.cells.length c2') (.slice ak' y.kids.length ck') y.pos
    have hsz : (w.alloc (.cells #[.int .i64 x.kind, .int .i64 x.op, .string x.name, .slice a1 x.lit.shape.length c1, .slice a2 x.lit.cells.length c2, .slice ak x.kids.length ck, .int .i64 x.pos] 28)).heap.size = w.heap.size + 1 := by simp
    generalize w.alloc (.cells #[.int .i64 x.kind, .int .i64 x.op, .string x.name, .slice a1 x.lit.shape.length c1, .slice a2 x.lit.cells.length c2, .slice ak x.kids.length ck, .int .i64 x.pos] 28) = W1 at *
    rw [hsz] at h
    exact ⟨X0.out.1, h.2⟩
  have hw0 := X0.out.1
  have HLX := hide (fun wr (hwr : Below w.heap.size w wr) => light8 (hxx.next hwr))
  have HLY := hide (fun wr (hwr : Below w.heap.size w wr) => light8 (hyy.next hwr))
  have HCX := hide (fun (hsz : sizeN (m + 2) x ≤ 3000) wr (hwr : Below w.heap.size w wr) => rcheck11 (m + 2) (n + 1) x 0 _ wr (hxx.next hwr) (by omega))
  have HCY := hide (fun (hsz : sizeN (m + 2) y ≤ 3000) wr (hwr : Below w.heap.size w wr) => rcheck11 (m + 2) (n + 1) y 0 _ wr (hyy.next hwr) (by omega))
  have HWO : Hid (errN (m + 2) x = 0 → errN (m + 2) y = 0 → sizeN (m + 3) (twoD (primD op) x y) ≤ 2048 → deepN (m + 3) (twoD (primD op) x y) ≤ 24 → deepN (m + 3) (oneD (withD 31 (primD op)) y) ≤ 24 → (errN (m + 3) (oneD (primD op) x) = 0 ↔ frm op 1 19 = true) ∧ (errN (m + 3) (twoD (primD op) x y) = 0 ↔ (frm op 21 32 || frm op 41 54) = true) ∧ (errN (m + 3) (oneD (withD 31 (primD op)) y) = 0 ↔ frm op 21 32 = true)) := wraps_ok
  have HWS : Hid (sizeN (m + 2) x ≤ 3000 → sizeN (m + 2) y ≤ 3000 → sizeN (m + 3) (twoD (primD op) x y) ≤ 100000 ∧ sizeN (m + 3) (oneD (withD 31 (primD op)) y) ≤ 100000) := wraps_size
  have HMA : Hid (∀ W bk, Below w.heap.size w W → W.heap[bk]? = some (.cells #[.int .i64 21, .int .i64 op, .string { data := #[] }, .slice none 0 0, .slice none 0 0, .slice none 0 0, .int .i64 0, .int .i64 x.kind, .int .i64 x.op, .string x.name, .slice a1 x.lit.shape.length c1, .slice a2 x.lit.cells.length c2, .slice ak x.kids.length ck, .int .i64 x.pos] 28 (0, 0)) → NdIn (m + 3) (n + 1) 0 W (oneD (primD op) x) (.agg #[.int .i64 5, .int .i64 0, .string { data := #[] }, .slice none 0 0, .slice none 0 0, .slice (some ⟨bk, 0, none⟩) 2 2, .int .i64 0])) := fun W bk hW hb => one_in (prim_in (m + 1) n op W) (hxx.next hW) hb
  have HMB : Hid (∀ W bk, Below w.heap.size w W → W.heap[bk]? = some (.cells #[.int .i64 21, .int .i64 op, .string { data := #[] }, .slice none 0 0, .slice none 0 0, .slice none 0 0, .int .i64 0, .int .i64 x.kind, .int .i64 x.op, .string x.name, .slice a1 x.lit.shape.length c1, .slice a2 x.lit.cells.length c2, .slice ak x.kids.length ck, .int .i64 x.pos, .int .i64 y.kind, .int .i64 y.op, .string y.name, .slice a1' y.lit.shape.length c1', .slice a2' y.lit.cells.length c2', .slice ak' y.kids.length ck', .int .i64 y.pos] 28 (0, 0)) → NdIn (m + 3) (n + 1) 0 W (twoD (primD op) x y) (.agg #[.int .i64 6, .int .i64 0, .string { data := #[] }, .slice none 0 0, .slice none 0 0, .slice (some ⟨bk, 0, none⟩) 3 3, .int .i64 0])) := fun W bk hW hb => two_in (prim_in (m + 1) n op W) (hxx.next hW) (hyy.next hW) hb
  have HMC : Hid (∀ W bk bk', Below w.heap.size w W → W.heap[bk]? = some (.cells #[.int .i64 21, .int .i64 op, .string { data := #[] }, .slice none 0 0, .slice none 0 0, .slice none 0 0, .int .i64 0] 28 (0, 0)) → W.heap[bk']? = some (.cells #[.int .i64 31, .int .i64 0, .string { data := #[] }, .slice none 0 0, .slice none 0 0, .slice (some ⟨bk, 0, none⟩) 1 1, .int .i64 0, .int .i64 y.kind, .int .i64 y.op, .string y.name, .slice a1' y.lit.shape.length c1', .slice a2' y.lit.cells.length c2', .slice ak' y.kids.length ck', .int .i64 y.pos] 28 (0, 0)) → NdIn (m + 3) (n + 1) 0 W (oneD (withD 31 (primD op)) y) (.agg #[.int .i64 5, .int .i64 0, .string { data := #[] }, .slice none 0 0, .slice none 0 0, .slice (some ⟨bk', 0, none⟩) 2 2, .int .i64 0])) := fun W bk bk' hW hb hb' => one_in (with_in (prim_in m n op W) hb) (hyy.next hW) hb'
  clear hxx hyy hA hA' hK hK' hx hy hm' hm''
  unfold GivesL at HLX HLY
  have HSX : Hid (∀ ok : Bool, (ok = true → sizeN (m + 2) x ≤ 3000) → ok = true → sizeN (m + 2) x ≤ 3000) := fun ok h h' => h h'
  generalize errN (m + 2) x = EX at *
  generalize errN (m + 2) y = EY at *
  generalize hSMX : (sizeN (m + 2) x ≤ 3000) = SMX at *
  generalize hSMY : (sizeN (m + 2) y ≤ 3000) = SMY at *
  generalize hNA : oneD (primD op) x = NA at *
  generalize hNB : twoD (primD op) x y = NB at *
  generalize hNC : oneD (withD 31 (primD op)) y = NC at *
  clear hSMX hSMY hNA hNB hNC HSX
  generalize x.kind = K at *
  generalize x.op = O at *
  generalize x.name = S at *
  generalize x.pos = P at *
  generalize x.lit.shape.length = L1 at *
  generalize x.lit.cells.length = L2 at *
  generalize x.kids.length = LK at *
  generalize y.kind = K' at *
  generalize y.op = O' at *
  generalize y.name = S' at *
  generalize y.pos = P' at *
  generalize y.lit.shape.length = L1' at *
  generalize y.lit.cells.length = L2' at *
  generalize y.kids.length = LK' at *
  obtain ⟨-, -, q0, q1, q2, q3, q4, q5, q6⟩ := X0.out
  obtain ⟨-, -, r0, r1, r2, r3, r4, r5, r6⟩ := Y0.out
  go_enter Try.func7, Try.ntmps7
  go_wp2_with fail
  refine (HLX.out _ hw0).mono ?_
  rintro e w1 ⟨ok, rfl, hok, hb1⟩
  have X1 := hide (X0.out.next hb1)
  have Y1 := hide (Y0.out.next hb1)
  have HOK1 := hide hok
  clear hb1 hok q0 q1 q2 q3 q4 q5 q6 r0 r1 r2 r3 r4 r5 r6
  obtain ⟨hw1, -, q0, q1, q2, q3, q4, q5, q6⟩ := X1.out
  obtain ⟨-, -, r0, r1, r2, r3, r4, r5, r6⟩ := Y1.out
  cases ok
  · go_wp2_with fail
    all_goals refine (works9 _).mono ?_
    all_goals rintro e ww ⟨rfl, hbw⟩
    all_goals go_wp2
    all_goals go_ret
    all_goals exact ⟨rfl, X1.out.1.trans (hbw.mono X1.out.1.size)⟩
  go_wp2_with fail
  refine (HLY.out _ hw1).mono ?_
  rintro e w2 ⟨ok, rfl, hok, hb2⟩
  have X2 := hide (X1.out.next hb2)
  have Y2 := hide (Y1.out.next hb2)
  have HOK2 := hide hok
  clear hb2 hok q0 q1 q2 q3 q4 q5 q6 r0 r1 r2 r3 r4 r5 r6
  obtain ⟨hw2, -, q0, q1, q2, q3, q4, q5, q6⟩ := X2.out
  obtain ⟨-, -, r0, r1, r2, r3, r4, r5, r6⟩ := Y2.out
  cases ok
  · go_wp2_with fail
    all_goals refine (works9 _).mono ?_
    all_goals rintro e ww ⟨rfl, hbw⟩
    all_goals go_wp2
    all_goals go_ret
    all_goals exact ⟨rfl, X2.out.1.trans (hbw.mono X2.out.1.size)⟩
  have HSX := hide (HOK1.out (by first | rfl | trivial))
  have HSY := hide (HOK2.out (by first | rfl | trivial))
  clear HOK1 HOK2 HLX HLY
  have HCX' := hide (HCX.out HSX.out)
  go_wp2_with fail
  refine (HCX'.out _ hw2).mono ?_
  rintro e w3 ⟨rfl, hb3⟩
  have X3 := hide (X2.out.next hb3)
  have Y3 := hide (Y2.out.next hb3)
  clear hb3 HCX HCX' q0 q1 q2 q3 q4 q5 q6 r0 r1 r2 r3 r4 r5 r6
  obtain ⟨hw3, -, q0, q1, q2, q3, q4, q5, q6⟩ := X3.out
  obtain ⟨-, -, r0, r1, r2, r3, r4, r5, r6⟩ := Y3.out
  by_cases hEX : ¬ EX = 0
  · have hEX' : (EX == 0) = false := beq_eq_false_iff_ne.2 hEX
    have hEX'' : (EX != 0) = true := by simp [hEX]
    go_wp2_with fail
    all_goals refine (works9 _).mono ?_
    all_goals rintro e ww ⟨rfl, hbw⟩
    all_goals go_wp2
    all_goals go_ret
    all_goals exact ⟨rfl, X3.out.1.trans (hbw.mono X3.out.1.size)⟩
  replace hEX : EX = 0 := Decidable.not_not.1 hEX
  have HEX := hide hEX
  have gEX : (EX == 0) = true := by simp [hEX]
  have gEX' : (EX != 0) = false := by simp [hEX]
  clear hEX
  have HCY' := hide (HCY.out HSY.out)
  go_wp2_with fail
  refine (HCY'.out _ hw3).mono ?_
  rintro e w4 ⟨rfl, hb4⟩
  have X4 := hide (X3.out.next hb4)
  have Y4 := hide (Y3.out.next hb4)
  clear hb4 HCY HCY' q0 q1 q2 q3 q4 q5 q6 r0 r1 r2 r3 r4 r5 r6
  obtain ⟨hw4, -, q0, q1, q2, q3, q4, q5, q6⟩ := X4.out
  obtain ⟨-, -, r0, r1, r2, r3, r4, r5, r6⟩ := Y4.out
  by_cases hEY : ¬ EY = 0
  · have hEY' : (EY == 0) = false := beq_eq_false_iff_ne.2 hEY
    have hEY'' : (EY != 0) = true := by simp [hEY]
    go_wp2_with fail
    all_goals refine (works9 _).mono ?_
    all_goals rintro e ww ⟨rfl, hbw⟩
    all_goals go_wp2
    all_goals go_ret
    all_goals exact ⟨rfl, X4.out.1.trans (hbw.mono X4.out.1.size)⟩
  replace hEY : EY = 0 := Decidable.not_not.1 hEY
  have HEY := hide hEY
  have gEY : (EY == 0) = true := by simp [hEY]
  have gEY' : (EY != 0) = false := by simp [hEY]
  clear hEY
  have HZZ := hide (HWS.out HSX.out HSY.out)
  have HXX : Hid (∀ W, Below w4.heap.size w4 W → Box7 w w.heap.size K O S (.slice a1 L1 c1) (.slice a2 L2 c2) (.slice ak LK ck) P W) := fun W h => X4.out.next h
  have HYY : Hid (∀ W, Below w4.heap.size w4 W → Box7 w (w.heap.size + 1) K' O' S' (.slice a1' L1' c1') (.slice a2' L2' c2') (.slice ak' LK' ck') P' W) := fun W h => Y4.out.next h
  have HG4 := hide X4.out.1
  clear X0 X1 X2 X3 Y0 Y1 Y2 Y3 hw0 hw1 hw2 hw3 hw4 q0 q1 q2 q3 q4 q5 q6 r0 r1 r2 r3 r4 r5 r6 HWS HSX HSY X4 Y4
  go_upto_region 3 with fail
  clear gEX gEX' gEY gEY'
  have KS : Hid (∀ W, Below w4.heap.size w4 W → (Below w4.heap.size w4 W ∧ W.cell? ⟨w.heap.size, 0, none⟩ = some (.int .i64 K) ∧ W.cell? ⟨w.heap.size, 1, none⟩ = some (.int .i64 O) ∧ W.cell? ⟨w.heap.size, 2, none⟩ = some (.string S) ∧ W.cell? ⟨w.heap.size, 3, none⟩ = some (.slice a1 L1 c1) ∧ W.cell? ⟨w.heap.size, 4, none⟩ = some (.slice a2 L2 c2) ∧ W.cell? ⟨w.heap.size, 5, none⟩ = some (.slice ak LK ck) ∧ W.cell? ⟨w.heap.size, 6, none⟩ = some (.int .i64 P) ∧ W.cell? ⟨w.heap.size + 1, 0, none⟩ = some (.int .i64 K') ∧ W.cell? ⟨w.heap.size + 1, 1, none⟩ = some (.int .i64 O') ∧ W.cell? ⟨w.heap.size + 1, 2, none⟩ = some (.string S') ∧ W.cell? ⟨w.heap.size + 1, 3, none⟩ = some (.slice a1' L1' c1') ∧ W.cell? ⟨w.heap.size + 1, 4, none⟩ = some (.slice a2' L2' c2') ∧ W.cell? ⟨w.heap.size + 1, 5, none⟩ = some (.slice ak' LK' ck') ∧ W.cell? ⟨w.heap.size + 1, 6, none⟩ = some (.int .i64 P'))) := fun W h => by
    obtain ⟨-, -, x0, x1, x2, x3, x4, x5, x6⟩ := HXX.out W h
    obtain ⟨-, -, y0, y1, y2, y3, y4, y5, y6⟩ := HYY.out W h
    exact ⟨h, x0, x1, x2, x3, x4, x5, x6, y0, y1, y2, y3, y4, y5, y6⟩
  have CP : Hid (∀ W, Below w4.heap.size w4 W → _) := fun W h => primS op w4 W h
  have CO : Hid (∀ W, Below w4.heap.size w4 W → _) := fun W h => oneS 21 op ({ data := #[] } : ByteArray) none 0 0 none 0 0 none 0 0 0 K O S a1 L1 c1 a2 L2 c2 ak LK ck P w4 W h
  go_cut [7] from 33 to 36 (fun sx wx => ∃ B bk, sx = .pointer (some ⟨B, 0, none⟩) ∧ Below w4.heap.size w4 wx ∧ Vr wx B (.int .i64 5) (.int .i64 0) (.string { data := #[] }) (.slice none 0 0) (.slice none 0 0) (.slice (some ⟨bk, 0, none⟩) 2 2) (.int .i64 0) ∧ wx.heap[bk]? = some (.cells #[.int .i64 21, .int .i64 op, .string { data := #[] }, .slice none 0 0, .slice none 0 0, .slice none 0 0, .int .i64 0, .int .i64 K, .int .i64 O, .string S, .slice a1 L1 c1, .slice a2 L2 c2, .slice ak LK ck, .int .i64 P] 28 (0, 0)))
  case first =>
    have HD0 : Hid (Below w4.heap.size w4 w4.drew) := (Below.refl _ _).drew
    have HD1 : Hid (Below w4.heap.size w4 (w4.alloc (.cells #[.int .i64 0, .int .i64 0, .string { data := #[] }, .slice none 0 0, .slice none 0 0, .slice none 0 0, .int .i64 0] 28)).drew) := (one_alloc _ _).drew
    have HD2 : Hid (Below w4.heap.size w4 (w4.drew.alloc (.cells #[.int .i64 0, .int .i64 0, .string { data := #[] }, .slice none 0 0, .slice none 0 0, .slice none 0 0, .int .i64 0] 28))) := (Below.refl _ _).drew.alloc (Nat.le_refl _) _
    have HAL : Hid (∀ W o, Below w4.heap.size w4 W → Below w4.heap.size w4 (W.alloc o)) := fun W o h => h.alloc h.size o
    have HSET : Hid (∀ W b v0 v1 v2 v3 v4 v5 v6, Below w4.heap.size w4 W → w4.heap.size ≤ b → Below w4.heap.size w4 (((((((W.setCell ⟨b, 0, none⟩ v0).setCell ⟨b, 1, none⟩ v1).setCell ⟨b, 2, none⟩ v2).setCell ⟨b, 3, none⟩ v3).setCell ⟨b, 4, none⟩ v4).setCell ⟨b, 5, none⟩ v5).setCell ⟨b, 6, none⟩ v6)) := fun W b v0 v1 v2 v3 v4 v5 v6 h hb => ((((((h.setCell (p := ⟨b, 0, none⟩) hb v0).setCell (p := ⟨b, 1, none⟩) hb v1).setCell (p := ⟨b, 2, none⟩) hb v2).setCell (p := ⟨b, 3, none⟩) hb v3).setCell (p := ⟨b, 4, none⟩) hb v4).setCell (p := ⟨b, 5, none⟩) hb v5).setCell (p := ⟨b, 6, none⟩) hb v6
    have HLE : Hid (w4.heap.size ≤ w4.heap.size) := Nat.le_refl _
    go_region_held3 (fun W => Below w4.heap.size w4 W ∧ W.cell? ⟨w.heap.size, 0, none⟩ = some (.int .i64 K) ∧ W.cell? ⟨w.heap.size, 1, none⟩ = some (.int .i64 O) ∧ W.cell? ⟨w.heap.size, 2, none⟩ = some (.string S) ∧ W.cell? ⟨w.heap.size, 3, none⟩ = some (.slice a1 L1 c1) ∧ W.cell? ⟨w.heap.size, 4, none⟩ = some (.slice a2 L2 c2) ∧ W.cell? ⟨w.heap.size, 5, none⟩ = some (.slice ak LK ck) ∧ W.cell? ⟨w.heap.size, 6, none⟩ = some (.int .i64 P) ∧ W.cell? ⟨w.heap.size + 1, 0, none⟩ = some (.int .i64 K') ∧ W.cell? ⟨w.heap.size + 1, 1, none⟩ = some (.int .i64 O') ∧ W.cell? ⟨w.heap.size + 1, 2, none⟩ = some (.string S') ∧ W.cell? ⟨w.heap.size + 1, 3, none⟩ = some (.slice a1' L1' c1') ∧ W.cell? ⟨w.heap.size + 1, 4, none⟩ = some (.slice a2' L2' c2') ∧ W.cell? ⟨w.heap.size + 1, 5, none⟩ = some (.slice ak' LK' ck') ∧ W.cell? ⟨w.heap.size + 1, 6, none⟩ = some (.int .i64 P'))
      (first | with_reducible exact KS.out _ HD0.out | with_reducible exact KS.out _ HD1.out | with_reducible exact KS.out _ HD2.out | with_reducible exact KS.out _ (by with_reducible assumption) | with_reducible exact KS.out _ (HAL.out _ _ (by with_reducible assumption)) | with_reducible exact KS.out _ (HSET.out _ _ _ _ _ _ _ _ _ (by with_reducible assumption) (by with_reducible assumption)) | with_reducible exact KS.out _ (HSET.out _ _ _ _ _ _ _ _ _ (by with_reducible assumption) HLE.out))
      (first
        | (go_at_call 25; first
            | ((with_reducible refine (CP.out _ HD0.out).mono ?_); rintro e w5 ⟨rfl, g5, hb5⟩; have s5 := g5.size; clear hb5)
            | ((with_reducible refine (CP.out _ HD1.out).mono ?_); rintro e w5 ⟨rfl, g5, hb5⟩; have t5 := (Zb.new w4).drew.next hb5; have s5 := HLE.out; clear hb5)
            | ((with_reducible refine (CP.out _ HD2.out).mono ?_); rintro e w5 ⟨rfl, g5, hb5⟩; have t5 := (Zb.new w4.drew).next hb5; have s5 := HLE.out; clear hb5))
        | (go_at_call 24; first
            | ((with_reducible refine (CO.out w5 g5).mono ?_); rintro e w6 ⟨⟨bk, rfl, hbk, hl1, hl2⟩, g6, hb6⟩; first | (have t6 := t5.next hb6; have z6 := t5.lt; obtain ⟨⟨k0, k1, k2, k3, k4, k5, k6⟩, j0, j1, j2, j3, j4, j5, j6⟩ := t6.facts) | skip)
            | ((with_reducible refine (CO.out (w5.alloc (.cells #[.int .i64 0, .int .i64 0, .string { data := #[] }, .slice none 0 0, .slice none 0 0, .slice none 0 0, .int .i64 0] 28)) (g5.alloc g5.size _)).mono ?_); rintro e w6 ⟨⟨bk, rfl, hbk, hl1, hl2⟩, g6, hb6⟩; have t6 := (Zb.new w5).next hb6; have z6 := (Zb.new w5).lt; obtain ⟨⟨k0, k1, k2, k3, k4, k5, k6⟩, j0, j1, j2, j3, j4, j5, j6⟩ := t6.facts)))
    all_goals
      go_wp2
      go_meet
    all_goals
      case rel =>
        refine ⟨_, bk, rfl, ?_⟩
        first
          | with_reducible exact vr_newK g6 hbk
          | with_reducible exact vr_oldK t6 g5.size g6 (by omega) hbk
          | with_reducible exact vr_oldK t6 (Nat.le_refl _) g6 (by omega) hbk
  case rest =>
  obtain ⟨B1, b1, rfl, gA, VA, hA1⟩ := hcut
  generalize wc = wA at *
  have HGA := hide (HG4.out.trans (gA.mono HG4.out.size))
  have HVA : Hid (∀ W, Below wA.heap.size wA W → Vr W B1 (.int .i64 5) (.int .i64 0) (.string { data := #[] }) (.slice none 0 0) (.slice none 0 0) (.slice (some ⟨b1, 0, none⟩) 2 2) (.int .i64 0)) := fun W h => VA.next h
  have HAB : Hid (∀ W, Below wA.heap.size wA W → W.heap[b1]? = some (.cells #[.int .i64 21, .int .i64 op, .string { data := #[] }, .slice none 0 0, .slice none 0 0, .slice none 0 0, .int .i64 0, .int .i64 K, .int .i64 O, .string S, .slice a1 L1 c1, .slice a2 L2 c2, .slice ak LK ck, .int .i64 P] 28 (0, 0))) := fun W h => (h.block b1 (by
    refine Decidable.byContradiction fun hn => ?_
    have : wA.heap[b1]? = none := by simp; omega
    rw [this] at hA1
    cases hA1)).trans hA1
  have HXA : Hid (∀ W, Below wA.heap.size wA W → Box7 w w.heap.size K O S (.slice a1 L1 c1) (.slice a2 L2 c2) (.slice ak LK ck) P W) := fun W h => HXX.out W (gA.trans (h.mono gA.size))
  have HYA : Hid (∀ W, Below wA.heap.size wA W → Box7 w (w.heap.size + 1) K' O' S' (.slice a1' L1' c1') (.slice a2' L2' c2') (.slice ak' LK' ck') P' W) := fun W h => HYY.out W (gA.trans (h.mono gA.size))
  clear KS CP CO HXX HYY gA VA hA1 HG4
  have HXX := HXA
  have HYY := HYA
  clear HXA HYA
  go_upto_region 4 with fail
  have KS : Hid (∀ W, Below wA.heap.size wA W → (Below wA.heap.size wA W ∧ W.cell? ⟨w.heap.size, 0, none⟩ = some (.int .i64 K) ∧ W.cell? ⟨w.heap.size, 1, none⟩ = some (.int .i64 O) ∧ W.cell? ⟨w.heap.size, 2, none⟩ = some (.string S) ∧ W.cell? ⟨w.heap.size, 3, none⟩ = some (.slice a1 L1 c1) ∧ W.cell? ⟨w.heap.size, 4, none⟩ = some (.slice a2 L2 c2) ∧ W.cell? ⟨w.heap.size, 5, none⟩ = some (.slice ak LK ck) ∧ W.cell? ⟨w.heap.size, 6, none⟩ = some (.int .i64 P) ∧ W.cell? ⟨w.heap.size + 1, 0, none⟩ = some (.int .i64 K') ∧ W.cell? ⟨w.heap.size + 1, 1, none⟩ = some (.int .i64 O') ∧ W.cell? ⟨w.heap.size + 1, 2, none⟩ = some (.string S') ∧ W.cell? ⟨w.heap.size + 1, 3, none⟩ = some (.slice a1' L1' c1') ∧ W.cell? ⟨w.heap.size + 1, 4, none⟩ = some (.slice a2' L2' c2') ∧ W.cell? ⟨w.heap.size + 1, 5, none⟩ = some (.slice ak' LK' ck') ∧ W.cell? ⟨w.heap.size + 1, 6, none⟩ = some (.int .i64 P'))) := fun W h => by
    obtain ⟨-, -, x0, x1, x2, x3, x4, x5, x6⟩ := HXX.out W h
    obtain ⟨-, -, y0, y1, y2, y3, y4, y5, y6⟩ := HYY.out W h
    exact ⟨h, x0, x1, x2, x3, x4, x5, x6, y0, y1, y2, y3, y4, y5, y6⟩
  have CP : Hid (∀ W, Below wA.heap.size wA W → _) := fun W h => primS op wA W h
  have CO : Hid (∀ W, Below wA.heap.size wA W → _) := fun W h => twoS 21 op ({ data := #[] } : ByteArray) none 0 0 none 0 0 none 0 0 0 K O S a1 L1 c1 a2 L2 c2 ak LK ck P K' O' S' a1' L1' c1' a2' L2' c2' ak' LK' ck' P' wA W h
  go_cut [8] from 37 to 41 (fun sx wx => ∃ B bk, sx = .pointer (some ⟨B, 0, none⟩) ∧ Below wA.heap.size wA wx ∧ Vr wx B (.int .i64 6) (.int .i64 0) (.string { data := #[] }) (.slice none 0 0) (.slice none 0 0) (.slice (some ⟨bk, 0, none⟩) 3 3) (.int .i64 0) ∧ wx.heap[bk]? = some (.cells #[.int .i64 21, .int .i64 op, .string { data := #[] }, .slice none 0 0, .slice none 0 0, .slice none 0 0, .int .i64 0, .int .i64 K, .int .i64 O, .string S, .slice a1 L1 c1, .slice a2 L2 c2, .slice ak LK ck, .int .i64 P, .int .i64 K', .int .i64 O', .string S', .slice a1' L1' c1', .slice a2' L2' c2', .slice ak' LK' ck', .int .i64 P'] 28 (0, 0)))
  case first =>
    have HD0 : Hid (Below wA.heap.size wA wA.drew) := (Below.refl _ _).drew
    have HD1 : Hid (Below wA.heap.size wA (wA.alloc (.cells #[.int .i64 0, .int .i64 0, .string { data := #[] }, .slice none 0 0, .slice none 0 0, .slice none 0 0, .int .i64 0] 28)).drew) := (one_alloc _ _).drew
    have HD2 : Hid (Below wA.heap.size wA (wA.drew.alloc (.cells #[.int .i64 0, .int .i64 0, .string { data := #[] }, .slice none 0 0, .slice none 0 0, .slice none 0 0, .int .i64 0] 28))) := (Below.refl _ _).drew.alloc (Nat.le_refl _) _
    have HAL : Hid (∀ W o, Below wA.heap.size wA W → Below wA.heap.size wA (W.alloc o)) := fun W o h => h.alloc h.size o
    have HSET : Hid (∀ W b v0 v1 v2 v3 v4 v5 v6, Below wA.heap.size wA W → wA.heap.size ≤ b → Below wA.heap.size wA (((((((W.setCell ⟨b, 0, none⟩ v0).setCell ⟨b, 1, none⟩ v1).setCell ⟨b, 2, none⟩ v2).setCell ⟨b, 3, none⟩ v3).setCell ⟨b, 4, none⟩ v4).setCell ⟨b, 5, none⟩ v5).setCell ⟨b, 6, none⟩ v6)) := fun W b v0 v1 v2 v3 v4 v5 v6 h hb => ((((((h.setCell (p := ⟨b, 0, none⟩) hb v0).setCell (p := ⟨b, 1, none⟩) hb v1).setCell (p := ⟨b, 2, none⟩) hb v2).setCell (p := ⟨b, 3, none⟩) hb v3).setCell (p := ⟨b, 4, none⟩) hb v4).setCell (p := ⟨b, 5, none⟩) hb v5).setCell (p := ⟨b, 6, none⟩) hb v6
    have HLE : Hid (wA.heap.size ≤ wA.heap.size) := Nat.le_refl _
    go_region_held3 (fun W => Below wA.heap.size wA W ∧ W.cell? ⟨w.heap.size, 0, none⟩ = some (.int .i64 K) ∧ W.cell? ⟨w.heap.size, 1, none⟩ = some (.int .i64 O) ∧ W.cell? ⟨w.heap.size, 2, none⟩ = some (.string S) ∧ W.cell? ⟨w.heap.size, 3, none⟩ = some (.slice a1 L1 c1) ∧ W.cell? ⟨w.heap.size, 4, none⟩ = some (.slice a2 L2 c2) ∧ W.cell? ⟨w.heap.size, 5, none⟩ = some (.slice ak LK ck) ∧ W.cell? ⟨w.heap.size, 6, none⟩ = some (.int .i64 P) ∧ W.cell? ⟨w.heap.size + 1, 0, none⟩ = some (.int .i64 K') ∧ W.cell? ⟨w.heap.size + 1, 1, none⟩ = some (.int .i64 O') ∧ W.cell? ⟨w.heap.size + 1, 2, none⟩ = some (.string S') ∧ W.cell? ⟨w.heap.size + 1, 3, none⟩ = some (.slice a1' L1' c1') ∧ W.cell? ⟨w.heap.size + 1, 4, none⟩ = some (.slice a2' L2' c2') ∧ W.cell? ⟨w.heap.size + 1, 5, none⟩ = some (.slice ak' LK' ck') ∧ W.cell? ⟨w.heap.size + 1, 6, none⟩ = some (.int .i64 P'))
      (first | with_reducible exact KS.out _ HD0.out | with_reducible exact KS.out _ HD1.out | with_reducible exact KS.out _ HD2.out | with_reducible exact KS.out _ (by with_reducible assumption) | with_reducible exact KS.out _ (HAL.out _ _ (by with_reducible assumption)) | with_reducible exact KS.out _ (HSET.out _ _ _ _ _ _ _ _ _ (by with_reducible assumption) (by with_reducible assumption)) | with_reducible exact KS.out _ (HSET.out _ _ _ _ _ _ _ _ _ (by with_reducible assumption) HLE.out))
      (first
        | (go_at_call 25; first
            | ((with_reducible refine (CP.out _ HD0.out).mono ?_); rintro e w5 ⟨rfl, g5, hb5⟩; have s5 := g5.size; clear hb5)
            | ((with_reducible refine (CP.out _ HD1.out).mono ?_); rintro e w5 ⟨rfl, g5, hb5⟩; have t5 := (Zb.new wA).drew.next hb5; have s5 := HLE.out; clear hb5)
            | ((with_reducible refine (CP.out _ HD2.out).mono ?_); rintro e w5 ⟨rfl, g5, hb5⟩; have t5 := (Zb.new wA.drew).next hb5; have s5 := HLE.out; clear hb5))
        | (go_at_call 26; first
            | ((with_reducible refine (CO.out w5 g5).mono ?_); rintro e w6 ⟨⟨bk, rfl, hbk, hl1, hl2⟩, g6, hb6⟩; first | (have t6 := t5.next hb6; have z6 := t5.lt; obtain ⟨⟨k0, k1, k2, k3, k4, k5, k6⟩, j0, j1, j2, j3, j4, j5, j6⟩ := t6.facts) | skip)
            | ((with_reducible refine (CO.out (w5.alloc (.cells #[.int .i64 0, .int .i64 0, .string { data := #[] }, .slice none 0 0, .slice none 0 0, .slice none 0 0, .int .i64 0] 28)) (g5.alloc g5.size _)).mono ?_); rintro e w6 ⟨⟨bk, rfl, hbk, hl1, hl2⟩, g6, hb6⟩; have t6 := (Zb.new w5).next hb6; have z6 := (Zb.new w5).lt; obtain ⟨⟨k0, k1, k2, k3, k4, k5, k6⟩, j0, j1, j2, j3, j4, j5, j6⟩ := t6.facts)))
    all_goals
      go_wp2
      go_meet
    all_goals
      case rel =>
        refine ⟨_, bk, rfl, ?_⟩
        first
          | with_reducible exact vr_newK g6 hbk
          | with_reducible exact vr_oldK t6 g5.size g6 (by omega) hbk
          | with_reducible exact vr_oldK t6 (Nat.le_refl _) g6 (by omega) hbk
  case rest =>
  obtain ⟨B2, b2, rfl, gB, VB, hB1⟩ := hcut
  generalize wc = wB at *
  have HGB := hide (HGA.out.trans (gB.mono HGA.out.size))
  have HVB : Hid (∀ W, Below wB.heap.size wB W → Vr W B2 (.int .i64 6) (.int .i64 0) (.string { data := #[] }) (.slice none 0 0) (.slice none 0 0) (.slice (some ⟨b2, 0, none⟩) 3 3) (.int .i64 0)) := fun W h => VB.next h
  have HBB : Hid (∀ W, Below wB.heap.size wB W → W.heap[b2]? = some (.cells #[.int .i64 21, .int .i64 op, .string { data := #[] }, .slice none 0 0, .slice none 0 0, .slice none 0 0, .int .i64 0, .int .i64 K, .int .i64 O, .string S, .slice a1 L1 c1, .slice a2 L2 c2, .slice ak LK ck, .int .i64 P, .int .i64 K', .int .i64 O', .string S', .slice a1' L1' c1', .slice a2' L2' c2', .slice ak' LK' ck', .int .i64 P'] 28 (0, 0))) := fun W h => (h.block b2 (by
    refine Decidable.byContradiction fun hn => ?_
    have : wB.heap[b2]? = none := by simp; omega
    rw [this] at hB1
    cases hB1)).trans hB1
  have HVA2 : Hid (∀ W, Below wB.heap.size wB W → Vr W B1 (.int .i64 5) (.int .i64 0) (.string { data := #[] }) (.slice none 0 0) (.slice none 0 0) (.slice (some ⟨b1, 0, none⟩) 2 2) (.int .i64 0)) := fun W h => HVA.out W (gB.trans (h.mono gB.size))
  have HAB2 : Hid (∀ W, Below wB.heap.size wB W → W.heap[b1]? = some (.cells #[.int .i64 21, .int .i64 op, .string { data := #[] }, .slice none 0 0, .slice none 0 0, .slice none 0 0, .int .i64 0, .int .i64 K, .int .i64 O, .string S, .slice a1 L1 c1, .slice a2 L2 c2, .slice ak LK ck, .int .i64 P] 28 (0, 0))) := fun W h => HAB.out W (gB.trans (h.mono gB.size))
  have HXB : Hid (∀ W, Below wB.heap.size wB W → Box7 w w.heap.size K O S (.slice a1 L1 c1) (.slice a2 L2 c2) (.slice ak LK ck) P W) := fun W h => HXX.out W (gB.trans (h.mono gB.size))
  have HYB : Hid (∀ W, Below wB.heap.size wB W → Box7 w (w.heap.size + 1) K' O' S' (.slice a1' L1' c1') (.slice a2' L2' c2') (.slice ak' LK' ck') P' W) := fun W h => HYY.out W (gB.trans (h.mono gB.size))
  clear KS CP CO HXX HYY gB VB hB1 HGA HVA HAB
  have HXX := HXB
  have HYY := HYB
  clear HXB HYB
  go_upto_region 5 with fail
  have KS : Hid (∀ W, Below wB.heap.size wB W → (Below wB.heap.size wB W ∧ W.cell? ⟨w.heap.size, 0, none⟩ = some (.int .i64 K) ∧ W.cell? ⟨w.heap.size, 1, none⟩ = some (.int .i64 O) ∧ W.cell? ⟨w.heap.size, 2, none⟩ = some (.string S) ∧ W.cell? ⟨w.heap.size, 3, none⟩ = some (.slice a1 L1 c1) ∧ W.cell? ⟨w.heap.size, 4, none⟩ = some (.slice a2 L2 c2) ∧ W.cell? ⟨w.heap.size, 5, none⟩ = some (.slice ak LK ck) ∧ W.cell? ⟨w.heap.size, 6, none⟩ = some (.int .i64 P) ∧ W.cell? ⟨w.heap.size + 1, 0, none⟩ = some (.int .i64 K') ∧ W.cell? ⟨w.heap.size + 1, 1, none⟩ = some (.int .i64 O') ∧ W.cell? ⟨w.heap.size + 1, 2, none⟩ = some (.string S') ∧ W.cell? ⟨w.heap.size + 1, 3, none⟩ = some (.slice a1' L1' c1') ∧ W.cell? ⟨w.heap.size + 1, 4, none⟩ = some (.slice a2' L2' c2') ∧ W.cell? ⟨w.heap.size + 1, 5, none⟩ = some (.slice ak' LK' ck') ∧ W.cell? ⟨w.heap.size + 1, 6, none⟩ = some (.int .i64 P'))) := fun W h => by
    obtain ⟨-, -, x0, x1, x2, x3, x4, x5, x6⟩ := HXX.out W h
    obtain ⟨-, -, y0, y1, y2, y3, y4, y5, y6⟩ := HYY.out W h
    exact ⟨h, x0, x1, x2, x3, x4, x5, x6, y0, y1, y2, y3, y4, y5, y6⟩
  have CP : Hid (∀ W, Below wB.heap.size wB W → _) := fun W h => primS op wB W h
  have CW : Hid (∀ W, Below wB.heap.size wB W → _) := fun W h => withS 31 21 op ({ data := #[] } : ByteArray) none 0 0 none 0 0 none 0 0 0 wB W h
  have CO : Hid (∀ W, Below wB.heap.size wB W → ∀ bq : Nat, _) := fun W h bq => oneS 31 0 ({ data := #[] } : ByteArray) none 0 0 none 0 0 (some ⟨bq, 0, none⟩) 1 1 0 K' O' S' a1' L1' c1' a2' L2' c2' ak' LK' ck' P' wB W h
  go_cut [9] from 42 to 46 (fun sx wx => ∃ B bq bk, sx = .pointer (some ⟨B, 0, none⟩) ∧ Below wB.heap.size wB wx ∧ Vr wx B (.int .i64 5) (.int .i64 0) (.string { data := #[] }) (.slice none 0 0) (.slice none 0 0) (.slice (some ⟨bk, 0, none⟩) 2 2) (.int .i64 0) ∧ wx.heap[bk]? = some (.cells #[.int .i64 31, .int .i64 0, .string { data := #[] }, .slice none 0 0, .slice none 0 0, .slice (some ⟨bq, 0, none⟩) 1 1, .int .i64 0, .int .i64 K', .int .i64 O', .string S', .slice a1' L1' c1', .slice a2' L2' c2', .slice ak' LK' ck', .int .i64 P'] 28 (0, 0)) ∧ wx.heap[bq]? = some (.cells #[.int .i64 21, .int .i64 op, .string { data := #[] }, .slice none 0 0, .slice none 0 0, .slice none 0 0, .int .i64 0] 28 (0, 0)))
  case first =>
    have HD0 : Hid (Below wB.heap.size wB wB.drew) := (Below.refl _ _).drew
    have HD1 : Hid (Below wB.heap.size wB (wB.alloc (.cells #[.int .i64 0, .int .i64 0, .string { data := #[] }, .slice none 0 0, .slice none 0 0, .slice none 0 0, .int .i64 0] 28)).drew) := (one_alloc _ _).drew
    have HD2 : Hid (Below wB.heap.size wB (wB.drew.alloc (.cells #[.int .i64 0, .int .i64 0, .string { data := #[] }, .slice none 0 0, .slice none 0 0, .slice none 0 0, .int .i64 0] 28))) := (Below.refl _ _).drew.alloc (Nat.le_refl _) _
    have HAL : Hid (∀ W o, Below wB.heap.size wB W → Below wB.heap.size wB (W.alloc o)) := fun W o h => h.alloc h.size o
    have HSET : Hid (∀ W b v0 v1 v2 v3 v4 v5 v6, Below wB.heap.size wB W → wB.heap.size ≤ b → Below wB.heap.size wB (((((((W.setCell ⟨b, 0, none⟩ v0).setCell ⟨b, 1, none⟩ v1).setCell ⟨b, 2, none⟩ v2).setCell ⟨b, 3, none⟩ v3).setCell ⟨b, 4, none⟩ v4).setCell ⟨b, 5, none⟩ v5).setCell ⟨b, 6, none⟩ v6)) := fun W b v0 v1 v2 v3 v4 v5 v6 h hb => ((((((h.setCell (p := ⟨b, 0, none⟩) hb v0).setCell (p := ⟨b, 1, none⟩) hb v1).setCell (p := ⟨b, 2, none⟩) hb v2).setCell (p := ⟨b, 3, none⟩) hb v3).setCell (p := ⟨b, 4, none⟩) hb v4).setCell (p := ⟨b, 5, none⟩) hb v5).setCell (p := ⟨b, 6, none⟩) hb v6
    have HLE : Hid (wB.heap.size ≤ wB.heap.size) := Nat.le_refl _
    go_region_held3 (fun W => Below wB.heap.size wB W ∧ W.cell? ⟨w.heap.size, 0, none⟩ = some (.int .i64 K) ∧ W.cell? ⟨w.heap.size, 1, none⟩ = some (.int .i64 O) ∧ W.cell? ⟨w.heap.size, 2, none⟩ = some (.string S) ∧ W.cell? ⟨w.heap.size, 3, none⟩ = some (.slice a1 L1 c1) ∧ W.cell? ⟨w.heap.size, 4, none⟩ = some (.slice a2 L2 c2) ∧ W.cell? ⟨w.heap.size, 5, none⟩ = some (.slice ak LK ck) ∧ W.cell? ⟨w.heap.size, 6, none⟩ = some (.int .i64 P) ∧ W.cell? ⟨w.heap.size + 1, 0, none⟩ = some (.int .i64 K') ∧ W.cell? ⟨w.heap.size + 1, 1, none⟩ = some (.int .i64 O') ∧ W.cell? ⟨w.heap.size + 1, 2, none⟩ = some (.string S') ∧ W.cell? ⟨w.heap.size + 1, 3, none⟩ = some (.slice a1' L1' c1') ∧ W.cell? ⟨w.heap.size + 1, 4, none⟩ = some (.slice a2' L2' c2') ∧ W.cell? ⟨w.heap.size + 1, 5, none⟩ = some (.slice ak' LK' ck') ∧ W.cell? ⟨w.heap.size + 1, 6, none⟩ = some (.int .i64 P'))
      (first | with_reducible exact KS.out _ HD0.out | with_reducible exact KS.out _ HD1.out | with_reducible exact KS.out _ HD2.out | with_reducible exact KS.out _ (by with_reducible assumption) | with_reducible exact KS.out _ (HAL.out _ _ (by with_reducible assumption)) | with_reducible exact KS.out _ (HSET.out _ _ _ _ _ _ _ _ _ (by with_reducible assumption) (by with_reducible assumption)) | with_reducible exact KS.out _ (HSET.out _ _ _ _ _ _ _ _ _ (by with_reducible assumption) HLE.out))
      (first
        | (go_at_call 25; first
            | ((with_reducible refine (CP.out _ HD0.out).mono ?_); rintro e w5 ⟨rfl, g5, hb5⟩; have s5 := g5.size; clear hb5)
            | ((with_reducible refine (CP.out _ HD1.out).mono ?_); rintro e w5 ⟨rfl, g5, hb5⟩; have t5 := (Zb.new wB).drew.next hb5; have s5 := HLE.out; clear hb5)
            | ((with_reducible refine (CP.out _ HD2.out).mono ?_); rintro e w5 ⟨rfl, g5, hb5⟩; have t5 := (Zb.new wB.drew).next hb5; have s5 := HLE.out; clear hb5))
        | (go_at_call 27; first
            | ((with_reducible refine (CW.out w5 g5).mono ?_); rintro e w6 ⟨⟨bq, rfl, hbq, hq1, hq2⟩, g6, hb6⟩; have s6 := g6.size; first | (have t6 := t5.next hb6; have z6 := t5.lt; clear hb6) | clear hb6)
            | ((with_reducible refine (CW.out (w5.alloc (.cells #[.int .i64 0, .int .i64 0, .string { data := #[] }, .slice none 0 0, .slice none 0 0, .slice none 0 0, .int .i64 0] 28)) (g5.alloc g5.size _)).mono ?_); rintro e w6 ⟨⟨bq, rfl, hbq, hq1, hq2⟩, g6, hb6⟩; have s6 := g6.size; have t6 := (Zb.new w5).next hb6; have z6 := (Zb.new w5).lt; clear hb6))
        | (go_at_call 24; first
            | ((with_reducible refine (CO.out w6 g6 bq).mono ?_); rintro e w7 ⟨⟨bk, rfl, hbk, hl1, hl2⟩, g7, hb7⟩; have hbq7 := (hb7.block bq hq2).trans hbq; first | (have t7 := t6.next hb7; have z7 := t6.lt; obtain ⟨⟨k0, k1, k2, k3, k4, k5, k6⟩, j0, j1, j2, j3, j4, j5, j6⟩ := t7.facts) | skip)
            | ((with_reducible refine (CO.out (w6.alloc (.cells #[.int .i64 0, .int .i64 0, .string { data := #[] }, .slice none 0 0, .slice none 0 0, .slice none 0 0, .int .i64 0] 28)) (g6.alloc g6.size _) bq).mono ?_); rintro e w7 ⟨⟨bk, rfl, hbk, hl1, hl2⟩, g7, hb7⟩; have hbq7 := (hb7.block bq (Nat.lt_trans hq2 (Zb.new w6).lt)).trans ((heap_alloc_old w6 _ hq2).trans hbq); have t7 := (Zb.new w6).next hb7; have z7 := (Zb.new w6).lt; obtain ⟨⟨k0, k1, k2, k3, k4, k5, k6⟩, j0, j1, j2, j3, j4, j5, j6⟩ := t7.facts)))
    all_goals
      go_wp2
      go_meet
    all_goals
      case rel =>
        refine ⟨_, bq, bk, rfl, ?_⟩
        first
          | with_reducible exact vr_newK2 g7 hbk hbq7
          | with_reducible exact vr_oldK2 t7 g6.size g7 (by omega) hbk (by omega) hbq7
          | with_reducible exact vr_oldK2 t7 g5.size g7 (by omega) hbk (by omega) hbq7
          | with_reducible exact vr_oldK2 t7 (Nat.le_refl _) g7 (by omega) hbk (by omega) hbq7
  case rest =>
  obtain ⟨B3, b3, b4, rfl, gC, VC, hC1, hC2⟩ := hcut
  generalize wc = wC at *
  have HGC := hide (HGB.out.trans (gC.mono HGB.out.size))
  have HV1 : Hid (∀ W, Below wC.heap.size wC W → Vr W B1 (.int .i64 5) (.int .i64 0) (.string { data := #[] }) (.slice none 0 0) (.slice none 0 0) (.slice (some ⟨b1, 0, none⟩) 2 2) (.int .i64 0)) := fun W h => HVA2.out W (gC.trans (h.mono gC.size))
  have HV2 : Hid (∀ W, Below wC.heap.size wC W → Vr W B2 (.int .i64 6) (.int .i64 0) (.string { data := #[] }) (.slice none 0 0) (.slice none 0 0) (.slice (some ⟨b2, 0, none⟩) 3 3) (.int .i64 0)) := fun W h => HVB.out W (gC.trans (h.mono gC.size))
  have HV3 : Hid (∀ W, Below wC.heap.size wC W → Vr W B3 (.int .i64 5) (.int .i64 0) (.string { data := #[] }) (.slice none 0 0) (.slice none 0 0) (.slice (some ⟨b4, 0, none⟩) 2 2) (.int .i64 0)) := fun W h => VC.next h
  have HGW : Hid (∀ W, Below wC.heap.size wC W → Below w.heap.size w W) := fun W h => HGC.out.trans (h.mono HGC.out.size)
  have HNA : Hid (∀ W, Below wC.heap.size wC W → NdIn (m + 3) (n + 1) 0 W NA (.agg #[.int .i64 5, .int .i64 0, .string { data := #[] }, .slice none 0 0, .slice none 0 0, .slice (some ⟨b1, 0, none⟩) 2 2, .int .i64 0])) := fun W h => HMA.out W b1 (HGW.out W h) (HAB2.out W (gC.trans (h.mono gC.size)))
  have HNB : Hid (∀ W, Below wC.heap.size wC W → NdIn (m + 3) (n + 1) 0 W NB (.agg #[.int .i64 6, .int .i64 0, .string { data := #[] }, .slice none 0 0, .slice none 0 0, .slice (some ⟨b2, 0, none⟩) 3 3, .int .i64 0])) := fun W h => HMB.out W b2 (HGW.out W h) (HBB.out W (gC.trans (h.mono gC.size)))
  have hlt3 : b3 < wC.heap.size := by
    refine Decidable.byContradiction fun hn => ?_
    have : wC.heap[b3]? = none := by simp; omega
    rw [this] at hC2
    cases hC2
  have hlt4 : b4 < wC.heap.size := by
    refine Decidable.byContradiction fun hn => ?_
    have : wC.heap[b4]? = none := by simp; omega
    rw [this] at hC1
    cases hC1
  have HNC : Hid (∀ W, Below wC.heap.size wC W → NdIn (m + 3) (n + 1) 0 W NC (.agg #[.int .i64 5, .int .i64 0, .string { data := #[] }, .slice none 0 0, .slice none 0 0, .slice (some ⟨b4, 0, none⟩) 2 2, .int .i64 0])) := fun W h => HMC.out W b3 b4 (HGW.out W h) ((h.block b3 hlt3).trans hC2) ((h.block b4 hlt4).trans hC1)
  have HSB := hide (fun W (h : Below wC.heap.size wC W) => sizeB13 (m + 3) (n + 1) NB 0 _ W (HNB.out W h) HZZ.out.1)
  have HDB := hide (fun W (h : Below wC.heap.size wC W) => deepB28 (m + 3) (n + 1) NB 0 _ W (HNB.out W h) HZZ.out.1)
  have HDC := hide (fun W (h : Below wC.heap.size wC W) => deepB28 (m + 3) (n + 1) NC 0 _ W (HNC.out W h) HZZ.out.2)
  have HCA := hide (fun W (h : Below wC.heap.size wC W) => check10 (m + 3) (n + 1) NA 0 _ W (HNA.out W h))
  have HCB := hide (fun W (h : Below wC.heap.size wC W) => check10 (m + 3) (n + 1) NB 0 _ W (HNB.out W h))
  have HCC := hide (fun W (h : Below wC.heap.size wC W) => check10 (m + 3) (n + 1) NC 0 _ W (HNC.out W h))
  have HWK := hide (fun W (h : Below wC.heap.size wC W) => works9 W)
  have HWO' := hide (HWO.out HEX.out HEY.out)
  have HBD : Hid (sizeN (m + 3) NB ≤ 100000 ∧ deepN (m + 3) NB ≤ 100000 ∧ 0 ≤ deepN (m + 3) NB ∧ deepN (m + 3) NC ≤ 100000 ∧ 0 ≤ deepN (m + 3) NC) := ⟨HZZ.out.1, (by have := deepN_size (m + 3) NB; have := HZZ.out.1; omega), deepN_nonneg _ _, (by have := deepN_size (m + 3) NC; have := HZZ.out.2; omega), deepN_nonneg _ _⟩
  clear KS CP CW CO HXX HYY gC VC hC1 hC2 HGB HVA2 HVB HAB2 HBB HMA HMB HMC HWO HEX HEY HZZ HNA HNB HNC hlt3 hlt4
  generalize sizeN (m + 3) NB = SZ at *
  generalize deepN (m + 3) NB = DB at *
  generalize deepN (m + 3) NC = DC at *
  generalize errN (m + 3) NA = EA at *
  generalize errN (m + 3) NB = EB at *
  generalize errN (m + 3) NC = EC at *
  obtain ⟨hsz, hdb, hdb0, hdc, hdc0⟩ := HBD.out
  have hc0 : Below wC.heap.size wC wC := Below.refl _ _
  obtain ⟨p0, p1, p2, p3, p4, p5, p6⟩ := (HV1.out _ hc0).cells
  obtain ⟨q0, q1, q2, q3, q4, q5, q6⟩ := (HV2.out _ hc0).cells
  obtain ⟨r0, r1, r2, r3, r4, r5, r6⟩ := (HV3.out _ hc0).cells
  by_cases h1 : ¬ (SZ : Int) ≤ 2048
  · have h1' : decide ((SZ : Int) ≤ 2048) = false := by simp; omega
    go_wp2_with fail
    refine (HSB.out _ hc0).mono ?_
    rintro e x1 ⟨rfl, hb1⟩
    have hc1 := hc0.trans (hb1.mono hc0.size)
    clear hb1 p0 p1 p2 p3 p4 p5 p6 q0 q1 q2 q3 q4 q5 q6 r0 r1 r2 r3 r4 r5 r6
    obtain ⟨p0, p1, p2, p3, p4, p5, p6⟩ := (HV1.out _ hc1).cells
    obtain ⟨q0, q1, q2, q3, q4, q5, q6⟩ := (HV2.out _ hc1).cells
    obtain ⟨r0, r1, r2, r3, r4, r5, r6⟩ := (HV3.out _ hc1).cells
    go_wp2_with fail
    refine (HWK.out _ hc1).mono ?_
    rintro e x2 ⟨rfl, hb2⟩
    have hc2 := hc1.trans (hb2.mono hc1.size)
    clear hb2 p0 p1 p2 p3 p4 p5 p6 q0 q1 q2 q3 q4 q5 q6 r0 r1 r2 r3 r4 r5 r6
    obtain ⟨p0, p1, p2, p3, p4, p5, p6⟩ := (HV1.out _ hc2).cells
    obtain ⟨q0, q1, q2, q3, q4, q5, q6⟩ := (HV2.out _ hc2).cells
    obtain ⟨r0, r1, r2, r3, r4, r5, r6⟩ := (HV3.out _ hc2).cells
    go_wp2
    all_goals go_ret
    all_goals exact ⟨rfl, HGW.out _ hc2⟩
  by_cases h2 : ¬ DB ≤ 24
  · have h2' : decide (DB ≤ 24) = false := by simp; omega
    go_wp2_with fail
    refine (HSB.out _ hc0).mono ?_
    rintro e x1 ⟨rfl, hb1⟩
    have hc1 := hc0.trans (hb1.mono hc0.size)
    clear hb1 p0 p1 p2 p3 p4 p5 p6 q0 q1 q2 q3 q4 q5 q6 r0 r1 r2 r3 r4 r5 r6
    obtain ⟨p0, p1, p2, p3, p4, p5, p6⟩ := (HV1.out _ hc1).cells
    obtain ⟨q0, q1, q2, q3, q4, q5, q6⟩ := (HV2.out _ hc1).cells
    obtain ⟨r0, r1, r2, r3, r4, r5, r6⟩ := (HV3.out _ hc1).cells
    go_wp2_with fail
    refine (HDB.out _ hc1).mono ?_
    rintro e x2 ⟨rfl, hb2⟩
    have hc2 := hc1.trans (hb2.mono hc1.size)
    clear hb2 p0 p1 p2 p3 p4 p5 p6 q0 q1 q2 q3 q4 q5 q6 r0 r1 r2 r3 r4 r5 r6
    obtain ⟨p0, p1, p2, p3, p4, p5, p6⟩ := (HV1.out _ hc2).cells
    obtain ⟨q0, q1, q2, q3, q4, q5, q6⟩ := (HV2.out _ hc2).cells
    obtain ⟨r0, r1, r2, r3, r4, r5, r6⟩ := (HV3.out _ hc2).cells
    go_wp2_with fail
    refine (HWK.out _ hc2).mono ?_
    rintro e x3 ⟨rfl, hb3⟩
    have hc3 := hc2.trans (hb3.mono hc2.size)
    clear hb3 p0 p1 p2 p3 p4 p5 p6 q0 q1 q2 q3 q4 q5 q6 r0 r1 r2 r3 r4 r5 r6
    obtain ⟨p0, p1, p2, p3, p4, p5, p6⟩ := (HV1.out _ hc3).cells
    obtain ⟨q0, q1, q2, q3, q4, q5, q6⟩ := (HV2.out _ hc3).cells
    obtain ⟨r0, r1, r2, r3, r4, r5, r6⟩ := (HV3.out _ hc3).cells
    go_wp2
    all_goals go_ret
    all_goals exact ⟨rfl, HGW.out _ hc3⟩
  by_cases h3 : ¬ DC ≤ 24
  · have h3' : decide (DC ≤ 24) = false := by simp; omega
    go_wp2_with fail
    refine (HSB.out _ hc0).mono ?_
    rintro e x1 ⟨rfl, hb1⟩
    have hc1 := hc0.trans (hb1.mono hc0.size)
    clear hb1 p0 p1 p2 p3 p4 p5 p6 q0 q1 q2 q3 q4 q5 q6 r0 r1 r2 r3 r4 r5 r6
    obtain ⟨p0, p1, p2, p3, p4, p5, p6⟩ := (HV1.out _ hc1).cells
    obtain ⟨q0, q1, q2, q3, q4, q5, q6⟩ := (HV2.out _ hc1).cells
    obtain ⟨r0, r1, r2, r3, r4, r5, r6⟩ := (HV3.out _ hc1).cells
    go_wp2_with fail
    refine (HDB.out _ hc1).mono ?_
    rintro e x2 ⟨rfl, hb2⟩
    have hc2 := hc1.trans (hb2.mono hc1.size)
    clear hb2 p0 p1 p2 p3 p4 p5 p6 q0 q1 q2 q3 q4 q5 q6 r0 r1 r2 r3 r4 r5 r6
    obtain ⟨p0, p1, p2, p3, p4, p5, p6⟩ := (HV1.out _ hc2).cells
    obtain ⟨q0, q1, q2, q3, q4, q5, q6⟩ := (HV2.out _ hc2).cells
    obtain ⟨r0, r1, r2, r3, r4, r5, r6⟩ := (HV3.out _ hc2).cells
    go_wp2_with fail
    refine (HDC.out _ hc2).mono ?_
    rintro e x3 ⟨rfl, hb3⟩
    have hc3 := hc2.trans (hb3.mono hc2.size)
    clear hb3 p0 p1 p2 p3 p4 p5 p6 q0 q1 q2 q3 q4 q5 q6 r0 r1 r2 r3 r4 r5 r6
    obtain ⟨p0, p1, p2, p3, p4, p5, p6⟩ := (HV1.out _ hc3).cells
    obtain ⟨q0, q1, q2, q3, q4, q5, q6⟩ := (HV2.out _ hc3).cells
    obtain ⟨r0, r1, r2, r3, r4, r5, r6⟩ := (HV3.out _ hc3).cells
    go_wp2_with fail
    refine (HWK.out _ hc3).mono ?_
    rintro e x4 ⟨rfl, hb4⟩
    have hc4 := hc3.trans (hb4.mono hc3.size)
    clear hb4 p0 p1 p2 p3 p4 p5 p6 q0 q1 q2 q3 q4 q5 q6 r0 r1 r2 r3 r4 r5 r6
    obtain ⟨p0, p1, p2, p3, p4, p5, p6⟩ := (HV1.out _ hc4).cells
    obtain ⟨q0, q1, q2, q3, q4, q5, q6⟩ := (HV2.out _ hc4).cells
    obtain ⟨r0, r1, r2, r3, r4, r5, r6⟩ := (HV3.out _ hc4).cells
    go_wp2
    all_goals go_ret
    all_goals exact ⟨rfl, HGW.out _ hc4⟩
  have h1' : decide ((SZ : Int) ≤ 2048) = true := by simp; omega
  have h2' : decide (DB ≤ 24) = true := by simp; omega
  have h3' : decide (DC ≤ 24) = true := by simp; omega
  obtain ⟨ea, eb, ec⟩ := HWO'.out (by omega) (by omega) (by omega)
  have HEA := hide ea
  have HEB := hide eb
  have HEC := hide ec
  clear ea eb ec HWO' hsz hdb hdb0 hdc hdc0 HBD
  by_cases o0 : op < 1
  · have d1 : decide (1 ≤ op) = false := by simp; omega
    have d2 : decide (op ≤ 19) = true := by simp; omega
    have d3 : decide (21 ≤ op) = false := by simp; omega
    have d4 : decide (op ≤ 32) = true := by simp; omega
    have d5 : decide (41 ≤ op) = false := by simp; omega
    have d6 : decide (op ≤ 54) = true := by simp; omega
    have f1 : frm op 1 19 = false := frm_lo (by omega)
    have f2 : frm op 21 32 = false := frm_lo (by omega)
    have f3 : frm op 41 54 = false := frm_lo (by omega)
    have eEA : (EA == 0) = false := beq_eq_false_iff_ne.2 (fun h => by have := HEA.out.1 h; simp [f1, f2, f3] at this)
    have eEB : (EB == 0) = false := beq_eq_false_iff_ne.2 (fun h => by have := HEB.out.1 h; simp [f1, f2, f3] at this)
    have eEC : (EC == 0) = false := beq_eq_false_iff_ne.2 (fun h => by have := HEC.out.1 h; simp [f1, f2, f3] at this)
    clear f1 f2 f3 HEA HEB HEC
    go_wp2_with fail
    refine (HSB.out _ hc0).mono ?_
    rintro e x1 ⟨rfl, hb1⟩
    have hc1 := hc0.trans (hb1.mono hc0.size)
    clear hb1 p0 p1 p2 p3 p4 p5 p6 q0 q1 q2 q3 q4 q5 q6 r0 r1 r2 r3 r4 r5 r6
    obtain ⟨p0, p1, p2, p3, p4, p5, p6⟩ := (HV1.out _ hc1).cells
    obtain ⟨q0, q1, q2, q3, q4, q5, q6⟩ := (HV2.out _ hc1).cells
    obtain ⟨r0, r1, r2, r3, r4, r5, r6⟩ := (HV3.out _ hc1).cells
    go_wp2_with fail
    refine (HDB.out _ hc1).mono ?_
    rintro e x2 ⟨rfl, hb2⟩
    have hc2 := hc1.trans (hb2.mono hc1.size)
    clear hb2 p0 p1 p2 p3 p4 p5 p6 q0 q1 q2 q3 q4 q5 q6 r0 r1 r2 r3 r4 r5 r6
    obtain ⟨p0, p1, p2, p3, p4, p5, p6⟩ := (HV1.out _ hc2).cells
    obtain ⟨q0, q1, q2, q3, q4, q5, q6⟩ := (HV2.out _ hc2).cells
    obtain ⟨r0, r1, r2, r3, r4, r5, r6⟩ := (HV3.out _ hc2).cells
    go_wp2_with fail
    refine (HDC.out _ hc2).mono ?_
    rintro e x3 ⟨rfl, hb3⟩
    have hc3 := hc2.trans (hb3.mono hc2.size)
    clear hb3 p0 p1 p2 p3 p4 p5 p6 q0 q1 q2 q3 q4 q5 q6 r0 r1 r2 r3 r4 r5 r6
    obtain ⟨p0, p1, p2, p3, p4, p5, p6⟩ := (HV1.out _ hc3).cells
    obtain ⟨q0, q1, q2, q3, q4, q5, q6⟩ := (HV2.out _ hc3).cells
    obtain ⟨r0, r1, r2, r3, r4, r5, r6⟩ := (HV3.out _ hc3).cells
    go_wp2_with fail
    refine (HCA.out _ hc3).mono ?_
    rintro e x4 ⟨rfl, hb4⟩
    have hc4 := hc3.trans (hb4.mono hc3.size)
    clear hb4 p0 p1 p2 p3 p4 p5 p6 q0 q1 q2 q3 q4 q5 q6 r0 r1 r2 r3 r4 r5 r6
    obtain ⟨p0, p1, p2, p3, p4, p5, p6⟩ := (HV1.out _ hc4).cells
    obtain ⟨q0, q1, q2, q3, q4, q5, q6⟩ := (HV2.out _ hc4).cells
    obtain ⟨r0, r1, r2, r3, r4, r5, r6⟩ := (HV3.out _ hc4).cells
    go_wp2_with fail
    refine (HCB.out _ hc4).mono ?_
    rintro e x5 ⟨rfl, hb5⟩
    have hc5 := hc4.trans (hb5.mono hc4.size)
    clear hb5 p0 p1 p2 p3 p4 p5 p6 q0 q1 q2 q3 q4 q5 q6 r0 r1 r2 r3 r4 r5 r6
    obtain ⟨p0, p1, p2, p3, p4, p5, p6⟩ := (HV1.out _ hc5).cells
    obtain ⟨q0, q1, q2, q3, q4, q5, q6⟩ := (HV2.out _ hc5).cells
    obtain ⟨r0, r1, r2, r3, r4, r5, r6⟩ := (HV3.out _ hc5).cells
    go_wp2_with fail
    refine (HCC.out _ hc5).mono ?_
    rintro e x6 ⟨rfl, hb6⟩
    have hc6 := hc5.trans (hb6.mono hc5.size)
    clear hb6 p0 p1 p2 p3 p4 p5 p6 q0 q1 q2 q3 q4 q5 q6 r0 r1 r2 r3 r4 r5 r6
    obtain ⟨p0, p1, p2, p3, p4, p5, p6⟩ := (HV1.out _ hc6).cells
    obtain ⟨q0, q1, q2, q3, q4, q5, q6⟩ := (HV2.out _ hc6).cells
    obtain ⟨r0, r1, r2, r3, r4, r5, r6⟩ := (HV3.out _ hc6).cells
    go_wp2_with fail
    refine (HWK.out _ hc6).mono ?_
    rintro e x7 ⟨rfl, hb7⟩
    have hc7 := hc6.trans (hb7.mono hc6.size)
    clear hb7 p0 p1 p2 p3 p4 p5 p6 q0 q1 q2 q3 q4 q5 q6 r0 r1 r2 r3 r4 r5 r6
    obtain ⟨p0, p1, p2, p3, p4, p5, p6⟩ := (HV1.out _ hc7).cells
    obtain ⟨q0, q1, q2, q3, q4, q5, q6⟩ := (HV2.out _ hc7).cells
    obtain ⟨r0, r1, r2, r3, r4, r5, r6⟩ := (HV3.out _ hc7).cells
    go_wp2
    all_goals go_ret
    all_goals exact ⟨rfl, HGW.out _ hc7⟩
  by_cases o1 : op ≤ 19
  · have d1 : decide (1 ≤ op) = true := by simp; omega
    have d2 : decide (op ≤ 19) = true := by simp; omega
    have d3 : decide (21 ≤ op) = false := by simp; omega
    have d4 : decide (op ≤ 32) = true := by simp; omega
    have d5 : decide (41 ≤ op) = false := by simp; omega
    have d6 : decide (op ≤ 54) = true := by simp; omega
    have f1 : frm op 1 19 = true := frm_yes (by omega) (by omega)
    have f2 : frm op 21 32 = false := frm_lo (by omega)
    have f3 : frm op 41 54 = false := frm_lo (by omega)
    have eEA : (EA == 0) = true := beq_iff_eq.2 (HEA.out.2 (by simp [f1, f2, f3]))
    have eEB : (EB == 0) = false := beq_eq_false_iff_ne.2 (fun h => by have := HEB.out.1 h; simp [f1, f2, f3] at this)
    have eEC : (EC == 0) = false := beq_eq_false_iff_ne.2 (fun h => by have := HEC.out.1 h; simp [f1, f2, f3] at this)
    clear f1 f2 f3 HEA HEB HEC
    go_wp2_with fail
    refine (HSB.out _ hc0).mono ?_
    rintro e x1 ⟨rfl, hb1⟩
    have hc1 := hc0.trans (hb1.mono hc0.size)
    clear hb1 p0 p1 p2 p3 p4 p5 p6 q0 q1 q2 q3 q4 q5 q6 r0 r1 r2 r3 r4 r5 r6
    obtain ⟨p0, p1, p2, p3, p4, p5, p6⟩ := (HV1.out _ hc1).cells
    obtain ⟨q0, q1, q2, q3, q4, q5, q6⟩ := (HV2.out _ hc1).cells
    obtain ⟨r0, r1, r2, r3, r4, r5, r6⟩ := (HV3.out _ hc1).cells
    go_wp2_with fail
    refine (HDB.out _ hc1).mono ?_
    rintro e x2 ⟨rfl, hb2⟩
    have hc2 := hc1.trans (hb2.mono hc1.size)
    clear hb2 p0 p1 p2 p3 p4 p5 p6 q0 q1 q2 q3 q4 q5 q6 r0 r1 r2 r3 r4 r5 r6
    obtain ⟨p0, p1, p2, p3, p4, p5, p6⟩ := (HV1.out _ hc2).cells
    obtain ⟨q0, q1, q2, q3, q4, q5, q6⟩ := (HV2.out _ hc2).cells
    obtain ⟨r0, r1, r2, r3, r4, r5, r6⟩ := (HV3.out _ hc2).cells
    go_wp2_with fail
    refine (HDC.out _ hc2).mono ?_
    rintro e x3 ⟨rfl, hb3⟩
    have hc3 := hc2.trans (hb3.mono hc2.size)
    clear hb3 p0 p1 p2 p3 p4 p5 p6 q0 q1 q2 q3 q4 q5 q6 r0 r1 r2 r3 r4 r5 r6
    obtain ⟨p0, p1, p2, p3, p4, p5, p6⟩ := (HV1.out _ hc3).cells
    obtain ⟨q0, q1, q2, q3, q4, q5, q6⟩ := (HV2.out _ hc3).cells
    obtain ⟨r0, r1, r2, r3, r4, r5, r6⟩ := (HV3.out _ hc3).cells
    go_wp2_with fail
    refine (HCA.out _ hc3).mono ?_
    rintro e x4 ⟨rfl, hb4⟩
    have hc4 := hc3.trans (hb4.mono hc3.size)
    clear hb4 p0 p1 p2 p3 p4 p5 p6 q0 q1 q2 q3 q4 q5 q6 r0 r1 r2 r3 r4 r5 r6
    obtain ⟨p0, p1, p2, p3, p4, p5, p6⟩ := (HV1.out _ hc4).cells
    obtain ⟨q0, q1, q2, q3, q4, q5, q6⟩ := (HV2.out _ hc4).cells
    obtain ⟨r0, r1, r2, r3, r4, r5, r6⟩ := (HV3.out _ hc4).cells
    go_wp2_with fail
    refine (HCB.out _ hc4).mono ?_
    rintro e x5 ⟨rfl, hb5⟩
    have hc5 := hc4.trans (hb5.mono hc4.size)
    clear hb5 p0 p1 p2 p3 p4 p5 p6 q0 q1 q2 q3 q4 q5 q6 r0 r1 r2 r3 r4 r5 r6
    obtain ⟨p0, p1, p2, p3, p4, p5, p6⟩ := (HV1.out _ hc5).cells
    obtain ⟨q0, q1, q2, q3, q4, q5, q6⟩ := (HV2.out _ hc5).cells
    obtain ⟨r0, r1, r2, r3, r4, r5, r6⟩ := (HV3.out _ hc5).cells
    go_wp2_with fail
    refine (HCC.out _ hc5).mono ?_
    rintro e x6 ⟨rfl, hb6⟩
    have hc6 := hc5.trans (hb6.mono hc5.size)
    clear hb6 p0 p1 p2 p3 p4 p5 p6 q0 q1 q2 q3 q4 q5 q6 r0 r1 r2 r3 r4 r5 r6
    obtain ⟨p0, p1, p2, p3, p4, p5, p6⟩ := (HV1.out _ hc6).cells
    obtain ⟨q0, q1, q2, q3, q4, q5, q6⟩ := (HV2.out _ hc6).cells
    obtain ⟨r0, r1, r2, r3, r4, r5, r6⟩ := (HV3.out _ hc6).cells
    go_wp2_with fail
    refine (HWK.out _ hc6).mono ?_
    rintro e x7 ⟨rfl, hb7⟩
    have hc7 := hc6.trans (hb7.mono hc6.size)
    clear hb7 p0 p1 p2 p3 p4 p5 p6 q0 q1 q2 q3 q4 q5 q6 r0 r1 r2 r3 r4 r5 r6
    obtain ⟨p0, p1, p2, p3, p4, p5, p6⟩ := (HV1.out _ hc7).cells
    obtain ⟨q0, q1, q2, q3, q4, q5, q6⟩ := (HV2.out _ hc7).cells
    obtain ⟨r0, r1, r2, r3, r4, r5, r6⟩ := (HV3.out _ hc7).cells
    go_wp2
    all_goals go_ret
    all_goals exact ⟨rfl, HGW.out _ hc7⟩
  by_cases o2 : op ≤ 20
  · have d1 : decide (1 ≤ op) = true := by simp; omega
    have d2 : decide (op ≤ 19) = false := by simp; omega
    have d3 : decide (21 ≤ op) = false := by simp; omega
    have d4 : decide (op ≤ 32) = true := by simp; omega
    have d5 : decide (41 ≤ op) = false := by simp; omega
    have d6 : decide (op ≤ 54) = true := by simp; omega
    have f1 : frm op 1 19 = false := frm_hi (by omega)
    have f2 : frm op 21 32 = false := frm_lo (by omega)
    have f3 : frm op 41 54 = false := frm_lo (by omega)
    have eEA : (EA == 0) = false := beq_eq_false_iff_ne.2 (fun h => by have := HEA.out.1 h; simp [f1, f2, f3] at this)
    have eEB : (EB == 0) = false := beq_eq_false_iff_ne.2 (fun h => by have := HEB.out.1 h; simp [f1, f2, f3] at this)
    have eEC : (EC == 0) = false := beq_eq_false_iff_ne.2 (fun h => by have := HEC.out.1 h; simp [f1, f2, f3] at this)
    clear f1 f2 f3 HEA HEB HEC
    go_wp2_with fail
    refine (HSB.out _ hc0).mono ?_
    rintro e x1 ⟨rfl, hb1⟩
    have hc1 := hc0.trans (hb1.mono hc0.size)
    clear hb1 p0 p1 p2 p3 p4 p5 p6 q0 q1 q2 q3 q4 q5 q6 r0 r1 r2 r3 r4 r5 r6
    obtain ⟨p0, p1, p2, p3, p4, p5, p6⟩ := (HV1.out _ hc1).cells
    obtain ⟨q0, q1, q2, q3, q4, q5, q6⟩ := (HV2.out _ hc1).cells
    obtain ⟨r0, r1, r2, r3, r4, r5, r6⟩ := (HV3.out _ hc1).cells
    go_wp2_with fail
    refine (HDB.out _ hc1).mono ?_
    rintro e x2 ⟨rfl, hb2⟩
    have hc2 := hc1.trans (hb2.mono hc1.size)
    clear hb2 p0 p1 p2 p3 p4 p5 p6 q0 q1 q2 q3 q4 q5 q6 r0 r1 r2 r3 r4 r5 r6
    obtain ⟨p0, p1, p2, p3, p4, p5, p6⟩ := (HV1.out _ hc2).cells
    obtain ⟨q0, q1, q2, q3, q4, q5, q6⟩ := (HV2.out _ hc2).cells
    obtain ⟨r0, r1, r2, r3, r4, r5, r6⟩ := (HV3.out _ hc2).cells
    go_wp2_with fail
    refine (HDC.out _ hc2).mono ?_
    rintro e x3 ⟨rfl, hb3⟩
    have hc3 := hc2.trans (hb3.mono hc2.size)
    clear hb3 p0 p1 p2 p3 p4 p5 p6 q0 q1 q2 q3 q4 q5 q6 r0 r1 r2 r3 r4 r5 r6
    obtain ⟨p0, p1, p2, p3, p4, p5, p6⟩ := (HV1.out _ hc3).cells
    obtain ⟨q0, q1, q2, q3, q4, q5, q6⟩ := (HV2.out _ hc3).cells
    obtain ⟨r0, r1, r2, r3, r4, r5, r6⟩ := (HV3.out _ hc3).cells
    go_wp2_with fail
    refine (HCA.out _ hc3).mono ?_
    rintro e x4 ⟨rfl, hb4⟩
    have hc4 := hc3.trans (hb4.mono hc3.size)
    clear hb4 p0 p1 p2 p3 p4 p5 p6 q0 q1 q2 q3 q4 q5 q6 r0 r1 r2 r3 r4 r5 r6
    obtain ⟨p0, p1, p2, p3, p4, p5, p6⟩ := (HV1.out _ hc4).cells
    obtain ⟨q0, q1, q2, q3, q4, q5, q6⟩ := (HV2.out _ hc4).cells
    obtain ⟨r0, r1, r2, r3, r4, r5, r6⟩ := (HV3.out _ hc4).cells
    go_wp2_with fail
    refine (HCB.out _ hc4).mono ?_
    rintro e x5 ⟨rfl, hb5⟩
    have hc5 := hc4.trans (hb5.mono hc4.size)
    clear hb5 p0 p1 p2 p3 p4 p5 p6 q0 q1 q2 q3 q4 q5 q6 r0 r1 r2 r3 r4 r5 r6
    obtain ⟨p0, p1, p2, p3, p4, p5, p6⟩ := (HV1.out _ hc5).cells
    obtain ⟨q0, q1, q2, q3, q4, q5, q6⟩ := (HV2.out _ hc5).cells
    obtain ⟨r0, r1, r2, r3, r4, r5, r6⟩ := (HV3.out _ hc5).cells
    go_wp2_with fail
    refine (HCC.out _ hc5).mono ?_
    rintro e x6 ⟨rfl, hb6⟩
    have hc6 := hc5.trans (hb6.mono hc5.size)
    clear hb6 p0 p1 p2 p3 p4 p5 p6 q0 q1 q2 q3 q4 q5 q6 r0 r1 r2 r3 r4 r5 r6
    obtain ⟨p0, p1, p2, p3, p4, p5, p6⟩ := (HV1.out _ hc6).cells
    obtain ⟨q0, q1, q2, q3, q4, q5, q6⟩ := (HV2.out _ hc6).cells
    obtain ⟨r0, r1, r2, r3, r4, r5, r6⟩ := (HV3.out _ hc6).cells
    go_wp2_with fail
    refine (HWK.out _ hc6).mono ?_
    rintro e x7 ⟨rfl, hb7⟩
    have hc7 := hc6.trans (hb7.mono hc6.size)
    clear hb7 p0 p1 p2 p3 p4 p5 p6 q0 q1 q2 q3 q4 q5 q6 r0 r1 r2 r3 r4 r5 r6
    obtain ⟨p0, p1, p2, p3, p4, p5, p6⟩ := (HV1.out _ hc7).cells
    obtain ⟨q0, q1, q2, q3, q4, q5, q6⟩ := (HV2.out _ hc7).cells
    obtain ⟨r0, r1, r2, r3, r4, r5, r6⟩ := (HV3.out _ hc7).cells
    go_wp2
    all_goals go_ret
    all_goals exact ⟨rfl, HGW.out _ hc7⟩
  by_cases o3 : op ≤ 32
  · have d1 : decide (1 ≤ op) = true := by simp; omega
    have d2 : decide (op ≤ 19) = false := by simp; omega
    have d3 : decide (21 ≤ op) = true := by simp; omega
    have d4 : decide (op ≤ 32) = true := by simp; omega
    have d5 : decide (41 ≤ op) = false := by simp; omega
    have d6 : decide (op ≤ 54) = true := by simp; omega
    have f1 : frm op 1 19 = false := frm_hi (by omega)
    have f2 : frm op 21 32 = true := frm_yes (by omega) (by omega)
    have f3 : frm op 41 54 = false := frm_lo (by omega)
    have eEA : (EA == 0) = false := beq_eq_false_iff_ne.2 (fun h => by have := HEA.out.1 h; simp [f1, f2, f3] at this)
    have eEB : (EB == 0) = true := beq_iff_eq.2 (HEB.out.2 (by simp [f1, f2, f3]))
    have eEC : (EC == 0) = true := beq_iff_eq.2 (HEC.out.2 (by simp [f1, f2, f3]))
    clear f1 f2 f3 HEA HEB HEC
    go_wp2_with fail
    refine (HSB.out _ hc0).mono ?_
    rintro e x1 ⟨rfl, hb1⟩
    have hc1 := hc0.trans (hb1.mono hc0.size)
    clear hb1 p0 p1 p2 p3 p4 p5 p6 q0 q1 q2 q3 q4 q5 q6 r0 r1 r2 r3 r4 r5 r6
    obtain ⟨p0, p1, p2, p3, p4, p5, p6⟩ := (HV1.out _ hc1).cells
    obtain ⟨q0, q1, q2, q3, q4, q5, q6⟩ := (HV2.out _ hc1).cells
    obtain ⟨r0, r1, r2, r3, r4, r5, r6⟩ := (HV3.out _ hc1).cells
    go_wp2_with fail
    refine (HDB.out _ hc1).mono ?_
    rintro e x2 ⟨rfl, hb2⟩
    have hc2 := hc1.trans (hb2.mono hc1.size)
    clear hb2 p0 p1 p2 p3 p4 p5 p6 q0 q1 q2 q3 q4 q5 q6 r0 r1 r2 r3 r4 r5 r6
    obtain ⟨p0, p1, p2, p3, p4, p5, p6⟩ := (HV1.out _ hc2).cells
    obtain ⟨q0, q1, q2, q3, q4, q5, q6⟩ := (HV2.out _ hc2).cells
    obtain ⟨r0, r1, r2, r3, r4, r5, r6⟩ := (HV3.out _ hc2).cells
    go_wp2_with fail
    refine (HDC.out _ hc2).mono ?_
    rintro e x3 ⟨rfl, hb3⟩
    have hc3 := hc2.trans (hb3.mono hc2.size)
    clear hb3 p0 p1 p2 p3 p4 p5 p6 q0 q1 q2 q3 q4 q5 q6 r0 r1 r2 r3 r4 r5 r6
    obtain ⟨p0, p1, p2, p3, p4, p5, p6⟩ := (HV1.out _ hc3).cells
    obtain ⟨q0, q1, q2, q3, q4, q5, q6⟩ := (HV2.out _ hc3).cells
    obtain ⟨r0, r1, r2, r3, r4, r5, r6⟩ := (HV3.out _ hc3).cells
    go_wp2_with fail
    refine (HCA.out _ hc3).mono ?_
    rintro e x4 ⟨rfl, hb4⟩
    have hc4 := hc3.trans (hb4.mono hc3.size)
    clear hb4 p0 p1 p2 p3 p4 p5 p6 q0 q1 q2 q3 q4 q5 q6 r0 r1 r2 r3 r4 r5 r6
    obtain ⟨p0, p1, p2, p3, p4, p5, p6⟩ := (HV1.out _ hc4).cells
    obtain ⟨q0, q1, q2, q3, q4, q5, q6⟩ := (HV2.out _ hc4).cells
    obtain ⟨r0, r1, r2, r3, r4, r5, r6⟩ := (HV3.out _ hc4).cells
    go_wp2_with fail
    refine (HCB.out _ hc4).mono ?_
    rintro e x5 ⟨rfl, hb5⟩
    have hc5 := hc4.trans (hb5.mono hc4.size)
    clear hb5 p0 p1 p2 p3 p4 p5 p6 q0 q1 q2 q3 q4 q5 q6 r0 r1 r2 r3 r4 r5 r6
    obtain ⟨p0, p1, p2, p3, p4, p5, p6⟩ := (HV1.out _ hc5).cells
    obtain ⟨q0, q1, q2, q3, q4, q5, q6⟩ := (HV2.out _ hc5).cells
    obtain ⟨r0, r1, r2, r3, r4, r5, r6⟩ := (HV3.out _ hc5).cells
    go_wp2_with fail
    refine (HCC.out _ hc5).mono ?_
    rintro e x6 ⟨rfl, hb6⟩
    have hc6 := hc5.trans (hb6.mono hc5.size)
    clear hb6 p0 p1 p2 p3 p4 p5 p6 q0 q1 q2 q3 q4 q5 q6 r0 r1 r2 r3 r4 r5 r6
    obtain ⟨p0, p1, p2, p3, p4, p5, p6⟩ := (HV1.out _ hc6).cells
    obtain ⟨q0, q1, q2, q3, q4, q5, q6⟩ := (HV2.out _ hc6).cells
    obtain ⟨r0, r1, r2, r3, r4, r5, r6⟩ := (HV3.out _ hc6).cells
    go_wp2_with fail
    refine (HWK.out _ hc6).mono ?_
    rintro e x7 ⟨rfl, hb7⟩
    have hc7 := hc6.trans (hb7.mono hc6.size)
    clear hb7 p0 p1 p2 p3 p4 p5 p6 q0 q1 q2 q3 q4 q5 q6 r0 r1 r2 r3 r4 r5 r6
    obtain ⟨p0, p1, p2, p3, p4, p5, p6⟩ := (HV1.out _ hc7).cells
    obtain ⟨q0, q1, q2, q3, q4, q5, q6⟩ := (HV2.out _ hc7).cells
    obtain ⟨r0, r1, r2, r3, r4, r5, r6⟩ := (HV3.out _ hc7).cells
    go_wp2
    all_goals go_ret
    all_goals exact ⟨rfl, HGW.out _ hc7⟩
  by_cases o4 : op ≤ 40
  · have d1 : decide (1 ≤ op) = true := by simp; omega
    have d2 : decide (op ≤ 19) = false := by simp; omega
    have d3 : decide (21 ≤ op) = true := by simp; omega
    have d4 : decide (op ≤ 32) = false := by simp; omega
    have d5 : decide (41 ≤ op) = false := by simp; omega
    have d6 : decide (op ≤ 54) = true := by simp; omega
    have f1 : frm op 1 19 = false := frm_hi (by omega)
    have f2 : frm op 21 32 = false := frm_hi (by omega)
    have f3 : frm op 41 54 = false := frm_lo (by omega)
    have eEA : (EA == 0) = false := beq_eq_false_iff_ne.2 (fun h => by have := HEA.out.1 h; simp [f1, f2, f3] at this)
    have eEB : (EB == 0) = false := beq_eq_false_iff_ne.2 (fun h => by have := HEB.out.1 h; simp [f1, f2, f3] at this)
    have eEC : (EC == 0) = false := beq_eq_false_iff_ne.2 (fun h => by have := HEC.out.1 h; simp [f1, f2, f3] at this)
    clear f1 f2 f3 HEA HEB HEC
    go_wp2_with fail
    refine (HSB.out _ hc0).mono ?_
    rintro e x1 ⟨rfl, hb1⟩
    have hc1 := hc0.trans (hb1.mono hc0.size)
    clear hb1 p0 p1 p2 p3 p4 p5 p6 q0 q1 q2 q3 q4 q5 q6 r0 r1 r2 r3 r4 r5 r6
    obtain ⟨p0, p1, p2, p3, p4, p5, p6⟩ := (HV1.out _ hc1).cells
    obtain ⟨q0, q1, q2, q3, q4, q5, q6⟩ := (HV2.out _ hc1).cells
    obtain ⟨r0, r1, r2, r3, r4, r5, r6⟩ := (HV3.out _ hc1).cells
    go_wp2_with fail
    refine (HDB.out _ hc1).mono ?_
    rintro e x2 ⟨rfl, hb2⟩
    have hc2 := hc1.trans (hb2.mono hc1.size)
    clear hb2 p0 p1 p2 p3 p4 p5 p6 q0 q1 q2 q3 q4 q5 q6 r0 r1 r2 r3 r4 r5 r6
    obtain ⟨p0, p1, p2, p3, p4, p5, p6⟩ := (HV1.out _ hc2).cells
    obtain ⟨q0, q1, q2, q3, q4, q5, q6⟩ := (HV2.out _ hc2).cells
    obtain ⟨r0, r1, r2, r3, r4, r5, r6⟩ := (HV3.out _ hc2).cells
    go_wp2_with fail
    refine (HDC.out _ hc2).mono ?_
    rintro e x3 ⟨rfl, hb3⟩
    have hc3 := hc2.trans (hb3.mono hc2.size)
    clear hb3 p0 p1 p2 p3 p4 p5 p6 q0 q1 q2 q3 q4 q5 q6 r0 r1 r2 r3 r4 r5 r6
    obtain ⟨p0, p1, p2, p3, p4, p5, p6⟩ := (HV1.out _ hc3).cells
    obtain ⟨q0, q1, q2, q3, q4, q5, q6⟩ := (HV2.out _ hc3).cells
    obtain ⟨r0, r1, r2, r3, r4, r5, r6⟩ := (HV3.out _ hc3).cells
    go_wp2_with fail
    refine (HCA.out _ hc3).mono ?_
    rintro e x4 ⟨rfl, hb4⟩
    have hc4 := hc3.trans (hb4.mono hc3.size)
    clear hb4 p0 p1 p2 p3 p4 p5 p6 q0 q1 q2 q3 q4 q5 q6 r0 r1 r2 r3 r4 r5 r6
    obtain ⟨p0, p1, p2, p3, p4, p5, p6⟩ := (HV1.out _ hc4).cells
    obtain ⟨q0, q1, q2, q3, q4, q5, q6⟩ := (HV2.out _ hc4).cells
    obtain ⟨r0, r1, r2, r3, r4, r5, r6⟩ := (HV3.out _ hc4).cells
    go_wp2_with fail
    refine (HCB.out _ hc4).mono ?_
    rintro e x5 ⟨rfl, hb5⟩
    have hc5 := hc4.trans (hb5.mono hc4.size)
    clear hb5 p0 p1 p2 p3 p4 p5 p6 q0 q1 q2 q3 q4 q5 q6 r0 r1 r2 r3 r4 r5 r6
    obtain ⟨p0, p1, p2, p3, p4, p5, p6⟩ := (HV1.out _ hc5).cells
    obtain ⟨q0, q1, q2, q3, q4, q5, q6⟩ := (HV2.out _ hc5).cells
    obtain ⟨r0, r1, r2, r3, r4, r5, r6⟩ := (HV3.out _ hc5).cells
    go_wp2_with fail
    refine (HCC.out _ hc5).mono ?_
    rintro e x6 ⟨rfl, hb6⟩
    have hc6 := hc5.trans (hb6.mono hc5.size)
    clear hb6 p0 p1 p2 p3 p4 p5 p6 q0 q1 q2 q3 q4 q5 q6 r0 r1 r2 r3 r4 r5 r6
    obtain ⟨p0, p1, p2, p3, p4, p5, p6⟩ := (HV1.out _ hc6).cells
    obtain ⟨q0, q1, q2, q3, q4, q5, q6⟩ := (HV2.out _ hc6).cells
    obtain ⟨r0, r1, r2, r3, r4, r5, r6⟩ := (HV3.out _ hc6).cells
    go_wp2_with fail
    refine (HWK.out _ hc6).mono ?_
    rintro e x7 ⟨rfl, hb7⟩
    have hc7 := hc6.trans (hb7.mono hc6.size)
    clear hb7 p0 p1 p2 p3 p4 p5 p6 q0 q1 q2 q3 q4 q5 q6 r0 r1 r2 r3 r4 r5 r6
    obtain ⟨p0, p1, p2, p3, p4, p5, p6⟩ := (HV1.out _ hc7).cells
    obtain ⟨q0, q1, q2, q3, q4, q5, q6⟩ := (HV2.out _ hc7).cells
    obtain ⟨r0, r1, r2, r3, r4, r5, r6⟩ := (HV3.out _ hc7).cells
    go_wp2
    all_goals go_ret
    all_goals exact ⟨rfl, HGW.out _ hc7⟩
  by_cases o5 : op ≤ 54
  · have d1 : decide (1 ≤ op) = true := by simp; omega
    have d2 : decide (op ≤ 19) = false := by simp; omega
    have d3 : decide (21 ≤ op) = true := by simp; omega
    have d4 : decide (op ≤ 32) = false := by simp; omega
    have d5 : decide (41 ≤ op) = true := by simp; omega
    have d6 : decide (op ≤ 54) = true := by simp; omega
    have f1 : frm op 1 19 = false := frm_hi (by omega)
    have f2 : frm op 21 32 = false := frm_hi (by omega)
    have f3 : frm op 41 54 = true := frm_yes (by omega) (by omega)
    have eEA : (EA == 0) = false := beq_eq_false_iff_ne.2 (fun h => by have := HEA.out.1 h; simp [f1, f2, f3] at this)
    have eEB : (EB == 0) = true := beq_iff_eq.2 (HEB.out.2 (by simp [f1, f2, f3]))
    have eEC : (EC == 0) = false := beq_eq_false_iff_ne.2 (fun h => by have := HEC.out.1 h; simp [f1, f2, f3] at this)
    clear f1 f2 f3 HEA HEB HEC
    go_wp2_with fail
    refine (HSB.out _ hc0).mono ?_
    rintro e x1 ⟨rfl, hb1⟩
    have hc1 := hc0.trans (hb1.mono hc0.size)
    clear hb1 p0 p1 p2 p3 p4 p5 p6 q0 q1 q2 q3 q4 q5 q6 r0 r1 r2 r3 r4 r5 r6
    obtain ⟨p0, p1, p2, p3, p4, p5, p6⟩ := (HV1.out _ hc1).cells
    obtain ⟨q0, q1, q2, q3, q4, q5, q6⟩ := (HV2.out _ hc1).cells
    obtain ⟨r0, r1, r2, r3, r4, r5, r6⟩ := (HV3.out _ hc1).cells
    go_wp2_with fail
    refine (HDB.out _ hc1).mono ?_
    rintro e x2 ⟨rfl, hb2⟩
    have hc2 := hc1.trans (hb2.mono hc1.size)
    clear hb2 p0 p1 p2 p3 p4 p5 p6 q0 q1 q2 q3 q4 q5 q6 r0 r1 r2 r3 r4 r5 r6
    obtain ⟨p0, p1, p2, p3, p4, p5, p6⟩ := (HV1.out _ hc2).cells
    obtain ⟨q0, q1, q2, q3, q4, q5, q6⟩ := (HV2.out _ hc2).cells
    obtain ⟨r0, r1, r2, r3, r4, r5, r6⟩ := (HV3.out _ hc2).cells
    go_wp2_with fail
    refine (HDC.out _ hc2).mono ?_
    rintro e x3 ⟨rfl, hb3⟩
    have hc3 := hc2.trans (hb3.mono hc2.size)
    clear hb3 p0 p1 p2 p3 p4 p5 p6 q0 q1 q2 q3 q4 q5 q6 r0 r1 r2 r3 r4 r5 r6
    obtain ⟨p0, p1, p2, p3, p4, p5, p6⟩ := (HV1.out _ hc3).cells
    obtain ⟨q0, q1, q2, q3, q4, q5, q6⟩ := (HV2.out _ hc3).cells
    obtain ⟨r0, r1, r2, r3, r4, r5, r6⟩ := (HV3.out _ hc3).cells
    go_wp2_with fail
    refine (HCA.out _ hc3).mono ?_
    rintro e x4 ⟨rfl, hb4⟩
    have hc4 := hc3.trans (hb4.mono hc3.size)
    clear hb4 p0 p1 p2 p3 p4 p5 p6 q0 q1 q2 q3 q4 q5 q6 r0 r1 r2 r3 r4 r5 r6
    obtain ⟨p0, p1, p2, p3, p4, p5, p6⟩ := (HV1.out _ hc4).cells
    obtain ⟨q0, q1, q2, q3, q4, q5, q6⟩ := (HV2.out _ hc4).cells
    obtain ⟨r0, r1, r2, r3, r4, r5, r6⟩ := (HV3.out _ hc4).cells
    go_wp2_with fail
    refine (HCB.out _ hc4).mono ?_
    rintro e x5 ⟨rfl, hb5⟩
    have hc5 := hc4.trans (hb5.mono hc4.size)
    clear hb5 p0 p1 p2 p3 p4 p5 p6 q0 q1 q2 q3 q4 q5 q6 r0 r1 r2 r3 r4 r5 r6
    obtain ⟨p0, p1, p2, p3, p4, p5, p6⟩ := (HV1.out _ hc5).cells
    obtain ⟨q0, q1, q2, q3, q4, q5, q6⟩ := (HV2.out _ hc5).cells
    obtain ⟨r0, r1, r2, r3, r4, r5, r6⟩ := (HV3.out _ hc5).cells
    go_wp2_with fail
    refine (HCC.out _ hc5).mono ?_
    rintro e x6 ⟨rfl, hb6⟩
    have hc6 := hc5.trans (hb6.mono hc5.size)
    clear hb6 p0 p1 p2 p3 p4 p5 p6 q0 q1 q2 q3 q4 q5 q6 r0 r1 r2 r3 r4 r5 r6
    obtain ⟨p0, p1, p2, p3, p4, p5, p6⟩ := (HV1.out _ hc6).cells
    obtain ⟨q0, q1, q2, q3, q4, q5, q6⟩ := (HV2.out _ hc6).cells
    obtain ⟨r0, r1, r2, r3, r4, r5, r6⟩ := (HV3.out _ hc6).cells
    go_wp2_with fail
    refine (HWK.out _ hc6).mono ?_
    rintro e x7 ⟨rfl, hb7⟩
    have hc7 := hc6.trans (hb7.mono hc6.size)
    clear hb7 p0 p1 p2 p3 p4 p5 p6 q0 q1 q2 q3 q4 q5 q6 r0 r1 r2 r3 r4 r5 r6
    obtain ⟨p0, p1, p2, p3, p4, p5, p6⟩ := (HV1.out _ hc7).cells
    obtain ⟨q0, q1, q2, q3, q4, q5, q6⟩ := (HV2.out _ hc7).cells
    obtain ⟨r0, r1, r2, r3, r4, r5, r6⟩ := (HV3.out _ hc7).cells
    go_wp2
    all_goals go_ret
    all_goals exact ⟨rfl, HGW.out _ hc7⟩
  have d1 : decide (1 ≤ op) = true := by simp; omega
  have d2 : decide (op ≤ 19) = false := by simp; omega
  have d3 : decide (21 ≤ op) = true := by simp; omega
  have d4 : decide (op ≤ 32) = false := by simp; omega
  have d5 : decide (41 ≤ op) = true := by simp; omega
  have d6 : decide (op ≤ 54) = false := by simp; omega
  have f1 : frm op 1 19 = false := frm_hi (by omega)
  have f2 : frm op 21 32 = false := frm_hi (by omega)
  have f3 : frm op 41 54 = false := frm_hi (by omega)
  have eEA : (EA == 0) = false := beq_eq_false_iff_ne.2 (fun h => by have := HEA.out.1 h; simp [f1, f2, f3] at this)
  have eEB : (EB == 0) = false := beq_eq_false_iff_ne.2 (fun h => by have := HEB.out.1 h; simp [f1, f2, f3] at this)
  have eEC : (EC == 0) = false := beq_eq_false_iff_ne.2 (fun h => by have := HEC.out.1 h; simp [f1, f2, f3] at this)
  clear f1 f2 f3 HEA HEB HEC
  go_wp2_with fail
  refine (HSB.out _ hc0).mono ?_
  rintro e x1 ⟨rfl, hb1⟩
  have hc1 := hc0.trans (hb1.mono hc0.size)
  clear hb1 p0 p1 p2 p3 p4 p5 p6 q0 q1 q2 q3 q4 q5 q6 r0 r1 r2 r3 r4 r5 r6
  obtain ⟨p0, p1, p2, p3, p4, p5, p6⟩ := (HV1.out _ hc1).cells
  obtain ⟨q0, q1, q2, q3, q4, q5, q6⟩ := (HV2.out _ hc1).cells
  obtain ⟨r0, r1, r2, r3, r4, r5, r6⟩ := (HV3.out _ hc1).cells
  go_wp2_with fail
  refine (HDB.out _ hc1).mono ?_
  rintro e x2 ⟨rfl, hb2⟩
  have hc2 := hc1.trans (hb2.mono hc1.size)
  clear hb2 p0 p1 p2 p3 p4 p5 p6 q0 q1 q2 q3 q4 q5 q6 r0 r1 r2 r3 r4 r5 r6
  obtain ⟨p0, p1, p2, p3, p4, p5, p6⟩ := (HV1.out _ hc2).cells
  obtain ⟨q0, q1, q2, q3, q4, q5, q6⟩ := (HV2.out _ hc2).cells
  obtain ⟨r0, r1, r2, r3, r4, r5, r6⟩ := (HV3.out _ hc2).cells
  go_wp2_with fail
  refine (HDC.out _ hc2).mono ?_
  rintro e x3 ⟨rfl, hb3⟩
  have hc3 := hc2.trans (hb3.mono hc2.size)
  clear hb3 p0 p1 p2 p3 p4 p5 p6 q0 q1 q2 q3 q4 q5 q6 r0 r1 r2 r3 r4 r5 r6
  obtain ⟨p0, p1, p2, p3, p4, p5, p6⟩ := (HV1.out _ hc3).cells
  obtain ⟨q0, q1, q2, q3, q4, q5, q6⟩ := (HV2.out _ hc3).cells
  obtain ⟨r0, r1, r2, r3, r4, r5, r6⟩ := (HV3.out _ hc3).cells
  go_wp2_with fail
  refine (HCA.out _ hc3).mono ?_
  rintro e x4 ⟨rfl, hb4⟩
  have hc4 := hc3.trans (hb4.mono hc3.size)
  clear hb4 p0 p1 p2 p3 p4 p5 p6 q0 q1 q2 q3 q4 q5 q6 r0 r1 r2 r3 r4 r5 r6
  obtain ⟨p0, p1, p2, p3, p4, p5, p6⟩ := (HV1.out _ hc4).cells
  obtain ⟨q0, q1, q2, q3, q4, q5, q6⟩ := (HV2.out _ hc4).cells
  obtain ⟨r0, r1, r2, r3, r4, r5, r6⟩ := (HV3.out _ hc4).cells
  go_wp2_with fail
  refine (HCB.out _ hc4).mono ?_
  rintro e x5 ⟨rfl, hb5⟩
  have hc5 := hc4.trans (hb5.mono hc4.size)
  clear hb5 p0 p1 p2 p3 p4 p5 p6 q0 q1 q2 q3 q4 q5 q6 r0 r1 r2 r3 r4 r5 r6
  obtain ⟨p0, p1, p2, p3, p4, p5, p6⟩ := (HV1.out _ hc5).cells
  obtain ⟨q0, q1, q2, q3, q4, q5, q6⟩ := (HV2.out _ hc5).cells
  obtain ⟨r0, r1, r2, r3, r4, r5, r6⟩ := (HV3.out _ hc5).cells
  go_wp2_with fail
  refine (HCC.out _ hc5).mono ?_
  rintro e x6 ⟨rfl, hb6⟩
  have hc6 := hc5.trans (hb6.mono hc5.size)
  clear hb6 p0 p1 p2 p3 p4 p5 p6 q0 q1 q2 q3 q4 q5 q6 r0 r1 r2 r3 r4 r5 r6
  obtain ⟨p0, p1, p2, p3, p4, p5, p6⟩ := (HV1.out _ hc6).cells
  obtain ⟨q0, q1, q2, q3, q4, q5, q6⟩ := (HV2.out _ hc6).cells
  obtain ⟨r0, r1, r2, r3, r4, r5, r6⟩ := (HV3.out _ hc6).cells
  go_wp2_with fail
  refine (HWK.out _ hc6).mono ?_
  rintro e x7 ⟨rfl, hb7⟩
  have hc7 := hc6.trans (hb7.mono hc6.size)
  clear hb7 p0 p1 p2 p3 p4 p5 p6 q0 q1 q2 q3 q4 q5 q6 r0 r1 r2 r3 r4 r5 r6
  obtain ⟨p0, p1, p2, p3, p4, p5, p6⟩ := (HV1.out _ hc7).cells
  obtain ⟨q0, q1, q2, q3, q4, q5, q6⟩ := (HV2.out _ hc7).cells
  obtain ⟨r0, r1, r2, r3, r4, r5, r6⟩ := (HV3.out _ hc7).cells
  go_wp2
  all_goals go_ret
  all_goals exact ⟨rfl, HGW.out _ hc7⟩
set_option maxRecDepth 100000 in
theorem lifted (os : Os) (started : os.Started) (H : Type) (enc : TypeId × Value → H) :
    ReturnsInHanded {} Try.checked os 7 .any (Rows.coreWrapsSpec.pre6 enc Try.prog Try.f7 Rows.coreWrapsRow.domain false) (Rows.coreWrapsSpec.post enc Try.prog Try.f7 false true false false) := by
  refine returnsInHanded_of_change_sized (C := Try.checked) own started (by kernel_rfl) Try.func7
    (ChangeSpec.witness6 (enc := enc) (C := Try.checked) false ⟨#[], #[.int .i64 0, .agg #[.int .i64 0, .int .i64 0, .string { data := #[] }, .slice none 0 0, .slice none 0 0, .slice none 0 0, .int .i64 0], .agg #[.int .i64 0, .int .i64 0, .string { data := #[] }, .slice none 0 0, .slice none 0 0, .slice none 0 0, .int .i64 0]], []⟩ 8 (by kernel_rfl) (by kernel_rfl) (by kernel_rfl) (by kernel_rfl)) ?_
  intro W base args ds gs before hval0 hW _ hsz0 _
  have hsz : (DataW.weightsEach Try.prog (Try.f7.params.toList ++ Rows.coreWrapsSpec.plain.varTypes Try.prog) (ds ++ gs)).all (· ≤ reachBytes) = true := hsz0
  clear hsz0
  have hval : ∀ (j : Nat) t v, Try.f7.params[j]? = some t → args[j]? = some v → Value.okWide Try.prog W .any base t v := hval0
  have hW' := hW
  obtain ⟨p, q, hA0, hV, rfl, hfz, hnd⟩ := hW
  have hA : DataW.TrodAll enc Try.prog W 0 (fun _ => true) true Try.f7.params.toList args.toList ds p := hA0
  rw [Try.params7] at hA hval hsz
  obtain ⟨v0, vs0, d0, ds0, p0, q0, hargs, rfl, rfl, h0, r0⟩ := trodAll_cons hA
  obtain ⟨v1, vs1, d1, ds1, p1, q1, rfl, rfl, rfl, h1, r1⟩ := trodAll_cons r0
  obtain ⟨v2, vs2, d2, ds2, p2, q2, rfl, rfl, rfl, h2, r2⟩ := trodAll_cons r1
  obtain ⟨rfl, rfl, rfl⟩ := trodAll_nil r2
  obtain rfl : args = #[v0, v1, v2] := by cases args; simp_all
  obtain ⟨rfl, rfl⟩ := trodVars_none hV
  obtain ⟨x0, rfl, rfl, rfl, w0⟩ := open_int Try.underlying3 (hval 0 3 v0 rfl rfl) h0
  have k1 := h1
  have lt1 : ∀ x ∈ p1, x.block < W.heap.size := by obtain ⟨m, hm⟩ := k1; exact DataW.trod_lt m _ _ _ hm
  obtain ⟨m1, n1, y1, c10, c11, c12, c13, c14, c15, c16, hc1, w1⟩ := node_of hsz (j := 1) rfl rfl h1
  obtain rfl := agg_seven hc1
  have k2 := h2
  have lt2 : ∀ x ∈ p2, x.block < W.heap.size := by obtain ⟨m, hm⟩ := k2; exact DataW.trod_lt m _ _ _ hm
  obtain ⟨m2, n2, y2, c20, c21, c22, c23, c24, c25, c26, hc2, w2⟩ := node_of hsz (j := 2) rfl rfl h2
  obtain rfl := agg_seven hc2
  clear hA0 hval0
  refine (walk x0 m1 n1 y1 c10 c11 c12 c13 c14 c15 c16 m2 n2 y2 c20 c21 c22 c23 c24 c25 c26 W w1 w2).mono fun e W' ⟨he, bel⟩ => ?_
  subst he
  exact ⟨_, rfl, _, _, _, [], _, [], hW', trodAll_mk1 (shut_bool Try.underlying4 _), (trodAll_cons_mk (shut_int Try.underlying3 w0) (trodAll_cons_mk (Below.trod laidOut (by kernel_rfl) (of_decide_eq_true (by kernel_rfl)) k1 bel lt1) (trodAll_cons_mk (Below.trod laidOut (by kernel_rfl) (of_decide_eq_true (by kernel_rfl)) k2 bel lt2) trodAll_mk0))), rfl, bel.frame _, fun h => by cases h⟩
theorem over : Rows.coreWrapsRow.holds Try.pinned (OpenSpec.ofChange Rows.coreWrapsSpec) :=
  OpenClaim.holds_of_wide 7 Try.f7 rfl rfl rfl rfl rfl rfl rfl ⟨rfl, rfl, rfl, rfl, rfl⟩ rfl rfl rfl rfl rfl (by kernel_rfl) Try.func7 (by kernel_rfl)
    (of_decide_eq_true (by kernel_rfl)) (by unfold Func.isWrapper; first | (rw [if_pos (by decide +kernel)]; kernel_rfl) | (rw [if_neg (by decide +kernel)]; exact ⟨rfl, rfl⟩))
    (fun os started H enc _ => lifted os started H enc)
theorem proved : Rows.CoreWrapsSaid := over
end Go.Proofs.Ytkgpoibnilgaeaa.coreWraps
namespace Go.Proofs.Ytkgpoibnilgaeaa
theorem coreWraps_holds : Rows.CoreWrapsSaid := coreWraps.proved
#print axioms coreWraps_holds
end Go.Proofs.Ytkgpoibnilgaeaa
