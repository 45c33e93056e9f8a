/-
  Whether two programs are the same, by the document's Same; for all programs.
  A fault of words is one of two; as plain mathematics. Words deeper; nothing as a program. No program is named.
-/
import Derived.Test.YtnaejfoighmfeaaM8
import Derived.Laws.BitsAllLaws
import Derived.Lib.Bits
import Derived.Test.YtnaejfoighmfeaaChecked
import GoSem.Claim
import GoSem.ClaimJoined
import GoSem.ClaimMapViews
import Derived.JoinedTies
import Derived.KernelRfl
import Derived.WalkKit
import Derived.ProofKit
import Derived.Below
import Derived.Deep.QuietTactic
import Derived.BigQuiet
import Derived.Lib.SlBytesConst
import Derived.Laws.BytesArg
import Derived.Laws.MakeOwn
import Derived.Deep.RegionHeld3
import Derived.Laws.AppendOwnNone
import Derived.BigFrame
import Derived.OpenShut
import Derived.ChangeOld
import Derived.SizedLaws
import Derived.Deep.DeepHandedRow
import Derived.Lib.LaidTab
import Derived.Deep.OwnRows
import Derived.Deep.RegionWith
import Derived.Deep.Slices
import Derived.Deep.Strs
import Derived.Deep.LoopGhost
import Derived.Lib.ConvBytes
import Derived.Deep.RegionLaw
import Derived.Deep.CutRange
import Derived.Lib.SliceRun
import Derived.WalkLawsBesides
import Derived.Maps.AppendAt
import Derived.Deep.MidRow
import Derived.Defers
import Derived.Recover
import Derived.Deep.Cut
import Derived.ChangeMaps5
namespace Go.Proofs.Ytnaejfoighmfeaa
open Go.ChangeShapes Go.WideShapes Go.ChangeAt Go.RowKit
set_option maxRecDepth 100000
set_option linter.unusedVariables false
set_option linter.unusedSimpArgs false
/-- Are two programs the same, as far as so many boxes are gone into? -/
def sameN (n : Nat) : Nat → Nd → Nd → Bool
  | 0, _, _ => false
  | m + 1, x, y => decide (x.kind = y.kind) && decide (x.op = y.op) && (x.name.toList == y.name.toList) && decide (cmpA n x.lit y.lit = 0) && (decide (x.kids.length = y.kids.length) && !anyUp (fun i => !sameN n m (nAt x.kids i) (nAt y.kids i)) x.kids.length)
def SameC (k m : Nat) : Prop := ∀ n x y lo lo' va vb w, NdIn m n lo w x va → NdIn m n lo' w y vb → Calls Try.prog k #[va, vb] w fun e w' => e = .returned (.bool (sameN n m x y)) ∧ Below w.heap.size w w'

set_option maxHeartbeats 8000000 in
theorem rsame10_step (m : Nat) (IH : SameC 10 m) : SameC 10 (m + 1) := by
  intro n x y lo lo' va vb w hx hy
  obtain ⟨m', hm', a1, c1, a2, c2, ak, ck, rfl, hA, hl, hs, hK⟩ := hx.letters
  obtain rfl : m = m' := by omega
  obtain ⟨m'', hm'', a1', c1', a2', c2', ak', ck', rfl, hA', hl', hs', hK'⟩ := hy.letters
  obtain rfl : m = m'' := by omega
  have X0 := hide ((box7_new w x.kind x.op x.name (.slice a1 x.lit.shape.length c1) (.slice a2 x.lit.cells.length c2) (.slice ak x.kids.length ck) x.pos).next (one_alloc _ (.cells #[.int .i64 y.kind, .int .i64 y.op, .string y.name, .slice a1' y.lit.shape.length c1', .slice a2' y.lit.cells.length c2', .slice ak' y.kids.length ck', .int .i64 y.pos] 39)))
  have Y0 : Hid (Box7 w (w.heap.size + 1) y.kind y.op y.name (.slice a1' y.lit.shape.length c1') (.slice a2' y.lit.cells.length c2') (.slice ak' y.kids.length ck') y.pos ((w.alloc (.cells #[.int .i64 x.kind, .int .i64 x.op, .string x.name, .slice a1 x.lit.shape.length c1, .slice a2 x.lit.cells.length c2, .slice ak x.kids.length ck, .int .i64 x.pos] 39)).alloc (.cells #[.int .i64 y.kind, .int .i64 y.op, .string y.name, .slice a1' y.lit.shape.length c1', .slice a2' y.lit.cells.length c2', .slice ak' y.kids.length ck', .int .i64 y.pos] 39))) := by
    have h := box7_new (w.alloc (.cells #[.int .i64 x.kind, .int .i64 x.op, .string x.name, .slice a1 x.lit.shape.length c1, .slice a2 x.lit.cells.length c2, .slice ak x.kids.length ck, .int .i64 x.pos] 39)) y.kind y.op y.name (.slice a1' y.lit.shape.length c1') (.slice a2' y.lit.cells.length c2') (.slice ak' y.kids.length ck') y.pos
    have hsz : (w.alloc (.cells #[.int .i64 x.kind, .int .i64 x.op, .string x.name, .slice a1 x.lit.shape.length c1, .slice a2 x.lit.cells.length c2, .slice ak x.kids.length ck, .int .i64 x.pos] 39)).heap.size = w.heap.size + 1 := by simp
    generalize w.alloc (.cells #[.int .i64 x.kind, .int .i64 x.op, .string x.name, .slice a1 x.lit.shape.length c1, .slice a2 x.lit.cells.length c2, .slice ak x.kids.length ck, .int .i64 x.pos] 39) = W1 at *
    rw [hsz] at h
    exact ⟨X0.out.1, h.2⟩
  have hw0 := X0.out.1
  have HCM := hide (fun wr (hwr : Below w.heap.size w wr) => rcmp_any n x.lit y.lit lo lo' _ _ wr (hA.next hwr) (hA'.next hwr))
  simp only [sameN]
  by_cases h1 : x.kind = y.kind
  · by_cases h2 : x.op = y.op
    · cases h3 : x.name.toList == y.name.toList with
      | false =>
        clear hA hA' hK hK' hx hy IH HCM
        generalize cmpA n x.lit y.lit = CM
        generalize (decide (x.kids.length = y.kids.length) && !anyUp (fun i => !sameN n m (nAt x.kids i) (nAt y.kids i)) x.kids.length) = EE
        generalize x.kind = K at *
        generalize x.op = O at *
        generalize x.name = S at *
        generalize x.pos = P at *
        generalize x.lit.shape.length = L1 at *
        generalize x.lit.cells.length = L2 at *
        generalize x.kids.length = LK at *
        generalize y.kind = K' at *
        generalize y.op = O' at *
        generalize y.name = S' at *
        generalize y.pos = P' at *
        generalize y.lit.shape.length = L1' at *
        generalize y.lit.cells.length = L2' at *
        generalize y.kids.length = LK' at *
        subst h1 h2
        go_enter Try.func10, Try.ntmps10
        go_wp2
        all_goals go_ret
        all_goals exact ⟨retB (by simp_all), hw0⟩
      | true =>
        by_cases h5 : x.kids.length = y.kids.length
        · by_cases h4 : cmpA n x.lit y.lit = 0
          · have HKS : Hid (∀ j, j < x.kids.length → ∃ b1 off KK OO SS AA1 LL1 CC1 AA2 LL2 CC2 AAK LLK CCK PP b2 off' KK' OO' SS' AA1' LL1' CC1' AA2' LL2' CC2' AAK' LLK' CCK' PP', ak = some ⟨b1, off, none⟩ ∧ ak' = some ⟨b2, off', none⟩ ∧ ∀ wr, Below w.heap.size w wr → (wr.cell? ⟨b1, off + j * 7, none⟩ = some (.int .i64 KK) ∧ wr.cell? ⟨b1, off + j * 7 + 1, none⟩ = some (.int .i64 OO) ∧ wr.cell? ⟨b1, off + j * 7 + 2, none⟩ = some (.string SS) ∧ wr.cell? ⟨b1, off + j * 7 + 3, none⟩ = some (.slice AA1 LL1 CC1) ∧ wr.cell? ⟨b1, off + j * 7 + 4, none⟩ = some (.slice AA2 LL2 CC2) ∧ wr.cell? ⟨b1, off + j * 7 + 5, none⟩ = some (.slice AAK LLK CCK) ∧ wr.cell? ⟨b1, off + j * 7 + 6, none⟩ = some (.int .i64 PP)) ∧ (wr.cell? ⟨b2, off' + j * 7, none⟩ = some (.int .i64 KK') ∧ wr.cell? ⟨b2, off' + j * 7 + 1, none⟩ = some (.int .i64 OO') ∧ wr.cell? ⟨b2, off' + j * 7 + 2, none⟩ = some (.string SS') ∧ wr.cell? ⟨b2, off' + j * 7 + 3, none⟩ = some (.slice AA1' LL1' CC1') ∧ wr.cell? ⟨b2, off' + j * 7 + 4, none⟩ = some (.slice AA2' LL2' CC2') ∧ wr.cell? ⟨b2, off' + j * 7 + 5, none⟩ = some (.slice AAK' LLK' CCK') ∧ wr.cell? ⟨b2, off' + j * 7 + 6, none⟩ = some (.int .i64 PP')) ∧
                Calls Try.prog 10 #[.agg #[.int .i64 KK, .int .i64 OO, .string SS, .slice AA1 LL1 CC1, .slice AA2 LL2 CC2, .slice AAK LLK CCK, .int .i64 PP], .agg #[.int .i64 KK', .int .i64 OO', .string SS', .slice AA1' LL1' CC1', .slice AA2' LL2' CC2', .slice AAK' LLK' CCK', .int .i64 PP']] wr fun e w' => e = .returned (.bool (sameN n m (nAt x.kids j) (nAt y.kids j))) ∧ Below wr.heap.size wr w') := by
              intro j hj
              obtain ⟨b1, off, KK, OO, SS, AA1, LL1, CC1, AA2, LL2, CC2, AAK, LLK, CCK, PP, ha, -, hw⟩ := kid_cells hK hj
              obtain ⟨b2, off', KK', OO', SS', AA1', LL1', CC1', AA2', LL2', CC2', AAK', LLK', CCK', PP', hb, -, hw'⟩ := kid_cells hK' (j := j) (by omega)
              exact ⟨b1, off, KK, OO, SS, AA1, LL1, CC1, AA2, LL2, CC2, AAK, LLK, CCK, PP, b2, off', KK', OO', SS', AA1', LL1', CC1', AA2', LL2', CC2', AAK', LLK', CCK', PP', ha, hb, fun wr hwr => ⟨(hw wr hwr).1, (hw' wr hwr).1, IH n _ _ lo lo' _ _ wr (hw wr hwr).2 (hw' wr hwr).2⟩⟩
            have HHIT : Hid (∀ j, j < x.kids.length → sameN n m (nAt x.kids j) (nAt y.kids j) = false → (!anyUp (fun i => !sameN n m (nAt x.kids i) (nAt y.kids i)) x.kids.length) = false) := fun j hj h => by
              rw [anyUp_hit hj (by simp [h])]
              rfl
            have HNO : Hid ((∀ j, j < x.kids.length → sameN n m (nAt x.kids j) (nAt y.kids j) = true) → (!anyUp (fun i => !sameN n m (nAt x.kids i) (nAt y.kids i)) x.kids.length) = true) := fun h => by
              rw [anyUp_none.2 fun i hi => by simp [h i hi]]
              rfl
            rw [decide_eq_true h1, decide_eq_true h2, decide_eq_true h4, decide_eq_true h5]
            simp only [Bool.true_and]
            generalize (!anyUp (fun i => !sameN n m (nAt x.kids i) (nAt y.kids i)) x.kids.length) = Z at *
            generalize hF : (fun i => sameN n m (nAt x.kids i) (nAt y.kids i)) = F at *
            have HF : Hid (∀ j, sameN n m (nAt x.kids j) (nAt y.kids j) = F j) := fun j => by rw [← hF]
            rw [h4] at HCM
            clear hF hA hA' hK hK' hx hy IH h4
            generalize x.kind = K at *
            generalize x.op = O at *
            generalize x.name = S at *
            generalize x.pos = P at *
            generalize x.lit.shape.length = L1 at *
            generalize x.lit.cells.length = L2 at *
            generalize x.kids.length = L at *
            generalize y.kind = K' at *
            generalize y.op = O' at *
            generalize y.name = S' at *
            generalize y.pos = P' at *
            generalize y.lit.shape.length = L1' at *
            generalize y.lit.cells.length = L2' at *
            generalize y.kids.length = LK' at *
            subst h1 h2 h5
            clear hl'
            go_enter Try.func10, Try.ntmps10
            go_wp2_with fail
            refine (HCM.out _ hw0).mono ?_
            rintro e w1 ⟨rfl, hb1⟩
            have X1 := hide (X0.out.next hb1)
            have Y1 := hide (Y0.out.next hb1)
            clear hb1
            obtain ⟨hw1, -, q0, q1, q2, q3, q4, q5, q6⟩ := X1.out
            obtain ⟨-, -, r0, r1, r2, r3, r4, r5, r6⟩ := Y1.out
            go_wp2
            go_loopg [5] L (fun g i wr => ∃ (j : Nat), g + j = L ∧ i = .int .i64 (j : Int) ∧ (∀ i, i < j → F i = true) ∧ Box7 w w.heap.size K O S (.slice a1 L1 c1) (.slice a2 L2 c2) (.slice ak L ck) P wr ∧ Box7 w (w.heap.size + 1) K O S' (.slice a1' L1' c1') (.slice a2' L2' c2') (.slice ak' L ck') P' wr)
            case atStart => exact ⟨0, rfl, rfl, (by intro i hi; omega), X1.out, Y1.out⟩
            case round =>
              clear q0 q1 q2 q3 q4 q5 q6 r0 r1 r2 r3 r4 r5 r6 hw1 X1 Y1 X0 Y0 hw0
              obtain ⟨j, hj, rfl, hno, hX, hY⟩ := hrel
              have HN := hide hno
              have HX := hide hX
              have HY := hide hY
              clear hno
              obtain ⟨hnx, -, q0, q1, q2, q3, q4, q5, q6⟩ := hX
              obtain ⟨-, -, r0, r1, r2, r3, r4, r5, r6⟩ := hY
              clear q0 q1 q2 q3 q4 q6 r0 r1 r2 r3 r4 r6
              by_cases hlt : j < L
              · obtain ⟨b1, off, KK, OO, SS, AA1, LL1, CC1, AA2, LL2, CC2, AAK, LLK, CCK, PP, b2, off', KK', OO', SS', AA1', LL1', CC1', AA2', LL2', CC2', AAK', LLK', CCK', PP', rfl, rfl, hw⟩ := HKS.out j hlt
                have HH := hide (HHIT.out j hlt)
                rw [HF.out j] at HH
                have HFJ0 := hide (HF.out j)
                clear HKS HHIT HNO HF
                have KS : Hid (∀ W, Below wr.heap.size wr W → Below wr.heap.size wr W ∧ W.cell? ⟨w.heap.size, 5, none⟩ = some (.slice (some ⟨b1, off, none⟩) L ck) ∧ W.cell? ⟨w.heap.size + 1, 5, none⟩ = some (.slice (some ⟨b2, off', none⟩) L ck') ∧ (W.cell? ⟨b1, off + j * 7, none⟩ = some (.int .i64 KK) ∧ W.cell? ⟨b1, off + j * 7 + 1, none⟩ = some (.int .i64 OO) ∧ W.cell? ⟨b1, off + j * 7 + 2, none⟩ = some (.string SS) ∧ W.cell? ⟨b1, off + j * 7 + 3, none⟩ = some (.slice AA1 LL1 CC1) ∧ W.cell? ⟨b1, off + j * 7 + 4, none⟩ = some (.slice AA2 LL2 CC2) ∧ W.cell? ⟨b1, off + j * 7 + 5, none⟩ = some (.slice AAK LLK CCK) ∧ W.cell? ⟨b1, off + j * 7 + 6, none⟩ = some (.int .i64 PP)) ∧
                    (W.cell? ⟨b2, off' + j * 7, none⟩ = some (.int .i64 KK') ∧ W.cell? ⟨b2, off' + j * 7 + 1, none⟩ = some (.int .i64 OO') ∧ W.cell? ⟨b2, off' + j * 7 + 2, none⟩ = some (.string SS') ∧ W.cell? ⟨b2, off' + j * 7 + 3, none⟩ = some (.slice AA1' LL1' CC1') ∧ W.cell? ⟨b2, off' + j * 7 + 4, none⟩ = some (.slice AA2' LL2' CC2') ∧ W.cell? ⟨b2, off' + j * 7 + 5, none⟩ = some (.slice AAK' LLK' CCK') ∧ W.cell? ⟨b2, off' + j * 7 + 6, none⟩ = some (.int .i64 PP'))) := fun W h => ⟨h, (HX.out.next h).2.2.2.2.2.2.2.1, (HY.out.next h).2.2.2.2.2.2.2.1, (hw W (hnx.trans (h.mono hnx.size))).1, (hw W (hnx.trans (h.mono hnx.size))).2.1⟩
                have HCC : Hid (∀ W, Below wr.heap.size wr W → Calls Try.prog 10 #[.agg #[.int .i64 KK, .int .i64 OO, .string SS, .slice AA1 LL1 CC1, .slice AA2 LL2 CC2, .slice AAK LLK CCK, .int .i64 PP], .agg #[.int .i64 KK', .int .i64 OO', .string SS', .slice AA1' LL1' CC1', .slice AA2' LL2' CC2', .slice AAK' LLK' CCK', .int .i64 PP']] W fun e w' => e = .returned (.bool (F j)) ∧ Below wr.heap.size wr w') := fun W h => (hw W (hnx.trans (h.mono hnx.size))).2.2.mono fun e w' ⟨he, hb⟩ => ⟨by rw [he, HFJ0.out], h.trans (hb.mono h.size)⟩
                have HD0 : Hid (Below wr.heap.size wr wr.drew) := (Below.refl _ _).drew
                clear hw HFJ0
                cases hFJ : F j with
                | true =>
                  rw [hFJ] at HCC
                  have HFJ := hide hFJ
                  clear hFJ HH
                  go_upto_region 6 with fail
                  go_region_held3 (fun W => Below wr.heap.size wr W ∧ W.cell? ⟨w.heap.size, 5, none⟩ = some (.slice (some ⟨b1, off, none⟩) L ck) ∧ W.cell? ⟨w.heap.size + 1, 5, none⟩ = some (.slice (some ⟨b2, off', none⟩) L ck') ∧ (W.cell? ⟨b1, off + j * 7, none⟩ = some (.int .i64 KK) ∧ W.cell? ⟨b1, off + j * 7 + 1, none⟩ = some (.int .i64 OO) ∧ W.cell? ⟨b1, off + j * 7 + 2, none⟩ = some (.string SS) ∧ W.cell? ⟨b1, off + j * 7 + 3, none⟩ = some (.slice AA1 LL1 CC1) ∧ W.cell? ⟨b1, off + j * 7 + 4, none⟩ = some (.slice AA2 LL2 CC2) ∧ W.cell? ⟨b1, off + j * 7 + 5, none⟩ = some (.slice AAK LLK CCK) ∧ W.cell? ⟨b1, off + j * 7 + 6, none⟩ = some (.int .i64 PP)) ∧ (W.cell? ⟨b2, off' + j * 7, none⟩ = some (.int .i64 KK') ∧ W.cell? ⟨b2, off' + j * 7 + 1, none⟩ = some (.int .i64 OO') ∧ W.cell? ⟨b2, off' + j * 7 + 2, none⟩ = some (.string SS') ∧ W.cell? ⟨b2, off' + j * 7 + 3, none⟩ = some (.slice AA1' LL1' CC1') ∧ W.cell? ⟨b2, off' + j * 7 + 4, none⟩ = some (.slice AA2' LL2' CC2') ∧ W.cell? ⟨b2, off' + j * 7 + 5, none⟩ = some (.slice AAK' LLK' CCK') ∧ W.cell? ⟨b2, off' + j * 7 + 6, none⟩ = some (.int .i64 PP'))) (first | with_reducible exact KS.out _ HD0.out | with_reducible exact KS.out _ (by with_reducible assumption)) (first | (go_at_call 10; refine (HCC.out _ HD0.out).mono ?_; rintro e w9 ⟨rfl, hb9⟩))
                  go_wp2
                  go_roundg (L - (j + 1))
                  case rel =>
                    refine ⟨j + 1, by omega, by go_num, fun i hi => ?_, HX.out.next hb9, HY.out.next hb9⟩
                    rcases Nat.lt_succ_iff_lt_or_eq.1 hi with hi | rfl
                    · exact HN.out i hi
                    · exact HFJ.out
                  case measure => omega
                | false =>
                  rw [hFJ] at HCC
                  have HZ := hide (HH.out hFJ)
                  clear hFJ HH HN
                  go_upto_region 6 with fail
                  go_region_held3 (fun W => Below wr.heap.size wr W ∧ W.cell? ⟨w.heap.size, 5, none⟩ = some (.slice (some ⟨b1, off, none⟩) L ck) ∧ W.cell? ⟨w.heap.size + 1, 5, none⟩ = some (.slice (some ⟨b2, off', none⟩) L ck') ∧ (W.cell? ⟨b1, off + j * 7, none⟩ = some (.int .i64 KK) ∧ W.cell? ⟨b1, off + j * 7 + 1, none⟩ = some (.int .i64 OO) ∧ W.cell? ⟨b1, off + j * 7 + 2, none⟩ = some (.string SS) ∧ W.cell? ⟨b1, off + j * 7 + 3, none⟩ = some (.slice AA1 LL1 CC1) ∧ W.cell? ⟨b1, off + j * 7 + 4, none⟩ = some (.slice AA2 LL2 CC2) ∧ W.cell? ⟨b1, off + j * 7 + 5, none⟩ = some (.slice AAK LLK CCK) ∧ W.cell? ⟨b1, off + j * 7 + 6, none⟩ = some (.int .i64 PP)) ∧ (W.cell? ⟨b2, off' + j * 7, none⟩ = some (.int .i64 KK') ∧ W.cell? ⟨b2, off' + j * 7 + 1, none⟩ = some (.int .i64 OO') ∧ W.cell? ⟨b2, off' + j * 7 + 2, none⟩ = some (.string SS') ∧ W.cell? ⟨b2, off' + j * 7 + 3, none⟩ = some (.slice AA1' LL1' CC1') ∧ W.cell? ⟨b2, off' + j * 7 + 4, none⟩ = some (.slice AA2' LL2' CC2') ∧ W.cell? ⟨b2, off' + j * 7 + 5, none⟩ = some (.slice AAK' LLK' CCK') ∧ W.cell? ⟨b2, off' + j * 7 + 6, none⟩ = some (.int .i64 PP'))) (first | with_reducible exact KS.out _ HD0.out | with_reducible exact KS.out _ (by with_reducible assumption)) (first | (go_at_call 10; refine (HCC.out _ HD0.out).mono ?_; rintro e w9 ⟨rfl, hb9⟩))
                  go_wp2
                  go_ret
                  exact ⟨retB HZ.out.symm, (HX.out.next hb9).1⟩
              · have hje : j = L := by omega
                subst hje
                have HZ := hide (HNO.out fun i hi => by rw [HF.out i]; exact HN.out i hi)
                clear HKS HHIT HNO HN HF
                go_wp2
                go_ret
                exact ⟨retB HZ.out.symm, HX.out.1⟩
          · have h4' : (cmpA n x.lit y.lit == 0) = false := beq_eq_false_iff_ne.2 h4
            have h4'' : (cmpA n x.lit y.lit != 0) = true := by simp [h4]
            clear hA hA' hK hK' hx hy IH
            generalize (decide (x.kids.length = y.kids.length) && !anyUp (fun i => !sameN n m (nAt x.kids i) (nAt y.kids i)) x.kids.length) = EE
            generalize cmpA n x.lit y.lit = CM at *
            generalize x.kind = K at *
            generalize x.op = O at *
            generalize x.name = S at *
            generalize x.pos = P at *
            generalize x.lit.shape.length = L1 at *
            generalize x.lit.cells.length = L2 at *
            generalize x.kids.length = LK at *
            generalize y.kind = K' at *
            generalize y.op = O' at *
            generalize y.name = S' at *
            generalize y.pos = P' at *
            generalize y.lit.shape.length = L1' at *
            generalize y.lit.cells.length = L2' at *
            generalize y.kids.length = LK' at *
            subst h1 h2 h5
            go_enter Try.func10, Try.ntmps10
            go_wp2_with fail
            refine (HCM.out _ hw0).mono ?_
            rintro e w1 ⟨rfl, hb1⟩
            have X1 := hide (X0.out.next hb1)
            have Y1 := hide (Y0.out.next hb1)
            clear hb1
            obtain ⟨hw1, -, q0, q1, q2, q3, q4, q5, q6⟩ := X1.out
            obtain ⟨-, -, r0, r1, r2, r3, r4, r5, r6⟩ := Y1.out
            go_wp2
            all_goals go_ret
            all_goals exact ⟨retB (by simp_all), hw1⟩
        · have h5' : ((x.kids.length : Int) == (y.kids.length : Int)) = false := beq_eq_false_iff_ne.2 (by omega)
          have h5'' : ((x.kids.length : Int) != (y.kids.length : Int)) = true := by simp; omega
          clear hA hA' hK hK' hx hy IH HCM
          rw [decide_eq_false h5]
          generalize cmpA n x.lit y.lit = CM
          generalize x.kind = K at *
          generalize x.op = O at *
          generalize x.name = S at *
          generalize x.pos = P at *
          generalize x.lit.shape.length = L1 at *
          generalize x.lit.cells.length = L2 at *
          generalize x.kids.length = LK at *
          generalize y.kind = K' at *
          generalize y.op = O' at *
          generalize y.name = S' at *
          generalize y.pos = P' at *
          generalize y.lit.shape.length = L1' at *
          generalize y.lit.cells.length = L2' at *
          generalize y.kids.length = LK' at *
          subst h1 h2
          go_enter Try.func10, Try.ntmps10
          go_wp2
          all_goals go_ret
          all_goals exact ⟨retB (by simp_all), hw0⟩
    · clear hA hA' hK hK' hx hy IH HCM
      generalize cmpA n x.lit y.lit = CM
      generalize (decide (x.kids.length = y.kids.length) && !anyUp (fun i => !sameN n m (nAt x.kids i) (nAt y.kids i)) x.kids.length) = EE
      generalize x.kind = K at *
      generalize x.op = O at *
      generalize x.name = S at *
      generalize x.pos = P at *
      generalize x.lit.shape.length = L1 at *
      generalize x.lit.cells.length = L2 at *
      generalize x.kids.length = LK at *
      generalize y.kind = K' at *
      generalize y.op = O' at *
      generalize y.name = S' at *
      generalize y.pos = P' at *
      generalize y.lit.shape.length = L1' at *
      generalize y.lit.cells.length = L2' at *
      generalize y.kids.length = LK' at *
      subst h1
      have h2' : (O == O') = false := beq_eq_false_iff_ne.2 h2
      have h2'' : (O != O') = true := by simp [h2]
      go_enter Try.func10, Try.ntmps10
      go_wp2
      all_goals go_ret
      all_goals exact ⟨retB (by simp_all), hw0⟩
  · clear hA hA' hK hK' hx hy IH HCM
    generalize cmpA n x.lit y.lit = CM
    generalize (decide (x.kids.length = y.kids.length) && !anyUp (fun i => !sameN n m (nAt x.kids i) (nAt y.kids i)) x.kids.length) = EE
    generalize x.kind = K at *
    generalize x.op = O at *
    generalize x.name = S at *
    generalize x.pos = P at *
    generalize x.lit.shape.length = L1 at *
    generalize x.lit.cells.length = L2 at *
    generalize x.kids.length = LK at *
    generalize y.kind = K' at *
    generalize y.op = O' at *
    generalize y.name = S' at *
    generalize y.pos = P' at *
    generalize y.lit.shape.length = L1' at *
    generalize y.lit.cells.length = L2' at *
    generalize y.kids.length = LK' at *
    have h1' : (K == K') = false := beq_eq_false_iff_ne.2 h1
    have h1'' : (K != K') = true := by simp [h1]
    go_enter Try.func10, Try.ntmps10
    go_wp2
    all_goals go_ret
    all_goals exact ⟨retB (by simp_all), hw0⟩
theorem rsame10 (m : Nat) : SameC 10 m := by
  induction m with
  | zero => exact fun n x y lo lo' va vb w hx => hx.elim
  | succ m ih => exact rsame10_step m ih
/-- A program is the same as itself. -/
theorem sameN_self {m n n' lo : Nat} {w : World} {x : Nd} {v : Value} (k : Nat) (h : NdIn m n' lo w x v) : sameN k m x x = true := by
  induction m generalizing x v with
  | zero => exact h.elim
  | succ m ih =>
    obtain ⟨m', hm', a1, c1, a2, c2, ak, ck, rfl, hA, hl, hs, hK⟩ := h.letters
    obtain rfl : m = m' := by omega
    have hk : anyUp (fun i => !sameN k m (nAt x.kids i) (nAt x.kids i)) x.kids.length = false := anyUp_none.2 fun i hi => by
      obtain ⟨b, off, K, O, S, A1, L1, C1, A2, L2, C2, AK, LK, CK, P, ha, -, hw⟩ := kid_cells hK hi
      simp only [ih (hw w (Below.refl _ _)).2, Bool.not_true]
    simp only [sameN, cmpA_self, hk, decide_true, beq_self_eq_true, Bool.and_self, Bool.not_false]
end Go.Proofs.Ytnaejfoighmfeaa
namespace Go.Proofs.Ytnaejfoighmfeaa
open Go.ChangeShapes Go.WideShapes Go.ChangeAt Go.RowKit
set_option maxRecDepth 100000
set_option linter.unusedVariables false
set_option linter.unusedSimpArgs false
def Er {α : Type} (x : Rs α) : Prop := ∀ e p, x = .bad e p → e = 2 ∨ e = 15
theorem Er.ok {α : Type} {a : α} : Er (.ok a) := fun e p h => by cases h
theorem Er.stuck {α : Type} : Er (.stuck : Rs α) := fun e p h => by cases h
theorem Er.two {α : Type} {p : Int} : Er (.bad 2 p : Rs α) := fun e q h => by cases h; exact Or.inl rfl
theorem Er.deep {α : Type} {p : Int} : Er (.bad 15 p : Rs α) := fun e q h => by cases h; exact Or.inr rfl
theorem Er.bind {α β : Type} {x : Rs α} {f : α → Rs β} (hx : Er x) (hf : ∀ a, Er (f a)) : Er (x.bind f) := fun e p h => by
  cases x with
  | ok a => exact hf a e p h
  | bad e' p' => cases h; exact hx e p rfl
  | stuck => cases h
theorem wordS_er {g : Gr} {e : Int} {inn : Bool} {l : List Wo} : Er (wordS g e inn l) := by
  cases l with
  | nil => exact Er.two
  | cons x r =>
    simp only [wordS]
    split
    · exact Er.ok
    split
    · exact Er.ok
    split
    · exact Er.ok
    split
    · exact Er.ok
    · exact Er.two
theorem closeS_er {e : Int} {t : ByteArray} {l : List Wo} : Er (closeS e t l) := by
  unfold closeS
  split
  · exact Er.ok
  · exact Er.two
def ErE (E : ET) : Prop := ∀ inn l, Er (E inn l)
def ErF (F : FT) : Prop := ∀ l, Er (F l)
theorem bareS_er {g : Gr} {e : Int} {E : ET} (hE : ErE E) : ErE (bareS g e E) := fun inn l => by
  unfold bareS
  split
  · exact (hE _ _).bind fun q => closeS_er.bind fun r => Er.ok
  · exact wordS_er.bind fun q => Er.ok
theorem sqS_er {g : Gr} {e : Int} {E : ET} (hE : ErE E) (inn : Bool) (p : Int) (f : Nat) : ∀ n l nm, Er (sqS g e E inn p f n l nm) := by
  induction f with
  | zero => intro n l nm; exact Er.stuck
  | succ f ih =>
    intro n l nm
    simp only [sqS]
    split
    · exact (hE _ _).bind fun q => closeS_er.bind fun r => ih _ _ _
    · exact Er.ok
theorem operS_er {g : Gr} {e : Int} {E : ET} (hE : ErE E) : ErE (operS g e E) := fun inn l => by
  unfold operS
  exact (bareS_er hE inn l).bind fun q => sqS_er hE _ _ _ _ _ _
theorem textS_er {g : Gr} {e : Int} {E : ET} (hE : ErE E) (l : List Wo) : Er (textS g e E l) := by
  unfold textS
  refine (hE _ _).bind fun q => closeS_er.bind fun r => ?_
  split
  · exact Er.ok
  split
  · exact Er.two
  · exact Er.ok
theorem trS_er {F : FT} (hF : ErF F) (f : Nat) : ∀ ps l, Er (trS F f ps l) := by
  induction f with
  | zero => intro ps l; exact Er.stuck
  | succ f ih =>
    intro ps l
    simp only [trS]
    split
    · split
      · exact Er.stuck
      · exact Er.ok
    · exact (hF l).bind fun q => ih _ _
theorem stemS_er {g : Gr} {e : Int} {E : ET} {F : FT} (hE : ErE E) (hF : ErF F) (l : List Wo) : Er (stemS g e E F l) := by
  unfold stemS
  split
  · exact textS_er hE l
  split
  · unfold trainS
    exact (trS_er hF _ _ _).bind fun q => Er.ok
  · split
    · exact Er.stuck
    · exact Er.ok
theorem funS_er {g : Gr} {e : Int} {E : ET} {F : FT} (hE : ErE E) (hF : ErF F) : ErF (funS g e E F) := fun l => by
  unfold funS
  exact (stemS_er hE hF _).bind fun q => Er.ok
theorem exprS_er {g : Gr} {e : Int} {E : ET} {F : FT} (hE : ErE E) (hF : ErF F) : ErE (exprS g e E F) := fun inn l => by
  unfold exprS
  split
  · refine (operS_er hE inn l).bind fun q => ?_
    split
    · exact Er.ok
    split
    · exact Er.two
    refine (hF _).bind fun f => ?_
    split
    · split
      · exact (hE _ _).bind fun y => Er.ok
      · exact Er.two
    · exact (hE _ _).bind fun y => Er.ok
  · exact (hF _).bind fun f => (hE _ _).bind fun x => Er.ok
theorem EF_er (g : Gr) (e : Int) (d : Nat) : ErE (EF g e d).1 ∧ ErF (EF g e d).2 := by
  induction d with
  | zero => exact ⟨fun _ _ => Er.deep, fun _ => Er.deep⟩
  | succ d ih => exact ⟨exprS_er ih.1 ih.2, funS_er ih.1 ih.2⟩
theorem parse_er {g : Gr} {e : Int} {l : List Wo} {er p : Int} (h : parseS g e l = .bad er p) : er = 2 ∨ er = 15 := by
  refine (show Er (parseS g e l) from ?_) er p h
  unfold parseS
  refine ((EF_er g e 24).1 _ _).bind fun q => ?_
  split
  · exact Er.ok
  · exact Er.two
theorem WoR.deeper {n m : Nat} {w : World} {a : Option Addr} {ws : List Wo} (h : WoR n w a ws) (hm : n ≤ m) : WoR m w a ws := fun i hi => by
  obtain ⟨b, off, z1, m1, z2, m2, ha, hl, h0, h1, h2, h3, h4, h5, h6⟩ := h i hi
  exact ⟨b, off, z1, m1, z2, m2, ha, hl, h0, h1, h2, h3, h4, h5, h6.deep hm⟩
theorem nil_in (lo : Nat) (w : World) : NdIn 1 1 lo w nNil (.agg #[.int .i64 0, .int .i64 0, .string ⟨#[]⟩, .slice none 0 0, .slice none 0 0, .slice none 0 0, .int .i64 0]) :=
  ⟨none, 0, none, 0, none, 0, rfl, arIn_mk (x := .mk [] []) (row_nil _ _ _) (by simp [Ar.cells]) (Or.inl rfl) rfl rfl, by simp [nNil, Nd.kids], by decide, Or.inl rfl⟩
theorem same_nil (w : World) : Calls Try.prog 10 #[.agg #[.int .i64 0, .int .i64 0, .string ⟨#[]⟩, .slice none 0 0, .slice none 0 0, .slice none 0 0, .int .i64 0], .agg #[.int .i64 0, .int .i64 0, .string ⟨#[]⟩, .slice none 0 0, .slice none 0 0, .slice none 0 0, .int .i64 0]] w fun e w' => e = .returned (.bool true) ∧ Below w.heap.size w w' := by
  have h := rsame10 1 1 nNil nNil 0 0 _ _ w (nil_in 0 w) (nil_in 0 w)
  rw [sameN_self (n := 1) 1 (nil_in 0 w)] at h
  exact h
end Go.Proofs.Ytnaejfoighmfeaa
