/-
  Layer 8: what a function of two cells makes lies in 64 bits; the program's fromRight over cells, by each of the two closures.
  Layer 8: all numbers of a line at once (atOnce, by Sum and by Prod); what a line comes to (rowR); the program's folded.
  Layer 8: folded as far as each, as mathematics: by the cell ahead (onward), by numbers anew, by what the cells ahead make of a 0 and of a 1.
  Layer 8: the program's folded: a line of cells folded.
  Layer 8: the document's function of two cells, turned or not.
  Layer 8: the document's row where it folds from the right.
  Layer 8: the document's row of no cell and of one.
  Layer 8: the document's row of two cells or more, Add and Mul: all numbers at once.
  Layer 8: where the cells of a line lie (place), a line's cells (line).
-/
import Derived.Test.YtlfacpclihmnnaaDoorM2
import Derived.WalkKit
import Derived.Test.YtlfacpclihmnnaaDoorChecked
import GoSem.Claim
import GoSem.ClaimJoined
import GoSem.ClaimMapViews
import Derived.JoinedTies
import Derived.KernelRfl
import Derived.ProofKit
import Derived.Below
import Derived.Deep.OwnRows
import Derived.Deep.QuietTactic
import Derived.BigQuiet
import Derived.Deep.RegionWith
import Derived.Laws.MakeOwn
import Derived.Deep.RegionHeld3
import Derived.OpenShut
import Derived.Lib.Mul64
import Derived.Laws.Bits64b
import Derived.ChangeOld
import Derived.SizedLaws
import Derived.Deep.Slices
import Derived.Deep.Strs
import Derived.Deep.LoopGhost
import Derived.Laws.IdiomCopy
import Derived.Deep.Cut
import Derived.Deep.RegionLaw
import Derived.Laws.AppendOwnNone
import Derived.BigFrame
import Derived.Laws.OwnMore
import Derived.OwnWalk
import Derived.Lib.SliceRun
import Derived.Deep.CutRange
import Derived.Laws.EntriesVeiled
import GoSem.ClaimSeven
import Derived.LaidByTextLater
import Derived.SevenTiedAt
import Derived.LaidSub
import Derived.LaidOnce
import Derived.Deep.DeepHandedRow
import Derived.Lib.LaidTab
namespace Go.Proofs.YtlfacpclihmnnaaDoor
open Go.ChangeShapes Go.WideShapes Go.ChangeAt Go.RowKit
open Num (resV resE In64 sgnI absI)
set_option linter.unusedVariables false
set_option linter.unusedSimpArgs false
set_option maxRecDepth 100000
theorem resV_in64 (x : Int) : In64 (resV x) := by
  unfold resV In64
  split
  · rename_i h; simpa [Num.fitB] using h
  · omega
theorem tr_in64 (b : Bool) : In64 (tr b) := by cases b <;> simp [tr, In64]
theorem twoV_in64 {op a b : Int} (ha : In64 a) (hb : In64 b) : In64 (twoV op a b) := by
  unfold twoV
  repeat' split
  all_goals first | exact resV_in64 _ | exact tr_in64 _ | skip
  · unfold In64 at *; omega
  · unfold In64 at *; omega
  · unfold In64 at *
    by_cases h0 : a = 0
    · subst h0; rw [Int.fmod_zero]; exact hb
    · rw [Int.fmod_eq_emod]
      have h1 := Int.emod_nonneg b h0
      have h2 := Int.emod_lt b h0
      split <;> omega
theorem eqV_in64 (op : Int) (c d : Ce) : In64 (eqV op c d) := by
  unfold eqV
  repeat' split
  all_goals first | exact tr_in64 _ | (unfold In64; omega)
theorem c2V_in64 {op : Int} {c d : Ce} (hc : In64 c.2.1) (hd : In64 d.2.1) : In64 (c2V op c d) := by
  unfold c2V
  repeat' split
  all_goals first | exact twoV_in64 hc hd | exact eqV_in64 _ _ _ | (unfold In64; omega)
theorem tV_in64 {op : Int} {t : Bool} {c d : Ce} (hc : In64 c.2.1) (hd : In64 d.2.1) : In64 (tV op t c d) := by
  unfold tV
  cases t
  · exact c2V_in64 hc hd
  · exact c2V_in64 hd hc
/-- Where a line's folding stands: the cells from j on are folded without error, and what came of them lies in block O. -/
structure FrS (w : World) (op : Int) (t : Bool) (cs : List Ce) (j : Nat) (k1 n1 : Int) (u2 : Value) (W : World) : Prop where
  bel : Below w.heap.size w W
  le : j + 1 ≤ cs.length
  e0 : (frL op t (cs.drop j)).2 = 0
  v0 : (frL op t (cs.drop j)).1.1 = k1
  v1 : (frL op t (cs.drop j)).1.2.1 = n1
  in64 : In64 n1
  num : j + 1 < cs.length → k1 = 0 ∧ u2 = .slice none 0 0
  out : Zc W (w.heap.size + 1) (.int .i64 k1) (.int .i64 n1) u2
  res : Zc W w.heap.size (.int .i64 0) (.int .i64 0) (.slice none 0 0)
set_option maxHeartbeats 8000000 in
theorem fromR74 {n lo : Nat} {cs : List Ce} {a : Option Addr} {cap : Nat} {op : Int} {w : World} (hc : CellsIn n lo w cs a) (hl : cs.length ≤ 16384) (h2 : 2 ≤ cs.length) (hin : ∀ i, i < cs.length → In64 (cAt cs i).2.1) (T : Tab w) :
    Calls Tryd.prog 65 #[.slice a cs.length cap, .func (.func 74) #[.agg #[.int .i64 op, .bool false]] #[]] w fun e w' => e = .returned (.tuple #[.agg #[.int .i64 0, .int .i64 (frL op false cs).1.2.1, .slice none 0 0], .int .i64 (frL op false cs).2]) ∧ Below w.heap.size w w' := by
  obtain ⟨ab, cb, hcf⟩ := cells_fn hc
  obtain ⟨b, off, rfl, -, hbl, hcc⟩ := hcf (by omega)
  obtain ⟨L, hL⟩ : ∃ L, cs.length = L := ⟨_, rfl⟩
  have HN := hide (fun h => frL_num op false cs h)
  obtain ⟨R, hR⟩ : ∃ R, frL op false cs = R := ⟨_, rfl⟩
  have HR := hide hR
  have HT := hide (fun (W : World) (hb : Below w.heap.size w W) => T.next hb)
  have HIN := hide hin
  have HCC := hide hcc
  obtain ⟨e0, e1, e2, -⟩ := hcc (L - 1) (by omega)
  have hi0 := hin (L - 1) (by omega)
  have S0 : FrS w op false cs (L - 1) (cAt cs (L - 1)).1 (cAt cs (L - 1)).2.1 (.slice (ab (L - 1)) (cAt cs (L - 1)).2.2.length (cb (L - 1))) ((w.alloc (.cells #[.int .i64 0, .int .i64 0, .slice none 0 0] 43)).alloc (.cells #[.int .i64 (cAt cs (L - 1)).1, .int .i64 (cAt cs (L - 1)).2.1, .slice (ab (L - 1)) (cAt cs (L - 1)).2.2.length (cb (L - 1))] 43)) := by
    have hlast := frL_last op false cs (by omega)
    rw [hL] at hlast
    have hz := Zc.new (w.alloc (.cells #[.int .i64 0, .int .i64 0, .slice none 0 0] 43)) (.int .i64 (cAt cs (L - 1)).1) (.int .i64 (cAt cs (L - 1)).2.1) (.slice (ab (L - 1)) (cAt cs (L - 1)).2.2.length (cb (L - 1)))
    have es : (w.alloc (.cells #[.int .i64 0, .int .i64 0, .slice none 0 0] 43)).heap.size = w.heap.size + 1 := by simp
    rw [es] at hz
    exact ⟨two_allocs _ _ _, by omega, by rw [hlast], by rw [hlast], by rw [hlast], hi0, fun h => absurd h (by omega), hz, (Zc.new w _ _ _).next (one_alloc _ _)⟩
  have HS0 := hide S0
  rw [hL] at HN hl h2 ⊢
  have hLz : (L : Int) - 1 < (L : Int) := by omega
  have hLn : ((L : Int) - 1).toNat = L - 1 := by omega
  clear hcf hc hcc hin T S0 hR hi0
  generalize (cAt cs (L - 1)).2.2.length = nk at *
  generalize (cAt cs (L - 1)).2.1 = z1 at *
  generalize (cAt cs (L - 1)).1 = z0 at *
  go_enter Tryd.func65, Tryd.ntmps65
  go_wp2
  go_loopg [8] (L - 1) (fun g iv wq => ∃ j : Nat, ∃ k1 n1 : Int, ∃ a0 : Option Addr, ∃ m0 c0 : Nat, g = j ∧ iv = .int .i64 ((j : Int) - 1) ∧ FrS w op false cs j k1 n1 (.slice a0 m0 c0) wq)
  case atStart => exact ⟨L - 1, _, _, _, _, _, rfl, by go_num, HS0.out⟩
  case round =>
    obtain ⟨j, k1, n1, a0, m0, c0, hgj, rfl, S⟩ := hrel
    clear HS0 e0 e1 e2 hLz hLn
    have hjl := S.le
    rw [hL] at hjl
    have hsz := S.bel.size
    have HS := hide S
    have q0 := S.out.c0
    have q1 := S.out.c1
    have q2 := S.out.c2
    have g0 := S.out.f0
    have g1 := S.out.f1
    have g2 := S.out.f2
    have r0 := S.res.c0
    have r1 := S.res.c1
    have r2 := S.res.c2
    have s0 := S.res.f0
    have s1 := S.res.f1
    have s2 := S.res.f2
    have hbo := S.out.lt
    clear S
    rcases Nat.eq_zero_or_pos j with h0 | h0
    · subst h0
      obtain ⟨rfl, hu2⟩ := HS.out.num (by rw [hL]; omega)
      cases hu2
      have HFF : Hid (frL op false cs = ((0, n1, []), 0)) := by
        have h1 := HS.out.v1
        have h2' := HS.out.e0
        rw [List.drop_zero] at h1 h2'
        have h3 := HN.out h2
        rw [h1] at h3
        exact Prod.ext h3 h2'
      clear hgj hL HCC HIN HT HN HR
      go_wp2
      exact bodyPost_ret (v := .tuple #[.agg #[.int .i64 0, .int .i64 n1, .slice none 0 0], .int .i64 0]) (by simp [results, Tryd.results65, go_sem, ((HS.out.res).set (.int .i64 0) (.int .i64 n1) (.slice none 0 0)).c0, ((HS.out.res).set (.int .i64 0) (.int .i64 n1) (.slice none 0 0)).c1, ((HS.out.res).set (.int .i64 0) (.int .i64 n1) (.slice none 0 0)).c2]) rfl ⟨by rw [HFF.out], below_set3 HS.out.bel (Nat.le_refl _)⟩
    · obtain ⟨i, rfl⟩ : ∃ i, j = i + 1 := ⟨j - 1, by omega⟩
      rw [show ((i + 1 : Nat) : Int) - 1 = (i : Int) by omega]
      obtain ⟨d0, d1, d2, -⟩ := HCC.out i (by omega)
      have hi64 := HIN.out i (by omega)
      have x0 : wr.cell? ⟨b, off + i * 3, none⟩ = some (.int .i64 (cAt cs i).1) := (HS.out.bel.cell (p := ⟨b, off + i * 3, none⟩) hbl).trans d0
      have x1 : wr.cell? ⟨b, off + i * 3 + 1, none⟩ = some (.int .i64 (cAt cs i).2.1) := (HS.out.bel.cell (p := ⟨b, off + i * 3 + 1, none⟩) hbl).trans d1
      have x2 : wr.cell? ⟨b, off + i * 3 + 2, none⟩ = some (.slice (ab i) (cAt cs i).2.2.length (cb i)) := (HS.out.bel.cell (p := ⟨b, off + i * 3 + 2, none⟩) hbl).trans d2
      have hstep := frL_step op false cs i (by omega) HS.out.e0
      obtain ⟨V, hV⟩ : ∃ V, tV op false (cAt cs i) (frL op false (cs.drop (i + 1))).1 = V := ⟨_, rfl⟩
      obtain ⟨EE, hE⟩ : ∃ EE, tE op false (cAt cs i) (frL op false (cs.drop (i + 1))).1 = EE := ⟨_, rfl⟩
      rw [hV, hE] at hstep
      have hVin : In64 V := by rw [← hV]; exact tV_in64 hi64 (by rw [HS.out.v1]; exact HS.out.in64)
      have CC : Hid (∀ W, Below wr.heap.size wr W → Calls Tryd.prog 74 #[.agg #[.int .i64 op, .bool false], .agg #[.int .i64 (cAt cs i).1, .int .i64 (cAt cs i).2.1, .slice (ab i) (cAt cs i).2.2.length (cb i)], .agg #[.int .i64 k1, .int .i64 n1, .slice a0 m0 c0]] W fun e w' => e = .returned (.tuple #[.agg #[.int .i64 0, .int .i64 V, .slice none 0 0], .int .i64 EE]) ∧ Below wr.heap.size wr w' ∧ Below W.heap.size W w') := fun W hW => by
        refine (two74 op false _ _ _ _ _ _ _ _ _ _ (cAt cs i) (frL op false (cs.drop (i + 1))).1 ⟨rfl, rfl⟩ ⟨HS.out.v0, HS.out.v1⟩ hi64 HS.out.in64 W (HT.out W (HS.out.bel.trans (hW.mono HS.out.bel.size)))).mono ?_
        rintro e w' ⟨rfl, hb'⟩
        refine ⟨?_, hW.trans (hb'.mono hW.size), hb'⟩
        rw [← hV, ← hE]
        rfl
      have hbad : EE ≠ 0 → V = 0 := fun h => by rw [← hV]; exact tV_bad (by rw [hE]; exact h)
      have HFI := hide (And.intro hstep (And.intro hVin hbad))
      clear hstep hVin hbad hV hE hi64 d0 d1 d2
      generalize (cAt cs i).2.2.length = nn at *
      generalize (cAt cs i).2.1 = y1 at *
      generalize (cAt cs i).1 = y0 at *
      have KS : Hid (∀ W, Below wr.heap.size wr W → (Below wr.heap.size wr W ∧ W.cell? ⟨b, off + i * 3, none⟩ = some (.int .i64 y0) ∧ W.cell? ⟨b, off + i * 3 + 1, none⟩ = some (.int .i64 y1) ∧ W.cell? ⟨b, off + i * 3 + 2, none⟩ = some (.slice (ab i) nn (cb i)) ∧ W.cell? ⟨w.heap.size + 1, 0, none⟩ = some (.int .i64 k1) ∧ W.cell? ⟨w.heap.size + 1, 1, none⟩ = some (.int .i64 n1) ∧ W.cell? ⟨w.heap.size + 1, 2, none⟩ = some (.slice a0 m0 c0))) := fun W h =>
        ⟨h, (h.cell (p := ⟨b, off + i * 3, none⟩) (by show b < _; omega)).trans x0, (h.cell (p := ⟨b, off + i * 3 + 1, none⟩) (by show b < _; omega)).trans x1, (h.cell (p := ⟨b, off + i * 3 + 2, none⟩) (by show b < _; omega)).trans x2, (h.cell (p := ⟨w.heap.size + 1, 0, none⟩) hbo).trans q0, (h.cell (p := ⟨w.heap.size + 1, 1, none⟩) hbo).trans q1, (h.cell (p := ⟨w.heap.size + 1, 2, none⟩) hbo).trans q2⟩
      have HD0 : Hid (Below wr.heap.size wr wr.drew) := (Below.refl _ _).drew
      have HD1 : Hid (Below wr.heap.size wr (wr.alloc (.cells #[.int .i64 0, .int .i64 0, .slice none 0 0] 43)).drew) := (one_alloc _ _).drew
      have HD2 : Hid (Below wr.heap.size wr (wr.drew.alloc (.cells #[.int .i64 0, .int .i64 0, .slice none 0 0] 43))) := (Below.refl _ _).drew.alloc (Nat.le_refl _) _
      have HAL : Hid (∀ W o, Below wr.heap.size wr W → Below wr.heap.size wr (W.alloc o)) := fun W o h => h.alloc h.size o
      have HSET : Hid (∀ W b u0 u1 u2, Below wr.heap.size wr W → wr.heap.size ≤ b → Below wr.heap.size wr (((W.setCell ⟨b, 0, none⟩ u0).setCell ⟨b, 1, none⟩ u1).setCell ⟨b, 2, none⟩ u2)) := fun W b u0 u1 u2 h hb => below_set3 h hb
      have HLE : Hid (wr.heap.size ≤ wr.heap.size) := Nat.le_refl _
      have hiz : (i : Int) < (L : Int) := by omega
      clear x0 x1 x2 q0 q1 q2 g0 g1 g2 r0 r1 r2 s0 s1 s2 HCC HIN HT HN
      go_upto_region 6 with fail
      go_region_held3 (fun W => Below wr.heap.size wr W ∧ W.cell? ⟨b, off + i * 3, none⟩ = some (.int .i64 y0) ∧ W.cell? ⟨b, off + i * 3 + 1, none⟩ = some (.int .i64 y1) ∧ W.cell? ⟨b, off + i * 3 + 2, none⟩ = some (.slice (ab i) nn (cb i)) ∧ W.cell? ⟨w.heap.size + 1, 0, none⟩ = some (.int .i64 k1) ∧ W.cell? ⟨w.heap.size + 1, 1, none⟩ = some (.int .i64 n1) ∧ W.cell? ⟨w.heap.size + 1, 2, none⟩ = some (.slice a0 m0 c0))
        (first | with_reducible exact KS.out _ HD0.out | with_reducible exact KS.out _ HD1.out | with_reducible exact KS.out _ HD2.out | with_reducible exact KS.out _ (by with_reducible assumption) | with_reducible exact KS.out _ (HAL.out _ _ (by with_reducible assumption)) | with_reducible exact KS.out _ (HSET.out _ _ _ _ _ (by with_reducible assumption) HLE.out) | with_reducible exact KS.out _ (HSET.out _ _ _ _ _ (HAL.out _ _ (by with_reducible assumption)) (Below.size (by with_reducible assumption))))
        (first | (go_at_call 74; first | ((with_reducible refine (CC.out _ HD0.out).mono ?_); rintro e w5 ⟨rfl, g5, hb5⟩; obtain ⟨-, n0, n1', n2, n3, n4, n5⟩ := Zc.new w5 (.int .i64 0) (.int .i64 0) (.slice none 0 0)) | ((with_reducible refine (CC.out _ HD1.out).mono ?_); rintro e w5 ⟨rfl, g5, hb5⟩; obtain ⟨-, n0, n1', n2, n3, n4, n5⟩ := (Zc.new wr (.int .i64 0) (.int .i64 0) (.slice none 0 0)).drew.next hb5) | ((with_reducible refine (CC.out _ HD2.out).mono ?_); rintro e w5 ⟨rfl, g5, hb5⟩; obtain ⟨-, n0, n1', n2, n3, n4, n5⟩ := (show Zc (wr.drew.alloc (.cells #[.int .i64 0, .int .i64 0, .slice none 0 0] 43)) wr.heap.size (.int .i64 0) (.int .i64 0) (.slice none 0 0) from Zc.new wr _ _ _).next hb5)))
      all_goals
        first
          | (have ZN := Zc.new w5 (.int .i64 0) (.int .i64 V) (.slice none 0 0)
             obtain ⟨w6, hw6⟩ : ∃ w6, w5.alloc (.cells #[.int .i64 0, .int .i64 V, .slice none 0 0] 43) = w6 := ⟨_, rfl⟩
             have B6 : Below wr.heap.size wr w6 := by rw [← hw6]; exact g5.alloc g5.size _
             have hN := g5.size
             rw [hw6] at ZN ⊢
             clear hw6)
          | (have ZN := Zc.set ⟨by have := g5.size; have := hb5.size; simp at this; omega, n0, n1', n2, n3, n4, n5⟩ (.int .i64 0) (.int .i64 V) (.slice none 0 0)
             obtain ⟨w6, hw6⟩ : ∃ w6, ((w5.setCell ⟨wr.heap.size, 0, none⟩ (.int .i64 0)).setCell ⟨wr.heap.size, 1, none⟩ (.int .i64 V)).setCell ⟨wr.heap.size, 2, none⟩ (.slice none 0 0) = w6 := ⟨_, rfl⟩
             have B6 : Below wr.heap.size wr w6 := by rw [← hw6]; exact below_set3 g5 (Nat.le_refl _)
             have hN := Nat.le_refl wr.heap.size
             rw [hw6] at ZN ⊢
             clear hw6)
        clear g5 hb5 n0 n1' n2 n3 n4 n5 CC KS HD0 HD1 HD2 HAL HSET HLE
        have ZO := HS.out.out.next B6
        have ZR := HS.out.res.next B6
        have B6w := HS.out.bel.trans (B6.mono HS.out.bel.size)
        have c0' := ZN.c0
        have c1' := ZN.c1
        have c2' := ZN.c2
        have q0 := ZO.c0
        have q1 := ZO.c1
        have q2 := ZO.c2
        have g0 := ZO.f0
        have g1 := ZO.f1
        have g2 := ZO.f2
        have r0 := ZR.c0
        have r1 := ZR.c1
        have r2 := ZR.c2
        have s0 := ZR.f0
        have s1 := ZR.f1
        have s2 := ZR.f2
        have hlr := ZR.lt
        have HZ := hide (And.intro ZO (And.intro ZR (And.intro B6 B6w)))
        clear ZN ZO ZR B6 B6w
        by_cases hE0 : EE = 0
        · subst hE0
          go_wp2
          go_roundg i
          case rel => exact ⟨i, 0, V, none, 0, 0, rfl, by go_num, below_set3 HZ.out.2.2.2 (by omega), by omega, by rw [HFI.out.1], by rw [HFI.out.1], by rw [HFI.out.1], HFI.out.2.1, fun _ => ⟨rfl, rfl⟩, HZ.out.1.set _ _ _, HZ.out.2.1.other (by omega) _ _ _⟩
          case measure => omega
        · have gE : (EE == 0) = false := beq_eq_false_iff_ne.2 hE0
          obtain rfl := HFI.out.2.2 hE0
          go_wp2
          have ZF := (HZ.out.2.1.set (.int .i64 0) (.int .i64 0) (.slice none 0 0)).next (one_alloc _ (.cells #[.int .i64 0, .int .i64 0, .slice none 0 0] 43))
          have hst : frL op false cs = ((0, 0, []), EE) := by rw [frL_stop op false cs i (by omega) (by rw [HFI.out.1]; exact hE0), HFI.out.1]
          have hbf := below_set3 (v0 := .int .i64 0) (v1 := .int .i64 0) (v2 := .slice none 0 0) HZ.out.2.2.2 (Nat.le_refl _)
          exact bodyPost_ret (v := .tuple #[.agg #[.int .i64 0, .int .i64 0, .slice none 0 0], .int .i64 EE]) (by simp [results, Tryd.results65, go_sem, ZF.c0, ZF.c1, ZF.c2]) rfl ⟨by rw [hst], hbf.trans ((one_alloc _ _).mono hbf.size)⟩
set_option maxHeartbeats 8000000 in
theorem fromR73 {n lo : Nat} {cs : List Ce} {a : Option Addr} {cap : Nat} {op : Int} {w : World} (hc : CellsIn n lo w cs a) (hl : cs.length ≤ 16384) (h2 : 2 ≤ cs.length) (hin : ∀ i, i < cs.length → In64 (cAt cs i).2.1) (T : Tab w) :
    Calls Tryd.prog 65 #[.slice a cs.length cap, .func (.func 73) #[.agg #[.int .i64 op, .bool true]] #[]] w fun e w' => e = .returned (.tuple #[.agg #[.int .i64 0, .int .i64 (frL op true cs).1.2.1, .slice none 0 0], .int .i64 (frL op true cs).2]) ∧ Below w.heap.size w w' := by
  obtain ⟨ab, cb, hcf⟩ := cells_fn hc
  obtain ⟨b, off, rfl, -, hbl, hcc⟩ := hcf (by omega)
  obtain ⟨L, hL⟩ : ∃ L, cs.length = L := ⟨_, rfl⟩
  have HN := hide (fun h => frL_num op true cs h)
  obtain ⟨R, hR⟩ : ∃ R, frL op true cs = R := ⟨_, rfl⟩
  have HR := hide hR
  have HT := hide (fun (W : World) (hb : Below w.heap.size w W) => T.next hb)
  have HIN := hide hin
  have HCC := hide hcc
  obtain ⟨e0, e1, e2, -⟩ := hcc (L - 1) (by omega)
  have hi0 := hin (L - 1) (by omega)
  have S0 : FrS w op true cs (L - 1) (cAt cs (L - 1)).1 (cAt cs (L - 1)).2.1 (.slice (ab (L - 1)) (cAt cs (L - 1)).2.2.length (cb (L - 1))) ((w.alloc (.cells #[.int .i64 0, .int .i64 0, .slice none 0 0] 43)).alloc (.cells #[.int .i64 (cAt cs (L - 1)).1, .int .i64 (cAt cs (L - 1)).2.1, .slice (ab (L - 1)) (cAt cs (L - 1)).2.2.length (cb (L - 1))] 43)) := by
    have hlast := frL_last op true cs (by omega)
    rw [hL] at hlast
    have hz := Zc.new (w.alloc (.cells #[.int .i64 0, .int .i64 0, .slice none 0 0] 43)) (.int .i64 (cAt cs (L - 1)).1) (.int .i64 (cAt cs (L - 1)).2.1) (.slice (ab (L - 1)) (cAt cs (L - 1)).2.2.length (cb (L - 1)))
    have es : (w.alloc (.cells #[.int .i64 0, .int .i64 0, .slice none 0 0] 43)).heap.size = w.heap.size + 1 := by simp
    rw [es] at hz
    exact ⟨two_allocs _ _ _, by omega, by rw [hlast], by rw [hlast], by rw [hlast], hi0, fun h => absurd h (by omega), hz, (Zc.new w _ _ _).next (one_alloc _ _)⟩
  have HS0 := hide S0
  rw [hL] at HN hl h2 ⊢
  have hLz : (L : Int) - 1 < (L : Int) := by omega
  have hLn : ((L : Int) - 1).toNat = L - 1 := by omega
  clear hcf hc hcc hin T S0 hR hi0
  generalize (cAt cs (L - 1)).2.2.length = nk at *
  generalize (cAt cs (L - 1)).2.1 = z1 at *
  generalize (cAt cs (L - 1)).1 = z0 at *
  go_enter Tryd.func65, Tryd.ntmps65
  go_wp2
  go_loopg [8] (L - 1) (fun g iv wq => ∃ j : Nat, ∃ k1 n1 : Int, ∃ a0 : Option Addr, ∃ m0 c0 : Nat, g = j ∧ iv = .int .i64 ((j : Int) - 1) ∧ FrS w op true cs j k1 n1 (.slice a0 m0 c0) wq)
  case atStart => exact ⟨L - 1, _, _, _, _, _, rfl, by go_num, HS0.out⟩
  case round =>
    obtain ⟨j, k1, n1, a0, m0, c0, hgj, rfl, S⟩ := hrel
    clear HS0 e0 e1 e2 hLz hLn
    have hjl := S.le
    rw [hL] at hjl
    have hsz := S.bel.size
    have HS := hide S
    have q0 := S.out.c0
    have q1 := S.out.c1
    have q2 := S.out.c2
    have g0 := S.out.f0
    have g1 := S.out.f1
    have g2 := S.out.f2
    have r0 := S.res.c0
    have r1 := S.res.c1
    have r2 := S.res.c2
    have s0 := S.res.f0
    have s1 := S.res.f1
    have s2 := S.res.f2
    have hbo := S.out.lt
    clear S
    rcases Nat.eq_zero_or_pos j with h0 | h0
    · subst h0
      obtain ⟨rfl, hu2⟩ := HS.out.num (by rw [hL]; omega)
      cases hu2
      have HFF : Hid (frL op true cs = ((0, n1, []), 0)) := by
        have h1 := HS.out.v1
        have h2' := HS.out.e0
        rw [List.drop_zero] at h1 h2'
        have h3 := HN.out h2
        rw [h1] at h3
        exact Prod.ext h3 h2'
      clear hgj hL HCC HIN HT HN HR
      go_wp2
      exact bodyPost_ret (v := .tuple #[.agg #[.int .i64 0, .int .i64 n1, .slice none 0 0], .int .i64 0]) (by simp [results, Tryd.results65, go_sem, ((HS.out.res).set (.int .i64 0) (.int .i64 n1) (.slice none 0 0)).c0, ((HS.out.res).set (.int .i64 0) (.int .i64 n1) (.slice none 0 0)).c1, ((HS.out.res).set (.int .i64 0) (.int .i64 n1) (.slice none 0 0)).c2]) rfl ⟨by rw [HFF.out], below_set3 HS.out.bel (Nat.le_refl _)⟩
    · obtain ⟨i, rfl⟩ : ∃ i, j = i + 1 := ⟨j - 1, by omega⟩
      rw [show ((i + 1 : Nat) : Int) - 1 = (i : Int) by omega]
      obtain ⟨d0, d1, d2, -⟩ := HCC.out i (by omega)
      have hi64 := HIN.out i (by omega)
      have x0 : wr.cell? ⟨b, off + i * 3, none⟩ = some (.int .i64 (cAt cs i).1) := (HS.out.bel.cell (p := ⟨b, off + i * 3, none⟩) hbl).trans d0
      have x1 : wr.cell? ⟨b, off + i * 3 + 1, none⟩ = some (.int .i64 (cAt cs i).2.1) := (HS.out.bel.cell (p := ⟨b, off + i * 3 + 1, none⟩) hbl).trans d1
      have x2 : wr.cell? ⟨b, off + i * 3 + 2, none⟩ = some (.slice (ab i) (cAt cs i).2.2.length (cb i)) := (HS.out.bel.cell (p := ⟨b, off + i * 3 + 2, none⟩) hbl).trans d2
      have hstep := frL_step op true cs i (by omega) HS.out.e0
      obtain ⟨V, hV⟩ : ∃ V, tV op true (cAt cs i) (frL op true (cs.drop (i + 1))).1 = V := ⟨_, rfl⟩
      obtain ⟨EE, hE⟩ : ∃ EE, tE op true (cAt cs i) (frL op true (cs.drop (i + 1))).1 = EE := ⟨_, rfl⟩
      rw [hV, hE] at hstep
      have hVin : In64 V := by rw [← hV]; exact tV_in64 hi64 (by rw [HS.out.v1]; exact HS.out.in64)
      have CC : Hid (∀ W, Below wr.heap.size wr W → Calls Tryd.prog 73 #[.agg #[.int .i64 op, .bool true], .agg #[.int .i64 (cAt cs i).1, .int .i64 (cAt cs i).2.1, .slice (ab i) (cAt cs i).2.2.length (cb i)], .agg #[.int .i64 k1, .int .i64 n1, .slice a0 m0 c0]] W fun e w' => e = .returned (.tuple #[.agg #[.int .i64 0, .int .i64 V, .slice none 0 0], .int .i64 EE]) ∧ Below wr.heap.size wr w' ∧ Below W.heap.size W w') := fun W hW => by
        refine (two73 op true _ _ _ _ _ _ _ _ _ _ (cAt cs i) (frL op true (cs.drop (i + 1))).1 ⟨rfl, rfl⟩ ⟨HS.out.v0, HS.out.v1⟩ hi64 HS.out.in64 W (HT.out W (HS.out.bel.trans (hW.mono HS.out.bel.size)))).mono ?_
        rintro e w' ⟨rfl, hb'⟩
        refine ⟨?_, hW.trans (hb'.mono hW.size), hb'⟩
        rw [← hV, ← hE]
        rfl
      have hbad : EE ≠ 0 → V = 0 := fun h => by rw [← hV]; exact tV_bad (by rw [hE]; exact h)
      have HFI := hide (And.intro hstep (And.intro hVin hbad))
      clear hstep hVin hbad hV hE hi64 d0 d1 d2
      generalize (cAt cs i).2.2.length = nn at *
      generalize (cAt cs i).2.1 = y1 at *
      generalize (cAt cs i).1 = y0 at *
      have KS : Hid (∀ W, Below wr.heap.size wr W → (Below wr.heap.size wr W ∧ W.cell? ⟨b, off + i * 3, none⟩ = some (.int .i64 y0) ∧ W.cell? ⟨b, off + i * 3 + 1, none⟩ = some (.int .i64 y1) ∧ W.cell? ⟨b, off + i * 3 + 2, none⟩ = some (.slice (ab i) nn (cb i)) ∧ W.cell? ⟨w.heap.size + 1, 0, none⟩ = some (.int .i64 k1) ∧ W.cell? ⟨w.heap.size + 1, 1, none⟩ = some (.int .i64 n1) ∧ W.cell? ⟨w.heap.size + 1, 2, none⟩ = some (.slice a0 m0 c0))) := fun W h =>
        ⟨h, (h.cell (p := ⟨b, off + i * 3, none⟩) (by show b < _; omega)).trans x0, (h.cell (p := ⟨b, off + i * 3 + 1, none⟩) (by show b < _; omega)).trans x1, (h.cell (p := ⟨b, off + i * 3 + 2, none⟩) (by show b < _; omega)).trans x2, (h.cell (p := ⟨w.heap.size + 1, 0, none⟩) hbo).trans q0, (h.cell (p := ⟨w.heap.size + 1, 1, none⟩) hbo).trans q1, (h.cell (p := ⟨w.heap.size + 1, 2, none⟩) hbo).trans q2⟩
      have HD0 : Hid (Below wr.heap.size wr wr.drew) := (Below.refl _ _).drew
      have HD1 : Hid (Below wr.heap.size wr (wr.alloc (.cells #[.int .i64 0, .int .i64 0, .slice none 0 0] 43)).drew) := (one_alloc _ _).drew
      have HD2 : Hid (Below wr.heap.size wr (wr.drew.alloc (.cells #[.int .i64 0, .int .i64 0, .slice none 0 0] 43))) := (Below.refl _ _).drew.alloc (Nat.le_refl _) _
      have HAL : Hid (∀ W o, Below wr.heap.size wr W → Below wr.heap.size wr (W.alloc o)) := fun W o h => h.alloc h.size o
      have HSET : Hid (∀ W b u0 u1 u2, Below wr.heap.size wr W → wr.heap.size ≤ b → Below wr.heap.size wr (((W.setCell ⟨b, 0, none⟩ u0).setCell ⟨b, 1, none⟩ u1).setCell ⟨b, 2, none⟩ u2)) := fun W b u0 u1 u2 h hb => below_set3 h hb
      have HLE : Hid (wr.heap.size ≤ wr.heap.size) := Nat.le_refl _
      have hiz : (i : Int) < (L : Int) := by omega
      clear x0 x1 x2 q0 q1 q2 g0 g1 g2 r0 r1 r2 s0 s1 s2 HCC HIN HT HN
      go_upto_region 6 with fail
      go_region_held3 (fun W => Below wr.heap.size wr W ∧ W.cell? ⟨b, off + i * 3, none⟩ = some (.int .i64 y0) ∧ W.cell? ⟨b, off + i * 3 + 1, none⟩ = some (.int .i64 y1) ∧ W.cell? ⟨b, off + i * 3 + 2, none⟩ = some (.slice (ab i) nn (cb i)) ∧ W.cell? ⟨w.heap.size + 1, 0, none⟩ = some (.int .i64 k1) ∧ W.cell? ⟨w.heap.size + 1, 1, none⟩ = some (.int .i64 n1) ∧ W.cell? ⟨w.heap.size + 1, 2, none⟩ = some (.slice a0 m0 c0))
        (first | with_reducible exact KS.out _ HD0.out | with_reducible exact KS.out _ HD1.out | with_reducible exact KS.out _ HD2.out | with_reducible exact KS.out _ (by with_reducible assumption) | with_reducible exact KS.out _ (HAL.out _ _ (by with_reducible assumption)) | with_reducible exact KS.out _ (HSET.out _ _ _ _ _ (by with_reducible assumption) HLE.out) | with_reducible exact KS.out _ (HSET.out _ _ _ _ _ (HAL.out _ _ (by with_reducible assumption)) (Below.size (by with_reducible assumption))))
        (first | (go_at_call 73; first | ((with_reducible refine (CC.out _ HD0.out).mono ?_); rintro e w5 ⟨rfl, g5, hb5⟩; obtain ⟨-, n0, n1', n2, n3, n4, n5⟩ := Zc.new w5 (.int .i64 0) (.int .i64 0) (.slice none 0 0)) | ((with_reducible refine (CC.out _ HD1.out).mono ?_); rintro e w5 ⟨rfl, g5, hb5⟩; obtain ⟨-, n0, n1', n2, n3, n4, n5⟩ := (Zc.new wr (.int .i64 0) (.int .i64 0) (.slice none 0 0)).drew.next hb5) | ((with_reducible refine (CC.out _ HD2.out).mono ?_); rintro e w5 ⟨rfl, g5, hb5⟩; obtain ⟨-, n0, n1', n2, n3, n4, n5⟩ := (show Zc (wr.drew.alloc (.cells #[.int .i64 0, .int .i64 0, .slice none 0 0] 43)) wr.heap.size (.int .i64 0) (.int .i64 0) (.slice none 0 0) from Zc.new wr _ _ _).next hb5)))
      all_goals
        first
          | (have ZN := Zc.new w5 (.int .i64 0) (.int .i64 V) (.slice none 0 0)
             obtain ⟨w6, hw6⟩ : ∃ w6, w5.alloc (.cells #[.int .i64 0, .int .i64 V, .slice none 0 0] 43) = w6 := ⟨_, rfl⟩
             have B6 : Below wr.heap.size wr w6 := by rw [← hw6]; exact g5.alloc g5.size _
             have hN := g5.size
             rw [hw6] at ZN ⊢
             clear hw6)
          | (have ZN := Zc.set ⟨by have := g5.size; have := hb5.size; simp at this; omega, n0, n1', n2, n3, n4, n5⟩ (.int .i64 0) (.int .i64 V) (.slice none 0 0)
             obtain ⟨w6, hw6⟩ : ∃ w6, ((w5.setCell ⟨wr.heap.size, 0, none⟩ (.int .i64 0)).setCell ⟨wr.heap.size, 1, none⟩ (.int .i64 V)).setCell ⟨wr.heap.size, 2, none⟩ (.slice none 0 0) = w6 := ⟨_, rfl⟩
             have B6 : Below wr.heap.size wr w6 := by rw [← hw6]; exact below_set3 g5 (Nat.le_refl _)
             have hN := Nat.le_refl wr.heap.size
             rw [hw6] at ZN ⊢
             clear hw6)
        clear g5 hb5 n0 n1' n2 n3 n4 n5 CC KS HD0 HD1 HD2 HAL HSET HLE
        have ZO := HS.out.out.next B6
        have ZR := HS.out.res.next B6
        have B6w := HS.out.bel.trans (B6.mono HS.out.bel.size)
        have c0' := ZN.c0
        have c1' := ZN.c1
        have c2' := ZN.c2
        have q0 := ZO.c0
        have q1 := ZO.c1
        have q2 := ZO.c2
        have g0 := ZO.f0
        have g1 := ZO.f1
        have g2 := ZO.f2
        have r0 := ZR.c0
        have r1 := ZR.c1
        have r2 := ZR.c2
        have s0 := ZR.f0
        have s1 := ZR.f1
        have s2 := ZR.f2
        have hlr := ZR.lt
        have HZ := hide (And.intro ZO (And.intro ZR (And.intro B6 B6w)))
        clear ZN ZO ZR B6 B6w
        by_cases hE0 : EE = 0
        · subst hE0
          go_wp2
          go_roundg i
          case rel => exact ⟨i, 0, V, none, 0, 0, rfl, by go_num, below_set3 HZ.out.2.2.2 (by omega), by omega, by rw [HFI.out.1], by rw [HFI.out.1], by rw [HFI.out.1], HFI.out.2.1, fun _ => ⟨rfl, rfl⟩, HZ.out.1.set _ _ _, HZ.out.2.1.other (by omega) _ _ _⟩
          case measure => omega
        · have gE : (EE == 0) = false := beq_eq_false_iff_ne.2 hE0
          obtain rfl := HFI.out.2.2 hE0
          go_wp2
          have ZF := (HZ.out.2.1.set (.int .i64 0) (.int .i64 0) (.slice none 0 0)).next (one_alloc _ (.cells #[.int .i64 0, .int .i64 0, .slice none 0 0] 43))
          have hst : frL op true cs = ((0, 0, []), EE) := by rw [frL_stop op true cs i (by omega) (by rw [HFI.out.1]; exact hE0), HFI.out.1]
          have hbf := below_set3 (v0 := .int .i64 0) (v1 := .int .i64 0) (v2 := .slice none 0 0) HZ.out.2.2.2 (Nat.le_refl _)
          exact bodyPost_ret (v := .tuple #[.agg #[.int .i64 0, .int .i64 0, .slice none 0 0], .int .i64 EE]) (by simp [results, Tryd.results65, go_sem, ZF.c0, ZF.c1, ZF.c2]) rfl ⟨by rw [hst], hbf.trans ((one_alloc _ _).mono hbf.size)⟩
end Go.Proofs.YtlfacpclihmnnaaDoor
namespace Go.Proofs.YtlfacpclihmnnaaDoor
open Go.ChangeShapes Go.WideShapes Go.ChangeAt Go.RowKit
open Num (resV resE In64 sgnI absI)
set_option linter.unusedVariables false
set_option linter.unusedSimpArgs false
set_option maxRecDepth 100000
theorem Row.num {lo : Nat} {w : World} {a : Option Addr} {zs : List Int} (h : Row lo w a zs) (hin : ∀ z ∈ zs, In64 z) : Num.Row w a zs := by
  obtain ⟨h1, h2⟩ := h
  refine ⟨hin, h1, ?_⟩
  rcases h2 with h2 | ⟨b, off, ha, -, hb, hc⟩
  · exact Or.inl h2
  · exact Or.inr ⟨b, off, ha, hb, fun k hk => by rw [hc k hk]; simp⟩
theorem preL_in {cs : List Ce} (h : ∀ i, i < cs.length → In64 (cAt cs i).2.1) : ∀ z ∈ preL cs, In64 z := by
  intro z hz
  unfold preL numK at hz
  obtain ⟨i, hi, rfl⟩ := List.mem_map.1 hz
  have := List.mem_range.1 hi
  exact h i (by have := preN_le cs; omega)
theorem preL_len (cs : List Ce) : (preL cs).length = preN cs := numK_len _ _
/-- A function X of all numbers of a line together. -/
def onceR (X : List Int → Int) (cs : List Ce) : Ce × Int := if preN cs < cs.length then ((0, 0, []), 5) else ((0, resV (X (preL cs)), []), resE (X (preL cs)))
/-- What a line comes to (8.1). -/
def rowR (op : Int) (t : Bool) (cs : List Ce) : Ce × Int :=
  if cs.length = 0 then ((0, nonV op, []), nonE op) else if cs.length = 1 then (cAt cs 0, 0) else if op = 21 then onceR List.sum cs else if op = 23 then onceR Num.prodL cs else frL op t cs
theorem ce_num (P : Ar → Value → Prop) (lo : Nat) (w : World) (v : Int) : CeIn P lo w (0, v, []) (.int .i64 0) (.int .i64 v) (.slice none 0 0) := ⟨rfl, rfl, none, 0, rfl, by simp, Or.inl rfl⟩
set_option maxHeartbeats 4000000 in
theorem once63 {n lo : Nat} {cs : List Ce} {a : Option Addr} {cap : Nat} {w : World} (hc : CellsIn n lo w cs a) (hl : cs.length ≤ 16384) (hin : ∀ i, i < cs.length → In64 (cAt cs i).2.1) :
    Calls Tryd.prog 62 #[.slice a cs.length cap, .func (.func 63) #[] #[]] w fun e w' => e = .returned (.tuple #[.agg #[.int .i64 0, .int .i64 (onceR List.sum cs).1.2.1, .slice none 0 0], .int .i64 (onceR List.sum cs).2]) ∧ Below w.heap.size w w' := by
  have CN := numbers78 (cap := cap) (CellsIn.mono hc (Nat.le_refl _) (one_alloc w (.cells #[.int .i64 0, .int .i64 0, .slice none 0 0] 43))) hl
  have HIN := hide (preL_in hin)
  have hpl := preN_le cs
  have HRR : Hid (onceR List.sum cs = if preN cs < cs.length then ((0, 0, []), 5) else ((0, resV (List.sum (preL cs)), []), resE (List.sum (preL cs)))) := rfl
  have HLN := hide (preL_len cs)
  obtain ⟨Z, hZ⟩ : ∃ Z, preL cs = Z := ⟨_, rfl⟩
  rw [hZ] at CN HIN HRR HLN
  generalize preN cs = p at *
  generalize cs.length = L at *
  generalize onceR List.sum cs = R at *
  clear hc hin hZ
  go_enter Tryd.func62, Tryd.ntmps62
  go_wp2_with fail
  refine CN.mono ?_
  rintro e w1 ⟨a', cap', rfl, hb1, RR⟩
  have B1 := (one_alloc _ _).trans (hb1.mono (one_alloc _ _).size)
  have ZR := (Zc.new w (.int .i64 0) (.int .i64 0) (.slice none 0 0)).next hb1
  clear CN hb1
  have r0 := ZR.c0
  have r1 := ZR.c1
  have r2 := ZR.c2
  have s0 := ZR.f0
  have s1 := ZR.f1
  have s2 := ZR.f2
  have HB1 := hide (And.intro B1 ZR)
  have NR := RR.num HIN.out
  clear B1 ZR RR
  by_cases hp : p < L
  · have hR := HRR.out
    rw [if_pos hp] at hR
    have HR := hide hR
    clear hR NR
    have hpz : (p : Int) < (L : Int) := by omega
    go_wp2
    have ZF := HB1.out.2.set (.int .i64 0) (.int .i64 0) (.slice none 0 0)
    exact bodyPost_ret (v := .tuple #[.agg #[.int .i64 0, .int .i64 0, .slice none 0 0], .int .i64 5]) (by simp [results, Tryd.results62, go_sem, ZF.c0, ZF.c1, ZF.c2]) rfl ⟨by rw [HR.out], below_set3 HB1.out.1 (Nat.le_refl _)⟩
  · have hR := HRR.out
    rw [if_neg hp] at hR
    have HR := hide hR
    have CS := Num.sum_any Z a' cap' w1 NR
    rw [HLN.out] at CS
    have HBAD := hide (@res_bad (List.sum Z))
    generalize resV (List.sum Z) = V at *
    generalize resE (List.sum Z) = E at *
    have hpz : ¬ ((p : Int) < (L : Int)) := by omega
    clear hR NR
    go_wp2_with fail
    refine CS.mono ?_
    rintro e w2 ⟨rfl, hw2⟩
    subst hw2
    clear CS
    by_cases hE : E = 0
    · subst hE
      go_wp2_with fail
      refine (num77 V _).mono ?_
      rintro e w3 ⟨rfl, hb3⟩
      have B3 := HB1.out.1.trans (hb3.mono HB1.out.1.size)
      have ZR := HB1.out.2.next hb3
      clear hb3 r0 r1 r2 s0 s1 s2
      have r0 := ZR.c0
      have r1 := ZR.c1
      have r2 := ZR.c2
      have s0 := ZR.f0
      have s1 := ZR.f1
      have s2 := ZR.f2
      have HB3 := hide (And.intro B3 ZR)
      clear B3 ZR
      go_wp2
      have ZF := HB3.out.2.set (.int .i64 0) (.int .i64 V) (.slice none 0 0)
      exact bodyPost_ret (v := .tuple #[.agg #[.int .i64 0, .int .i64 V, .slice none 0 0], .int .i64 0]) (by simp [results, Tryd.results62, go_sem, ZF.c0, ZF.c1, ZF.c2]) rfl ⟨by rw [HR.out], below_set3 HB3.out.1 (Nat.le_refl _)⟩
    · obtain rfl := HBAD.out hE
      have gE : (E == 0) = false := beq_eq_false_iff_ne.2 hE
      go_wp2
      have ZF := HB1.out.2.set (.int .i64 0) (.int .i64 0) (.slice none 0 0)
      exact bodyPost_ret (v := .tuple #[.agg #[.int .i64 0, .int .i64 0, .slice none 0 0], .int .i64 E]) (by simp [results, Tryd.results62, go_sem, ZF.c0, ZF.c1, ZF.c2]) rfl ⟨by rw [HR.out], below_set3 HB1.out.1 (Nat.le_refl _)⟩
set_option maxHeartbeats 4000000 in
theorem once64 {n lo : Nat} {cs : List Ce} {a : Option Addr} {cap : Nat} {w : World} (hc : CellsIn n lo w cs a) (hl : cs.length ≤ 16384) (hin : ∀ i, i < cs.length → In64 (cAt cs i).2.1) :
    Calls Tryd.prog 62 #[.slice a cs.length cap, .func (.func 64) #[] #[]] w fun e w' => e = .returned (.tuple #[.agg #[.int .i64 0, .int .i64 (onceR Num.prodL cs).1.2.1, .slice none 0 0], .int .i64 (onceR Num.prodL cs).2]) ∧ Below w.heap.size w w' := by
  have CN := numbers78 (cap := cap) (CellsIn.mono hc (Nat.le_refl _) (one_alloc w (.cells #[.int .i64 0, .int .i64 0, .slice none 0 0] 43))) hl
  have HIN := hide (preL_in hin)
  have hpl := preN_le cs
  have HRR : Hid (onceR Num.prodL cs = if preN cs < cs.length then ((0, 0, []), 5) else ((0, resV (Num.prodL (preL cs)), []), resE (Num.prodL (preL cs)))) := rfl
  have HLN := hide (preL_len cs)
  obtain ⟨Z, hZ⟩ : ∃ Z, preL cs = Z := ⟨_, rfl⟩
  rw [hZ] at CN HIN HRR HLN
  generalize preN cs = p at *
  generalize cs.length = L at *
  generalize onceR Num.prodL cs = R at *
  clear hc hin hZ
  go_enter Tryd.func62, Tryd.ntmps62
  go_wp2_with fail
  refine CN.mono ?_
  rintro e w1 ⟨a', cap', rfl, hb1, RR⟩
  have B1 := (one_alloc _ _).trans (hb1.mono (one_alloc _ _).size)
  have ZR := (Zc.new w (.int .i64 0) (.int .i64 0) (.slice none 0 0)).next hb1
  clear CN hb1
  have r0 := ZR.c0
  have r1 := ZR.c1
  have r2 := ZR.c2
  have s0 := ZR.f0
  have s1 := ZR.f1
  have s2 := ZR.f2
  have HB1 := hide (And.intro B1 ZR)
  have NR := RR.num HIN.out
  clear B1 ZR RR
  by_cases hp : p < L
  · have hR := HRR.out
    rw [if_pos hp] at hR
    have HR := hide hR
    clear hR NR
    have hpz : (p : Int) < (L : Int) := by omega
    go_wp2
    have ZF := HB1.out.2.set (.int .i64 0) (.int .i64 0) (.slice none 0 0)
    exact bodyPost_ret (v := .tuple #[.agg #[.int .i64 0, .int .i64 0, .slice none 0 0], .int .i64 5]) (by simp [results, Tryd.results62, go_sem, ZF.c0, ZF.c1, ZF.c2]) rfl ⟨by rw [HR.out], below_set3 HB1.out.1 (Nat.le_refl _)⟩
  · have hR := HRR.out
    rw [if_neg hp] at hR
    have HR := hide hR
    have CS := Num.prod_any Z a' cap' w1 NR
    rw [HLN.out] at CS
    have HBAD := hide (@res_bad (Num.prodL Z))
    generalize resV (Num.prodL Z) = V at *
    generalize resE (Num.prodL Z) = E at *
    have hpz : ¬ ((p : Int) < (L : Int)) := by omega
    clear hR NR
    go_wp2_with fail
    refine CS.mono ?_
    rintro e w2 ⟨rfl, hw2⟩
    subst hw2
    clear CS
    by_cases hE : E = 0
    · subst hE
      go_wp2_with fail
      refine (num77 V _).mono ?_
      rintro e w3 ⟨rfl, hb3⟩
      have B3 := HB1.out.1.trans (hb3.mono HB1.out.1.size)
      have ZR := HB1.out.2.next hb3
      clear hb3 r0 r1 r2 s0 s1 s2
      have r0 := ZR.c0
      have r1 := ZR.c1
      have r2 := ZR.c2
      have s0 := ZR.f0
      have s1 := ZR.f1
      have s2 := ZR.f2
      have HB3 := hide (And.intro B3 ZR)
      clear B3 ZR
      go_wp2
      have ZF := HB3.out.2.set (.int .i64 0) (.int .i64 V) (.slice none 0 0)
      exact bodyPost_ret (v := .tuple #[.agg #[.int .i64 0, .int .i64 V, .slice none 0 0], .int .i64 0]) (by simp [results, Tryd.results62, go_sem, ZF.c0, ZF.c1, ZF.c2]) rfl ⟨by rw [HR.out], below_set3 HB3.out.1 (Nat.le_refl _)⟩
    · obtain rfl := HBAD.out hE
      have gE : (E == 0) = false := beq_eq_false_iff_ne.2 hE
      go_wp2
      have ZF := HB1.out.2.set (.int .i64 0) (.int .i64 0) (.slice none 0 0)
      exact bodyPost_ret (v := .tuple #[.agg #[.int .i64 0, .int .i64 0, .slice none 0 0], .int .i64 E]) (by simp [results, Tryd.results62, go_sem, ZF.c0, ZF.c1, ZF.c2]) rfl ⟨by rw [HR.out], below_set3 HB1.out.1 (Nat.le_refl _)⟩
end Go.Proofs.YtlfacpclihmnnaaDoor
namespace Go.Proofs.YtlfacpclihmnnaaDoor
open Num (resV resE In64 sgnI absI)
set_option linter.unusedVariables false
set_option linter.unusedSimpArgs false
/-- What a line comes to as far as place i, itself with it. -/
def rowP (op : Int) (t : Bool) (cs : List Ce) (i : Nat) : Ce × Int := rowR op t (cs.take (i + 1))
def valsL (cs : List Ce) : List Int := cs.map fun c => c.2.1
theorem cAt_get (cs : List Ce) (i : Nat) (h : i < cs.length) : cAt cs i = cs[i] := by simp [cAt, h]
theorem cAt_mem {cs : List Ce} {i : Nat} (h : i < cs.length) : cAt cs i ∈ cs := by rw [cAt_get cs i h]; exact List.getElem_mem _
theorem preN_full {cs : List Ce} (h : ∀ c ∈ cs, c.1 = 0) : preN cs = cs.length := preN_of (fun i hi => h _ (cAt_mem hi)) (Nat.le_refl _) (fun h => absurd h (by omega))
theorem preL_full {cs : List Ce} (h : ∀ c ∈ cs, c.1 = 0) : preL cs = valsL cs := by
  unfold preL valsL numK
  rw [preN_full h]
  apply List.ext_getElem
  · simp
  · intro i h1 h2
    simp at h1 h2
    simp [cAt, h2]
theorem preN_step {cs : List Ce} (h : preN cs < cs.length) : (cAt cs (preN cs)).1 ≠ 0 := by
  intro h0
  induction cs with
  | nil => simp at h
  | cons c cs ih =>
    by_cases hc : (c.1 == 0) = true
    · have e : preN (c :: cs) = preN cs + 1 := by simp [preN, List.takeWhile_cons, hc]
      rw [e] at h h0
      exact ih (by simpa using h) (by simpa [cAt] using h0)
    · have e : preN (c :: cs) = 0 := by simp [preN, List.takeWhile_cons, hc]
      rw [e] at h0
      exact hc (by simpa [cAt] using h0)
theorem onceR_all (X : List Int → Int) {cs : List Ce} (h : ∀ c ∈ cs, c.1 = 0) : onceR X cs = ((0, resV (X (valsL cs)), []), resE (X (valsL cs))) := by
  unfold onceR
  rw [preN_full h, if_neg (by omega), preL_full h]
theorem onceR_not (X : List Int → Int) {cs : List Ce} (h : ¬ ∀ c ∈ cs, c.1 = 0) : onceR X cs = ((0, 0, []), 5) := by
  unfold onceR
  rw [if_pos]
  rcases Nat.lt_or_ge (preN cs) cs.length with h1 | h1
  · exact h1
  · exfalso
    apply h
    intro c hc
    obtain ⟨i, hi, rfl⟩ := List.getElem_of_mem hc
    rw [← cAt_get cs i hi]
    exact preN_all cs i (by omega)
theorem rowR_one (op : Int) (t : Bool) (c : Ce) : rowR op t [c] = (c, 0) := by simp [rowR, cAt]
theorem isOp_in {op : Int} (h1 : 21 ≤ op) (h2 : op ≤ 32) : isOp op = true := by simp [isOp, h1, h2]
theorem resV_ok {x : Int} (h : resE x = 0) : resV x = x := by
  unfold resE at h; unfold resV
  split at h
  · rename_i hf; rw [if_pos hf]
  · simp at h
theorem snoc_take (cs : List Ce) (i : Nat) (h : i < cs.length) : cs.take (i + 1) = cs.take i ++ [cAt cs i] := by
  rw [List.take_add_one, cAt_get cs i h]
  simp [h]
theorem allNum_snoc {ds : List Ce} {c : Ce} : (∀ d ∈ ds ++ [c], d.1 = 0) ↔ (∀ d ∈ ds, d.1 = 0) ∧ c.1 = 0 := by
  constructor
  · intro h; exact ⟨fun d hd => h d (by simp [hd]), h c (by simp)⟩
  · rintro ⟨h1, h2⟩ d hd
    simp at hd
    rcases hd with hd | rfl
    · exact h1 d hd
    · exact h2
/-- Two numbers by a function of numbers. -/
theorem tV_num {op : Int} {t : Bool} {c d : Ce} (ho : isOp op = true) (h27 : op ≠ 27) (h28 : op ≠ 28) (hc : c.1 = 0) (hd : d.1 = 0) : tV op t c d = (if t then twoV op d.2.1 c.2.1 else twoV op c.2.1 d.2.1) ∧ tE op t c d = (if t then twoE op d.2.1 c.2.1 else twoE op c.2.1 d.2.1) := by
  have h : ¬ (op = 27 ∨ op = 28) := by omega
  cases t <;> simp [tV, tE, c2V, c2E, ho, h, hc, hd]
theorem tE_not {op : Int} {t : Bool} {c d : Ce} (ho : isOp op = true) (h27 : op ≠ 27) (h28 : op ≠ 28) (h : ¬ (c.1 = 0 ∧ d.1 = 0)) : tV op t c d = 0 ∧ tE op t c d = 5 := by
  have h' : ¬ (op = 27 ∨ op = 28) := by omega
  have h2 : ¬ (d.1 = 0 ∧ c.1 = 0) := fun k => h ⟨k.2, k.1⟩
  cases t <;> simp [tV, tE, c2V, c2E, ho, h', h, h2]
/-- A line of one cell more, by a function of all numbers. -/
theorem once_snoc (op : Int) (t : Bool) (X : List Int → Int) (f : Int → Int → Int) (hX : ∀ l z, X (l ++ [z]) = f (X l) z) (hX1 : ∀ z, X [z] = z) (hf : ∀ a b, (if t then twoV op b a else twoV op a b) = resV (f a b)) (hfe : ∀ a b, (if t then twoE op b a else twoE op a b) = resE (f a b)) (ho : isOp op = true) (h27 : op ≠ 27) (h28 : op ≠ 28)
    (hr : ∀ cs : List Ce, 2 ≤ cs.length → rowR op t cs = onceR X cs) {ds : List Ce} {c : Ce} (hd : 0 < ds.length) (h0 : (rowR op t ds).2 = 0) :
    rowR op t (ds ++ [c]) = ((0, tV op t (rowR op t ds).1 c, []), tE op t (rowR op t ds).1 c) := by
  rw [hr (ds ++ [c]) (by simp; omega)]
  rcases Nat.lt_or_ge 1 ds.length with h1 | h1
  · rw [hr ds h1] at h0 ⊢
    by_cases ha : ∀ d ∈ ds, d.1 = 0
    · rw [onceR_all X ha] at h0 ⊢
      simp only at h0 ⊢
      rw [resV_ok h0]
      by_cases hc : c.1 = 0
      · rw [onceR_all X (allNum_snoc.2 ⟨ha, hc⟩), show valsL (ds ++ [c]) = valsL ds ++ [c.2.1] by simp [valsL], hX, (tV_num ho h27 h28 (c := (0, X (valsL ds), [])) rfl hc).1, (tV_num ho h27 h28 (c := (0, X (valsL ds), [])) rfl hc).2, hf, hfe]
      · rw [onceR_not X (fun k => hc (allNum_snoc.1 k).2), (tE_not ho h27 h28 (fun k => hc k.2)).1, (tE_not ho h27 h28 (fun k => hc k.2)).2]
    · rw [onceR_not X ha] at h0
      simp at h0
  · have h2 : ds.length = 1 := by omega
    match ds, h2 with
    | [d], _ =>
      rw [rowR_one]
      by_cases hcd : d.1 = 0 ∧ c.1 = 0
      · rw [onceR_all X (allNum_snoc.2 ⟨by simpa using hcd.1, hcd.2⟩), show valsL ([d] ++ [c]) = [d.2.1] ++ [c.2.1] by simp [valsL], hX, hX1, (tV_num ho h27 h28 hcd.1 hcd.2).1, (tV_num ho h27 h28 hcd.1 hcd.2).2, hf, hfe]
      · rw [onceR_not X (fun k => hcd ⟨(allNum_snoc.1 k).1 d (by simp), (allNum_snoc.1 k).2⟩), (tE_not ho h27 h28 hcd).1, (tE_not ho h27 h28 hcd).2]
theorem add_snoc (t : Bool) {ds : List Ce} {c : Ce} (hd : 0 < ds.length) (h0 : (rowR 21 t ds).2 = 0) :
    rowR 21 t (ds ++ [c]) = ((0, tV 21 t (rowR 21 t ds).1 c, []), tE 21 t (rowR 21 t ds).1 c) := by
  refine once_snoc 21 t List.sum (· + ·) (by simp) (by simp) ?_ ?_ rfl (by omega) (by omega) ?_ hd h0
  · intro a b; cases t <;> simp [twoV, Int.add_comm]
  · intro a b; cases t <;> simp [twoE, Int.add_comm]
  · intro cs h; unfold rowR; rw [if_neg (by omega), if_neg (by omega), if_pos rfl]
theorem mul_snoc (t : Bool) {ds : List Ce} {c : Ce} (hd : 0 < ds.length) (h0 : (rowR 23 t ds).2 = 0) :
    rowR 23 t (ds ++ [c]) = ((0, tV 23 t (rowR 23 t ds).1 c, []), tE 23 t (rowR 23 t ds).1 c) := by
  refine once_snoc 23 t Num.prodL (· * ·) (fun l z => by rw [Num.prodL_append]; simp [Num.prodL]) (fun z => by simp [Num.prodL]) ?_ ?_ rfl (by omega) (by omega) ?_ hd h0
  · intro a b; cases t <;> simp [twoV, Int.mul_comm]
  · intro a b; cases t <;> simp [twoE, Int.mul_comm]
  · intro cs h; unfold rowR; rw [if_neg (by omega), if_neg (by omega), if_neg (by omega), if_pos rfl]
/-- The least, or the greatest, of numbers. -/
def mm (op : Int) (a b : Int) : Int := if op = 24 then min a b else max a b
def mmL (op : Int) : List Int → Int
  | [] => 0
  | [a] => a
  | a :: b :: r => mm op a (mmL op (b :: r))
theorem mmL_snoc (op : Int) (z : Int) : ∀ l : List Int, 0 < l.length → mmL op (l ++ [z]) = mm op (mmL op l) z
  | [], h => by simp at h
  | [a], _ => rfl
  | a :: b :: r, _ => by
    have ih := mmL_snoc op z (b :: r) (by simp)
    show mm op a (mmL op (b :: r ++ [z])) = mm op (mm op a (mmL op (b :: r))) z
    rw [ih]
    unfold mm
    split <;> omega
theorem mm_two {op : Int} (t : Bool) (h : op = 24 ∨ op = 25) (a b : Int) : (if t then twoV op b a else twoV op a b) = mm op a b ∧ (if t then twoE op b a else twoE op a b) = 0 := by
  rcases h with rfl | rfl <;> cases t <;> simp [twoV, twoE, mm] <;> omega
theorem frL_mm {op : Int} (t : Bool) (h : op = 24 ∨ op = 25) : ∀ cs : List Ce, 2 ≤ cs.length → ((∀ c ∈ cs, c.1 = 0) → frL op t cs = ((0, mmL op (valsL cs), []), 0)) ∧ ((¬ ∀ c ∈ cs, c.1 = 0) → frL op t cs = ((0, 0, []), 5))
  | [], hl => by simp at hl
  | [c], hl => by simp at hl
  | [c, d], _ => by
    have ho : isOp op = true := isOp_in (by omega) (by omega)
    rw [frL, frL, if_pos rfl]
    constructor
    · intro ha
      have h1 := ha c (by simp)
      have h2 := ha d (by simp)
      rw [(tV_num ho (by omega) (by omega) h1 h2).1, (tV_num ho (by omega) (by omega) h1 h2).2, (mm_two t h _ _).1, (mm_two t h _ _).2]
      rfl
    · intro hn
      have h3 : ¬ (c.1 = 0 ∧ d.1 = 0) := fun k => hn (by simpa using k)
      rw [(tE_not ho (by omega) (by omega) h3).1, (tE_not ho (by omega) (by omega) h3).2]
  | c :: d :: e :: r, _ => by
    have ho : isOp op = true := isOp_in (by omega) (by omega)
    obtain ⟨ih1, ih2⟩ := frL_mm t h (d :: e :: r) (by simp)
    rw [frL]
    constructor
    · intro ha
      have h1 := ih1 (fun x hx => ha x (List.mem_cons_of_mem _ hx))
      rw [h1, if_pos rfl, (tV_num ho (by omega) (by omega) (ha c (by simp)) (d := (0, mmL op (valsL (d :: e :: r)), [])) rfl).1, (tV_num ho (by omega) (by omega) (ha c (by simp)) (d := (0, mmL op (valsL (d :: e :: r)), [])) rfl).2, (mm_two t h _ _).1, (mm_two t h _ _).2]
      rfl
    · intro hn
      by_cases hr : ∀ x ∈ d :: e :: r, x.1 = 0
      · have hc : ¬ c.1 = 0 := fun k => hn (by intro x hx; simp at hx; rcases hx with rfl | hx; exact k; exact hr x (by simpa using hx))
        rw [ih1 hr, if_pos rfl, (tE_not ho (by omega) (by omega) (fun k => hc k.1)).1, (tE_not ho (by omega) (by omega) (fun k => hc k.1)).2]
      · rw [ih2 hr, if_neg (by simp)]
theorem mm_snoc {op : Int} (t : Bool) (h : op = 24 ∨ op = 25) {ds : List Ce} {c : Ce} (hd : 0 < ds.length) (h0 : (rowR op t ds).2 = 0) :
    rowR op t (ds ++ [c]) = ((0, tV op t (rowR op t ds).1 c, []), tE op t (rowR op t ds).1 c) := by
  have ho : isOp op = true := isOp_in (by omega) (by omega)
  have hr : ∀ cs : List Ce, 2 ≤ cs.length → rowR op t cs = frL op t cs := fun cs hcs => by unfold rowR; rw [if_neg (by omega), if_neg (by omega), if_neg (by omega), if_neg (by omega)]
  have H := frL_mm t h (ds ++ [c]) (by simp; omega)
  rw [hr (ds ++ [c]) (by simp; omega)]
  rcases Nat.lt_or_ge 1 ds.length with h1 | h1
  · have Hd := frL_mm t h ds h1
    rw [hr ds h1] at h0 ⊢
    by_cases ha : ∀ d ∈ ds, d.1 = 0
    · rw [Hd.1 ha]
      by_cases hc : c.1 = 0
      · rw [H.1 (allNum_snoc.2 ⟨ha, hc⟩), show valsL (ds ++ [c]) = valsL ds ++ [c.2.1] by simp [valsL], mmL_snoc op _ _ (by simp [valsL]; omega), (tV_num ho (by omega) (by omega) (c := (0, mmL op (valsL ds), [])) rfl hc).1, (tV_num ho (by omega) (by omega) (c := (0, mmL op (valsL ds), [])) rfl hc).2, (mm_two t h _ _).1, (mm_two t h _ _).2]
      · rw [H.2 (fun k => hc (allNum_snoc.1 k).2), (tE_not ho (by omega) (by omega) (fun k => hc k.2)).1, (tE_not ho (by omega) (by omega) (fun k => hc k.2)).2]
    · rw [Hd.2 ha] at h0
      simp at h0
  · have h2 : ds.length = 1 := by omega
    match ds, h2 with
    | [d], _ =>
      rw [rowR_one]
      show frL op t [d, c] = _
      rw [frL, frL, if_pos rfl]
theorem onward_step {op : Int} (t : Bool) (h : op = 21 ∨ op = 23 ∨ op = 24 ∨ op = 25) (cs : List Ce) (i : Nat) (hi : i + 1 < cs.length) (h0 : (rowP op t cs i).2 = 0) :
    rowP op t cs (i + 1) = ((0, tV op t (rowP op t cs i).1 (cAt cs (i + 1)), []), tE op t (rowP op t cs i).1 (cAt cs (i + 1))) := by
  unfold rowP at h0 ⊢
  rw [snoc_take cs (i + 1) hi]
  have hd : 0 < (cs.take (i + 1)).length := by simp; omega
  rcases h with rfl | rfl | h
  · exact add_snoc t hd h0
  · exact mul_snoc t hd h0
  · exact mm_snoc t h hd h0
theorem rowP_zero (op : Int) (t : Bool) (cs : List Ce) (h : 0 < cs.length) : rowP op t cs 0 = (cAt cs 0, 0) := by
  unfold rowP
  rw [snoc_take cs 0 h]
  exact rowR_one _ _ _
/-- Numbers folded from the right. -/
def tvI (op : Int) (t : Bool) (a b : Int) : Int := if t then twoV op b a else twoV op a b
def teI (op : Int) (t : Bool) (a b : Int) : Int := if t then twoE op b a else twoE op a b
def frI (op : Int) (t : Bool) : List Int → Int × Int
  | [] => (0, 0)
  | [a] => (a, 0)
  | a :: b :: r => if (frI op t (b :: r)).2 = 0 then (tvI op t a (frI op t (b :: r)).1, teI op t a (frI op t (b :: r)).1) else frI op t (b :: r)
theorem frL_nums {op : Int} (t : Bool) (ho : isOp op = true) (h27 : op ≠ 27) (h28 : op ≠ 28) : ∀ cs : List Ce, 2 ≤ cs.length → (∀ c ∈ cs, c.1 = 0) → frL op t cs = ((0, (frI op t (valsL cs)).1, []), (frI op t (valsL cs)).2)
  | [], hl, _ => by simp at hl
  | [c], hl, _ => by simp at hl
  | [c, d], _, ha => by
    have h := tV_num (t := t) ho h27 h28 (ha c (by simp)) (ha d (by simp))
    rw [frL, frL, if_pos rfl, h.1, h.2]
    rfl
  | c :: d :: e :: r, _, ha => by
    have ih := frL_nums t ho h27 h28 (d :: e :: r) (by simp) (fun x hx => ha x (List.mem_cons_of_mem _ hx))
    have e1 : valsL (c :: d :: e :: r) = c.2.1 :: d.2.1 :: valsL (e :: r) := rfl
    have e2 : valsL (d :: e :: r) = d.2.1 :: valsL (e :: r) := rfl
    rw [frL, ih, e1, frI, ← e2]
    by_cases h0 : (frI op t (valsL (d :: e :: r))).2 = 0
    · have h := tV_num (t := t) ho h27 h28 (ha c (by simp)) (d := (0, (frI op t (valsL (d :: e :: r))).1, [])) rfl
      rw [if_pos h0, if_pos h0, h.1, h.2]
      rfl
    · rw [if_neg h0, if_neg h0]
/-- The last two decide of an error. -/
theorem frL_last2 (op : Int) (t : Bool) (cs : List Ce) (i : Nat) (hi : cs.length = i + 2) (h : tE op t (cAt cs i) (cAt cs (i + 1)) ≠ 0) : frL op t cs = ((0, 0, []), tE op t (cAt cs i) (cAt cs (i + 1))) := by
  have hd : cs.drop i = [cAt cs i, cAt cs (i + 1)] := by
    rw [drop_cons cs i (by omega), drop_cons cs (i + 1) (by omega), show i + 1 + 1 = cs.length by omega, List.drop_length]
  have e : frL op t (cs.drop i) = ((0, tV op t (cAt cs i) (cAt cs (i + 1)), []), tE op t (cAt cs i) (cAt cs (i + 1))) := by rw [hd, frL, frL, if_pos rfl]
  rw [frL_stop op t cs i (by omega) (by rw [e]; exact h), e, tV_bad h]
theorem cAt_take {cs : List Ce} {i m : Nat} (h : i < m) : cAt (cs.take m) i = cAt cs i := by
  unfold cAt
  rw [List.getElem?_take, if_pos h]
theorem rowP_fr {op : Int} (t : Bool) (cs : List Ce) (i : Nat) (hi : i + 1 < cs.length) (h1 : op ≠ 21) (h2 : op ≠ 23) : rowP op t cs (i + 1) = frL op t (cs.take (i + 2)) := by
  unfold rowP rowR
  have : (cs.take (i + 1 + 1)).length = i + 2 := by rw [List.length_take]; omega
  rw [if_neg (by omega), if_neg (by omega), if_neg h1, if_neg h2]
/-- Sub and Res, as far as place i + 1. -/
theorem anew_num {op : Int} (t : Bool) (ho : op = 22 ∨ op = 26) (cs : List Ce) (i : Nat) (hi : i + 1 < preN cs) : rowP op t cs (i + 1) = ((0, (frI op t ((preL cs).take (i + 2))).1, []), (frI op t ((preL cs).take (i + 2))).2) := by
  have hp := preN_le cs
  rw [rowP_fr t cs i (by omega) (by omega) (by omega)]
  have hn : ∀ c ∈ cs.take (i + 2), c.1 = 0 := by
    intro c hc
    obtain ⟨k, hk, rfl⟩ := List.getElem_of_mem hc
    have hk2 := hk
    rw [List.length_take] at hk2
    rw [← cAt_get _ k hk, cAt_take (by omega)]
    exact preN_all cs k (by omega)
  have e : valsL (cs.take (i + 2)) = (preL cs).take (i + 2) := by
    apply List.ext_getElem
    · simp [valsL, preL_len]; omega
    · intro k h1 h2
      simp [valsL] at h1
      have h3 : k < cs.length := by omega
      simp [valsL, preL, numK, cAt, h3]
  rw [frL_nums t (isOp_in (by omega) (by omega)) (by omega) (by omega) _ (by rw [List.length_take]; omega) hn, e]
theorem anew_not {op : Int} (t : Bool) (ho : op = 22 ∨ op = 26) (cs : List Ce) (i : Nat) (hi : i + 1 < cs.length) (h1 : preN cs ≤ i + 1) (h2 : i = 0 ∨ i < preN cs) : rowP op t cs (i + 1) = ((0, 0, []), 5) := by
  rw [rowP_fr t cs i hi (by omega) (by omega)]
  have hk : ¬ ((cAt cs i).1 = 0 ∧ (cAt cs (i + 1)).1 = 0) := by
    rintro ⟨k1, k2⟩
    have : preN cs = i + 1 ∨ preN cs = 0 := by omega
    rcases this with h | h
    · have := preN_step (cs := cs) (by omega : preN cs < cs.length)
      rw [h] at this
      exact this k2
    · have := preN_step (cs := cs) (by omega : preN cs < cs.length)
      rw [h] at this
      have h0 : i = 0 := by omega
      subst h0
      exact this k1
  have hE := tE_not (t := t) (isOp_in (op := op) (by omega) (by omega)) (by omega) (by omega) hk
  have := frL_last2 op t (cs.take (i + 2)) i (by rw [List.length_take]; omega) (by rw [cAt_take (by omega), cAt_take (by omega), hE.2]; omega)
  rw [this, cAt_take (by omega), cAt_take (by omega), hE.2]
/-- A function that answers 0 or 1: what may be held against a number. -/
def okN (op : Int) (c : Ce) : Prop := if op = 27 ∨ op = 28 then c.1 ≠ 2 else c.1 = 0
theorem tr01 (b : Bool) : tr b = 0 ∨ tr b = 1 := by cases b <;> simp [tr]
theorem c2_01 {op : Int} (h1 : 27 ≤ op) (h2 : op ≤ 32) (c d : Ce) : c2V op c d = 0 ∨ c2V op c d = 1 := by
  unfold c2V
  rw [isOp_in (by omega) h2]
  simp only [Bool.true_eq_false, if_false]
  split
  · unfold eqV
    split
    · exact Or.inl rfl
    · split <;> exact tr01 _
  · split
    · unfold twoV
      rw [if_neg (by omega), if_neg (by omega), if_neg (by omega), if_neg (by omega), if_neg (by omega), if_neg (by omega)]
      split
      · exact tr01 _
      · split
        · exact tr01 _
        · split <;> exact tr01 _
    · exact Or.inl rfl
theorem tV_01 {op : Int} (t : Bool) (h1 : 27 ≤ op) (h2 : op ≤ 32) (c d : Ce) : tV op t c d = 0 ∨ tV op t c d = 1 := by
  unfold tV
  cases t
  · exact c2_01 h1 h2 _ _
  · exact c2_01 h1 h2 _ _
theorem c2E_ok {op : Int} (h1 : 27 ≤ op) (h2 : op ≤ 32) (c d : Ce) : c2E op c d = 0 ↔ okN op c ∧ okN op d := by
  unfold c2E okN
  rw [isOp_in (by omega) h2]
  simp only [Bool.true_eq_false, if_false]
  by_cases h : op = 27 ∨ op = 28
  · rw [if_pos h, if_pos h, if_pos h]
    unfold eqE
    by_cases hk : c.1 = 2 ∨ d.1 = 2
    · rw [if_pos hk]
      constructor
      · intro k; omega
      · rintro ⟨k1, k2⟩; omega
    · rw [if_neg hk]
      constructor
      · intro _; omega
      · intro _; rfl
  · rw [if_neg h, if_neg h, if_neg h]
    by_cases hk : c.1 = 0 ∧ d.1 = 0
    · rw [if_pos hk]
      unfold twoE
      rw [if_neg (by omega), if_neg (by omega), if_neg (by omega)]
      exact ⟨fun _ => hk, fun _ => rfl⟩
    · rw [if_neg hk]
      exact ⟨fun k => by omega, fun k => absurd k hk⟩
theorem tE_ok {op : Int} (t : Bool) (h1 : 27 ≤ op) (h2 : op ≤ 32) (c d : Ce) : tE op t c d = 0 ↔ okN op c ∧ okN op d := by
  unfold tE
  cases t
  · exact c2E_ok h1 h2 c d
  · rw [if_pos rfl, c2E_ok h1 h2 d c]
    exact And.comm
theorem okN_num (op v : Int) : okN op (0, v, []) := by unfold okN; split <;> simp
/-- What cells make of a number behind them. -/
def foldB (op : Int) (t : Bool) : List Ce → Int → Int
  | [], v => v
  | c :: r, v => tV op t c (0, foldB op t r v, [])
theorem foldB_snoc (op : Int) (t : Bool) (c : Ce) (v : Int) : ∀ r, foldB op t (r ++ [c]) v = foldB op t r (tV op t c (0, v, []))
  | [] => rfl
  | d :: r => by
    show tV op t d (0, foldB op t (r ++ [c]) v, []) = _
    rw [foldB_snoc op t c v r]
    rfl
theorem frL_B {op : Int} (t : Bool) (h1 : 27 ≤ op) (h2 : op ≤ 32) (c d : Ce) (hcd : tE op t c d = 0) : ∀ ds : List Ce, (∀ e ∈ ds, okN op e) → frL op t (ds ++ [c, d]) = ((0, foldB op t ds (tV op t c d), []), 0)
  | [], _ => by
    show frL op t [c, d] = _
    rw [frL, frL, if_pos rfl, hcd]
    rfl
  | e :: r, hk => by
    have ih := frL_B t h1 h2 c d hcd r (fun x hx => hk x (List.mem_cons_of_mem _ hx))
    have hne : ∃ f q, r ++ [c, d] = f :: q := by
      cases r with
      | nil => exact ⟨c, [d], rfl⟩
      | cons f q => exact ⟨f, q ++ [c, d], rfl⟩
    obtain ⟨f, q, hq⟩ := hne
    show frL op t (e :: (r ++ [c, d])) = _
    rw [hq, frL, ← hq, ih, if_pos rfl, (tE_ok t h1 h2 e _).2 ⟨hk e (by simp), okN_num _ _⟩]
    rfl
/-- Comparisons, as far as place i + 1. -/
theorem truth_step {op : Int} (t : Bool) (h1 : 27 ≤ op) (h2 : op ≤ 32) (cs : List Ce) (i : Nat) (hi : i + 1 < cs.length) (hok : ∀ j, j < i → okN op (cAt cs j)) :
    (tE op t (cAt cs i) (cAt cs (i + 1)) = 0 → rowP op t cs (i + 1) = ((0, foldB op t (cs.take i) (tV op t (cAt cs i) (cAt cs (i + 1))), []), 0)) ∧ (tE op t (cAt cs i) (cAt cs (i + 1)) ≠ 0 → rowP op t cs (i + 1) = ((0, 0, []), tE op t (cAt cs i) (cAt cs (i + 1)))) := by
  rw [rowP_fr t cs i hi (by omega) (by omega)]
  constructor
  · intro h
    have e : cs.take (i + 2) = cs.take i ++ [cAt cs i, cAt cs (i + 1)] := by
      rw [show i + 2 = (i + 1) + 1 by omega, snoc_take cs (i + 1) hi, snoc_take cs i (by omega), List.append_assoc]
      rfl
    rw [e]
    refine frL_B t h1 h2 _ _ h _ (fun x hx => ?_)
    obtain ⟨k, hk, rfl⟩ := List.getElem_of_mem hx
    have hk2 := hk
    rw [List.length_take] at hk2
    rw [← cAt_get _ k hk, cAt_take (by omega)]
    exact hok k (by omega)
  · intro h
    have := frL_last2 op t (cs.take (i + 2)) i (by rw [List.length_take]; omega) (by rw [cAt_take (by omega), cAt_take (by omega)]; exact h)
    rw [this, cAt_take (by omega), cAt_take (by omega)]
theorem foldB_01 {op : Int} (t : Bool) (h1 : 27 ≤ op) (h2 : op ≤ 32) (ds : List Ce) {v : Int} (hv : v = 0 ∨ v = 1) : foldB op t ds v = 0 ∨ foldB op t ds v = 1 := by
  cases ds with
  | nil => exact hv
  | cons c r => exact tV_01 t h1 h2 _ _
end Go.Proofs.YtlfacpclihmnnaaDoor
namespace Go.Proofs.YtlfacpclihmnnaaDoor
open Go.ChangeShapes Go.WideShapes Go.ChangeAt Go.RowKit
open Num (resV resE In64 sgnI absI)
set_option linter.unusedVariables false
set_option linter.unusedSimpArgs false
set_option maxRecDepth 100000
/-- What comes of a line, with its error, handed back. -/
def GivesF (n lo : Nat) (w0 : World) (r : Ce × Int) (w : World) (e : Ending) (w' : World) : Prop :=
  (∃ v0 v1 v2, e = .returned (.tuple #[.agg #[v0, v1, v2], .int .i64 r.2]) ∧ CeIn (ArIn n lo w0) lo w0 r.1 v0 v1 v2) ∧ Below w.heap.size w w'
/-- A row of cells in a world w whose boxes lie in an elder world w0. -/
def CellsO (n lo : Nat) (w0 w : World) (cs : List Ce) (a2 : Option Addr) : Prop :=
  cs = [] ∨ ∃ b off, a2 = some ⟨b, off, none⟩ ∧ lo ≤ b ∧ b < w.heap.size ∧
    ∀ i, i < cs.length → ∃ v0 v1 v2, w.cell? ⟨b, off + i * 3, none⟩ = some v0 ∧ w.cell? ⟨b, off + i * 3 + 1, none⟩ = some v1 ∧ w.cell? ⟨b, off + i * 3 + 2, none⟩ = some v2 ∧ CeIn (ArIn n lo w0) lo w0 (cAt cs i) v0 v1 v2
theorem CellsO.now {n lo : Nat} {w0 w : World} {cs : List Ce} {a2 : Option Addr} (h : CellsO n lo w0 w cs a2) (hb : Below w0.heap.size w0 w) : CellsIn n lo w cs a2 := by
  rcases h with h | ⟨b, off, ha, hl, hbb, hc⟩
  · exact Or.inl h
  · refine Or.inr ⟨b, off, ha, hl, hbb, fun i hi => ?_⟩
    obtain ⟨v0, v1, v2, e0, e1, e2, hce⟩ := hc i hi
    exact ⟨v0, v1, v2, e0, e1, e2, hce.mono (Nat.le_refl _) hb fun x v hx => hx.next hb⟩
theorem CellsIn.old {n lo : Nat} {w : World} {cs : List Ce} {a2 : Option Addr} (h : CellsIn n lo w cs a2) : CellsO n lo w w cs a2 := h
theorem onceR_num (X : List Int → Int) (cs : List Ce) : (onceR X cs).1 = (0, (onceR X cs).1.2.1, []) := by
  unfold onceR
  split <;> rfl
theorem gives_num {n lo : Nat} {w0 : World} {r : Ce × Int} {w w' : World} (h1 : r.1 = (0, r.1.2.1, [])) (h2 : Below w.heap.size w w') : GivesF n lo w0 r w (.returned (.tuple #[.agg #[.int .i64 0, .int .i64 r.1.2.1, .slice none 0 0], .int .i64 r.2])) w' := by
  refine ⟨⟨_, _, _, rfl, ?_⟩, h2⟩
  rw [h1]
  exact ce_num _ _ _ _
set_option maxHeartbeats 8000000 in
theorem folded32 {n lo : Nat} {cs : List Ce} {a : Option Addr} {cap : Nat} {op : Int} {t : Bool} {w0 w : World} (hcO : CellsO n lo w0 w cs a) (hb0 : Below w0.heap.size w0 w) (hl : cs.length ≤ 16384) (hin : ∀ i, i < cs.length → In64 (cAt cs i).2.1) (T : Tab w) :
    Calls Tryd.prog 32 #[.agg #[.int .i64 op, .bool t], .slice a cs.length cap] w fun e w' => GivesF n lo w0 (rowR op t cs) w e w' := by
  have hc := hcO.now hb0
  obtain ⟨W2, hW2⟩ : ∃ W2, (w.alloc (.cells #[.int .i64 op, .bool t] 32)).alloc (.cells #[.int .i64 0, .int .i64 0, .slice none 0 0] 43) = W2 := ⟨_, rfl⟩
  have B2 : Below w.heap.size w W2 := by rw [← hW2]; exact two_allocs _ _ _
  have ZR : Zc W2 (w.heap.size + 1) (.int .i64 0) (.int .i64 0) (.slice none 0 0) := by
    have hz := Zc.new (w.alloc (.cells #[.int .i64 op, .bool t] 32)) (.int .i64 0) (.int .i64 0) (.slice none 0 0)
    rw [hW2] at hz
    simpa using hz
  have p0 : W2.cell? ⟨w.heap.size, 0, none⟩ = some (.int .i64 op) := by rw [← hW2]; exact cell_new1 w _ 32 (0, 0) _ 0 _ rfl
  have p1 : W2.cell? ⟨w.heap.size, 1, none⟩ = some (.bool t) := by rw [← hW2]; exact cell_new1 w _ 32 (0, 0) _ 1 _ rfl
  have HC2 := hide (CellsIn.mono hc (Nat.le_refl _) B2)
  have HT2 := hide (T.next B2)
  have HH := hide (And.intro B2 ZR)
  have HIN := hide hin
  have HCS := hide hcO
  have q0 := ZR.c0
  have q1 := ZR.c1
  have q2 := ZR.c2
  have g0 := ZR.f0
  have g1 := ZR.f1
  have g2 := ZR.f2
  clear B2 ZR T hin hc hcO hb0
  by_cases h0 : cs.length = 0
  · have hR : rowR op t cs = ((0, nonV op, []), nonE op) := by unfold rowR; rw [if_pos h0]
    have hN : (rowR op t cs).1 = (0, (rowR op t cs).1.2.1, []) := by rw [hR]
    have CA := none61 op t W2
    rw [show nonV op = (rowR op t cs).1.2.1 by rw [hR], show nonE op = (rowR op t cs).2 by rw [hR]] at CA
    have HG := hide (fun (w' : World) (h : Below w.heap.size w w') => gives_num (n := n) (lo := lo) (w0 := w0) hN h)
    have hz0 : (cs.length : Int) = 0 := by omega
    have hz1 : True := trivial
    generalize cs.length = L at *
    generalize rowR op t cs = R at *
    clear HC2 HIN HCS HT2 hN hR
    go_enter Tryd.func32, Tryd.ntmps32
    go_wp2_with fail
    refine CA.mono ?_
    rintro e w1 ⟨rfl, hb1⟩
    have ZF := HH.out.2.next hb1
    have B4 := HH.out.1.trans (hb1.mono HH.out.1.size)
    clear hb1 q0 q1 q2 g0 g1 g2 p0 p1 CA
    have q0 := ZF.c0
    have q1 := ZF.c1
    have q2 := ZF.c2
    have g0 := ZF.f0
    have g1 := ZF.f1
    have g2 := ZF.f2
    have HZF := hide (And.intro ZF B4)
    clear ZF B4
    go_wp2
    have ZG := HZF.out.1.set (.int .i64 0) (.int .i64 R.1.2.1) (.slice none 0 0)
    exact bodyPost_ret (v := .tuple #[.agg #[.int .i64 0, .int .i64 R.1.2.1, .slice none 0 0], .int .i64 R.2]) (by simp [results, Tryd.results32, go_sem, ZG.c0, ZG.c1, ZG.c2]) rfl (HG.out _ (below_set3 HZF.out.2 (by omega)))
  by_cases h1 : cs.length = 1
  · have hR : rowR op t cs = (cAt cs 0, 0) := by unfold rowR; rw [if_neg h0, if_pos h1]
    obtain ⟨b, off, rfl, -, hbl, hcc⟩ : ∃ b off, a = some ⟨b, off, none⟩ ∧ lo ≤ b ∧ b < w.heap.size ∧ ∀ i, i < cs.length → ∃ v0 v1 v2, w.cell? ⟨b, off + i * 3, none⟩ = some v0 ∧ w.cell? ⟨b, off + i * 3 + 1, none⟩ = some v1 ∧ w.cell? ⟨b, off + i * 3 + 2, none⟩ = some v2 ∧ CeIn (ArIn n lo w0) lo w0 (cAt cs i) v0 v1 v2 := by
      rcases HCS.out with h | h
      · rw [h] at h1; simp at h1
      · exact h
    obtain ⟨v0, v1, v2, e0, e1, e2, hce⟩ := hcc 0 (by omega)
    obtain ⟨rfl, rfl, ab0, cb0, rfl, -⟩ := id hce
    rw [h1]
    have hce' : CeIn (ArIn n lo w0) lo w0 (rowR op t cs).1 (.int .i64 (cAt cs 0).1) (.int .i64 (cAt cs 0).2.1) (.slice ab0 (cAt cs 0).2.2.length cb0) := by rw [hR]; exact hce
    have hR2 : (rowR op t cs).2 = 0 := by rw [hR]
    have HCE := hide (And.intro hce' hR2)
    rw [Nat.zero_mul, Nat.add_zero] at e0 e1 e2
    replace e0 := (HH.out.1.cell (p := ⟨b, off, none⟩) hbl).trans e0
    replace e1 := (HH.out.1.cell (p := ⟨b, off + 1, none⟩) hbl).trans e1
    replace e2 := (HH.out.1.cell (p := ⟨b, off + 2, none⟩) hbl).trans e2
    generalize (cAt cs 0).2.2.length = m at *
    generalize (cAt cs 0).2.1 = y1 at *
    generalize (cAt cs 0).1 = y0 at *
    clear hcc hce hce' hR hR2 HC2 HIN HCS HT2 h0 h1
    go_enter Tryd.func32, Tryd.ntmps32
    go_wp2
    have ZG := HH.out.2.set (.int .i64 y0) (.int .i64 y1) (.slice ab0 m cb0)
    have hbf := below_set3 (v0 := .int .i64 y0) (v1 := .int .i64 y1) (v2 := .slice ab0 m cb0) HH.out.1 (by omega : w.heap.size ≤ w.heap.size + 1)
    exact bodyPost_ret (v := .tuple #[.agg #[.int .i64 y0, .int .i64 y1, .slice ab0 m cb0], .int .i64 0]) (by simp [results, Tryd.results32, go_sem, ZG.c0, ZG.c1, ZG.c2]) rfl ⟨⟨_, _, _, by rw [HCE.out.2], HCE.out.1⟩, hbf⟩
  have hl1 : 2 ≤ cs.length := by omega
  by_cases ho1 : op = 21
  · subst ho1
    have hR : rowR 21 t cs = onceR List.sum cs := by unfold rowR; rw [if_neg h0, if_neg h1, if_pos rfl]
    have hN := onceR_num List.sum cs
    rw [← hR] at hN
    have CA := once63 (cap := cap) HC2.out hl HIN.out
    rw [← hR] at CA
    have HG := hide (fun (w' : World) (h : Below w.heap.size w w') => gives_num (n := n) (lo := lo) (w0 := w0) hN h)
    have hz0 : ¬ ((cs.length : Int) = 0) := by omega
    have hz1 : ¬ ((cs.length : Int) = 1) := by omega
    generalize cs.length = L at *
    generalize rowR 21 t cs = R at *
    clear HC2 HIN HCS HT2 hN hR
    go_enter Tryd.func32, Tryd.ntmps32
    go_wp2_with fail
    refine CA.mono ?_
    rintro e w1 ⟨rfl, hb1⟩
    have ZF := HH.out.2.next hb1
    have B4 := HH.out.1.trans (hb1.mono HH.out.1.size)
    clear hb1 q0 q1 q2 g0 g1 g2 p0 p1 CA
    have q0 := ZF.c0
    have q1 := ZF.c1
    have q2 := ZF.c2
    have g0 := ZF.f0
    have g1 := ZF.f1
    have g2 := ZF.f2
    have HZF := hide (And.intro ZF B4)
    clear ZF B4
    go_wp2
    have ZG := HZF.out.1.set (.int .i64 0) (.int .i64 R.1.2.1) (.slice none 0 0)
    exact bodyPost_ret (v := .tuple #[.agg #[.int .i64 0, .int .i64 R.1.2.1, .slice none 0 0], .int .i64 R.2]) (by simp [results, Tryd.results32, go_sem, ZG.c0, ZG.c1, ZG.c2]) rfl (HG.out _ (below_set3 HZF.out.2 (by omega)))
  by_cases ho2 : op = 23
  · subst ho2
    have hR : rowR 23 t cs = onceR Num.prodL cs := by unfold rowR; rw [if_neg h0, if_neg h1, if_neg (by omega), if_pos rfl]
    have hN := onceR_num Num.prodL cs
    rw [← hR] at hN
    have CA := once64 (cap := cap) HC2.out hl HIN.out
    rw [← hR] at CA
    have HG := hide (fun (w' : World) (h : Below w.heap.size w w') => gives_num (n := n) (lo := lo) (w0 := w0) hN h)
    have hz0 : ¬ ((cs.length : Int) = 0) := by omega
    have hz1 : ¬ ((cs.length : Int) = 1) := by omega
    generalize cs.length = L at *
    generalize rowR 23 t cs = R at *
    clear HC2 HIN HCS HT2 hN hR
    go_enter Tryd.func32, Tryd.ntmps32
    go_wp2_with fail
    refine CA.mono ?_
    rintro e w1 ⟨rfl, hb1⟩
    have ZF := HH.out.2.next hb1
    have B4 := HH.out.1.trans (hb1.mono HH.out.1.size)
    clear hb1 q0 q1 q2 g0 g1 g2 p0 p1 CA
    have q0 := ZF.c0
    have q1 := ZF.c1
    have q2 := ZF.c2
    have g0 := ZF.f0
    have g1 := ZF.f1
    have g2 := ZF.f2
    have HZF := hide (And.intro ZF B4)
    clear ZF B4
    go_wp2
    have ZG := HZF.out.1.set (.int .i64 0) (.int .i64 R.1.2.1) (.slice none 0 0)
    exact bodyPost_ret (v := .tuple #[.agg #[.int .i64 0, .int .i64 R.1.2.1, .slice none 0 0], .int .i64 R.2]) (by simp [results, Tryd.results32, go_sem, ZG.c0, ZG.c1, ZG.c2]) rfl (HG.out _ (below_set3 HZF.out.2 (by omega)))
  have hR : rowR op t cs = frL op t cs := by unfold rowR; rw [if_neg h0, if_neg h1, if_neg ho1, if_neg ho2]
  have hN := frL_num op t cs hl1
  rw [← hR] at hN
  have go1 : (op == 21) = false := beq_eq_false_iff_ne.2 ho1
  have go2 : (op == 23) = false := beq_eq_false_iff_ne.2 ho2
  have CO := of45 op t W2
  have CF : Hid (∀ W, Below W2.heap.size W2 W → Calls Tryd.prog 65 #[.slice a cs.length cap, fnV op t] W fun e w' => e = .returned (.tuple #[.agg #[.int .i64 0, .int .i64 (rowR op t cs).1.2.1, .slice none 0 0], .int .i64 (rowR op t cs).2]) ∧ Below W2.heap.size W2 w') := fun W hW => by
    rw [hR]
    cases t
    · refine (fromR74 (cap := cap) (CellsIn.mono HC2.out (Nat.le_refl _) hW) hl hl1 HIN.out (HT2.out.next hW)).mono ?_
      rintro e w' ⟨rfl, hb'⟩
      exact ⟨rfl, hW.trans (hb'.mono hW.size)⟩
    · refine (fromR73 (cap := cap) (CellsIn.mono HC2.out (Nat.le_refl _) hW) hl hl1 HIN.out (HT2.out.next hW)).mono ?_
      rintro e w' ⟨rfl, hb'⟩
      exact ⟨rfl, hW.trans (hb'.mono hW.size)⟩
  have HG := hide (fun (w' : World) (h : Below w.heap.size w w') => gives_num (n := n) (lo := lo) (w0 := w0) hN h)
  have hz0 : ¬ ((cs.length : Int) = 0) := by omega
  have hz1 : ¬ ((cs.length : Int) = 1) := by omega
  generalize cs.length = L at *
  generalize rowR op t cs = R at *
  clear HC2 HIN HCS HT2 hN hR ho1 ho2
  generalize hfv : fnV op t = fv at *
  go_enter Tryd.func32, Tryd.ntmps32
  go_wp2_with fail
  refine CO.mono ?_
  rintro e w1 ⟨rfl, hb1⟩
  clear CO
  go_wp2_with fail
  refine (CF.out w1 hb1).mono ?_
  rintro e w2 ⟨rfl, hb2⟩
  have ZF := HH.out.2.next hb2
  have B4 := HH.out.1.trans (hb2.mono HH.out.1.size)
  clear hb1 hb2 q0 q1 q2 g0 g1 g2 p0 p1
  have q0 := ZF.c0
  have q1 := ZF.c1
  have q2 := ZF.c2
  have g0 := ZF.f0
  have g1 := ZF.f1
  have g2 := ZF.f2
  have HZF := hide (And.intro ZF B4)
  clear ZF B4
  go_wp2
  have ZG := HZF.out.1.set (.int .i64 0) (.int .i64 R.1.2.1) (.slice none 0 0)
  exact bodyPost_ret (v := .tuple #[.agg #[.int .i64 0, .int .i64 R.1.2.1, .slice none 0 0], .int .i64 R.2]) (by simp [results, Tryd.results32, go_sem, ZG.c0, ZG.c1, ZG.c2]) rfl (HG.out _ (below_set3 HZF.out.2 (by omega)))
end Go.Proofs.YtlfacpclihmnnaaDoor
namespace Go.Proofs.YtlfacpclihmnnaaDoor
open Go.ChangeShapes Go.WideShapes Go.ChangeAt Go.RowKit
open Num (resV resE In64 sgnI absI)
set_option linter.unusedVariables false
set_option linter.unusedSimpArgs false
set_option maxRecDepth 100000
set_option maxHeartbeats 2000000 in
theorem rof47 (op : Int) (t : Bool) (k1 n1 k2 n2 : Int) (a b : Option Addr) (na ca nb cb : Nat) (c d : Ce) (hc : c.1 = k1 ∧ c.2.1 = n1) (hd : d.1 = k2 ∧ d.2.1 = n2) (h1 : In64 n1) (h2 : In64 n2) (w : World) :
    Calls Tryd.prog 47 #[.int .i64 op, .bool t, .agg #[.int .i64 k1, .int .i64 n1, .slice a na ca], .agg #[.int .i64 k2, .int .i64 n2, .slice b nb cb]] w fun r w' => r = .returned (.tuple #[.agg #[.int .i64 0, .int .i64 (tV op t c d), .slice none 0 0], .int .i64 (tE op t c d)]) ∧ Below w.heap.size w w' := by
  cases t with
  | false =>
    have C := hide (fun w => rcell2_any op k1 n1 k2 n2 a b na ca nb cb c d hc hd h1 h2 w)
    rw [show tV op false c d = c2V op c d from rfl, show tE op false c d = c2E op c d from rfl]
    clear hc hd h1 h2
    generalize c2V op c d = V at *
    generalize c2E op c d = EE at *
    go_enter Tryd.func47, Tryd.ntmps47
    go_wp2_with fail
    refine (C.out _).mono ?_
    rintro e w1 ⟨rfl, hb1⟩
    have B1 := (three_allocs _ _ _ _).trans (hb1.mono (three_allocs _ _ _ _).size)
    obtain ⟨hcl, hfz⟩ := Num.bcell hb1
    go_wp2
    exact bodyPost_ret (v := .tuple #[.agg #[.int .i64 0, .int .i64 V, .slice none 0 0], .int .i64 EE]) (by simp [results, Tryd.results47, go_sem, hcl]) rfl ⟨rfl, below_set3 B1 (by omega)⟩
  | true =>
    have C := hide (fun w => rcell2_any op k2 n2 k1 n1 b a nb cb na ca d c hd hc h2 h1 w)
    rw [show tV op true c d = c2V op d c from rfl, show tE op true c d = c2E op d c from rfl]
    clear hc hd h1 h2
    generalize c2V op d c = V at *
    generalize c2E op d c = EE at *
    go_enter Tryd.func47, Tryd.ntmps47
    go_wp2_with fail
    refine (C.out _).mono ?_
    rintro e w1 ⟨rfl, hb1⟩
    have B1 := (three_allocs _ _ _ _).trans (hb1.mono (three_allocs _ _ _ _).size)
    obtain ⟨hcl, hfz⟩ := Num.bcell hb1
    go_wp2
    exact bodyPost_ret (v := .tuple #[.agg #[.int .i64 0, .int .i64 V, .slice none 0 0], .int .i64 EE]) (by simp [results, Tryd.results47, go_sem, hcl]) rfl ⟨rfl, below_set3 B1 (by omega)⟩
end Go.Proofs.YtlfacpclihmnnaaDoor
namespace Go.Proofs.YtlfacpclihmnnaaDoor
open Go.ChangeShapes Go.WideShapes Go.ChangeAt Go.RowKit
open Num (resV resE In64 sgnI absI)
set_option linter.unusedVariables false
set_option linter.unusedSimpArgs false
set_option maxRecDepth 100000
set_option maxHeartbeats 8000000 in
theorem rrowFr {n lo : Nat} {cs : List Ce} {a : Option Addr} {cap : Nat} {op : Int} {t : Bool} {w : World} (hc : CellsIn n lo w cs a) (hl : cs.length ≤ 16384) (h2 : 2 ≤ cs.length) (hin : ∀ i, i < cs.length → In64 (cAt cs i).2.1) (ho1 : op ≠ 21) (ho2 : op ≠ 23) :
    Calls Tryd.prog 38 #[.int .i64 op, .bool t, .slice a cs.length cap] w fun e w' => e = .returned (.tuple #[.agg #[.int .i64 0, .int .i64 (frL op t cs).1.2.1, .slice none 0 0], .int .i64 (frL op t cs).2]) ∧ Below w.heap.size w w' := by
  obtain ⟨ab, cb, hcf⟩ := cells_fn hc
  obtain ⟨b, off, rfl, -, hbl, hcc⟩ := hcf (by omega)
  obtain ⟨L, hL⟩ : ∃ L, cs.length = L := ⟨_, rfl⟩
  have HN := hide (fun h => frL_num op t cs h)
  obtain ⟨R, hR⟩ : ∃ R, frL op t cs = R := ⟨_, rfl⟩
  have HR := hide hR
  have go1 : (op == 21) = false := beq_eq_false_iff_ne.2 ho1
  have go2 : (op == 23) = false := beq_eq_false_iff_ne.2 ho2
  have HIN := hide hin
  have HCC := hide hcc
  obtain ⟨e0, e1, e2, -⟩ := hcc (L - 1) (by omega)
  have hi0 := hin (L - 1) (by omega)
  have S0 : FrS w op t cs (L - 1) (cAt cs (L - 1)).1 (cAt cs (L - 1)).2.1 (.slice (ab (L - 1)) (cAt cs (L - 1)).2.2.length (cb (L - 1))) ((w.alloc (.cells #[.int .i64 0, .int .i64 0, .slice none 0 0] 43)).alloc (.cells #[.int .i64 (cAt cs (L - 1)).1, .int .i64 (cAt cs (L - 1)).2.1, .slice (ab (L - 1)) (cAt cs (L - 1)).2.2.length (cb (L - 1))] 43)) := by
    have hlast := frL_last op t cs (by omega)
    rw [hL] at hlast
    have hz := Zc.new (w.alloc (.cells #[.int .i64 0, .int .i64 0, .slice none 0 0] 43)) (.int .i64 (cAt cs (L - 1)).1) (.int .i64 (cAt cs (L - 1)).2.1) (.slice (ab (L - 1)) (cAt cs (L - 1)).2.2.length (cb (L - 1)))
    have es : (w.alloc (.cells #[.int .i64 0, .int .i64 0, .slice none 0 0] 43)).heap.size = w.heap.size + 1 := by simp
    rw [es] at hz
    exact ⟨two_allocs _ _ _, by omega, by rw [hlast], by rw [hlast], by rw [hlast], hi0, fun h => absurd h (by omega), hz, (Zc.new w _ _ _).next (one_alloc _ _)⟩
  have HS0 := hide S0
  rw [hL] at HN hl h2 ⊢
  have gl0 : ((L : Int) == 0) = false := beq_eq_false_iff_ne.2 (by omega)
  have gl1 : ((L : Int) == 1) = false := beq_eq_false_iff_ne.2 (by omega)
  have hLz : (L : Int) - 1 < (L : Int) := by omega
  have hLn : ((L : Int) - 1).toNat = L - 1 := by omega
  clear hcf hc hcc hin ho1 ho2 S0 hR hi0
  generalize (cAt cs (L - 1)).2.2.length = nk at *
  generalize (cAt cs (L - 1)).2.1 = z1 at *
  generalize (cAt cs (L - 1)).1 = z0 at *
  go_enter Tryd.func38, Tryd.ntmps38
  go_wp2
  go_loopg [14] (L - 1) (fun g iv wq => ∃ j : Nat, ∃ k1 n1 : Int, ∃ a0 : Option Addr, ∃ m0 c0 : Nat, g = j ∧ iv = .int .i64 ((j : Int) - 1) ∧ FrS w op t cs j k1 n1 (.slice a0 m0 c0) wq)
  case atStart => exact ⟨L - 1, _, _, _, _, _, rfl, by go_num, HS0.out⟩
  case round =>
    obtain ⟨j, k1, n1, a0, m0, c0, hgj, rfl, S⟩ := hrel
    clear HS0 e0 e1 e2 hLz hLn
    have hjl := S.le
    rw [hL] at hjl
    have hsz := S.bel.size
    have HS := hide S
    have q0 := S.out.c0
    have q1 := S.out.c1
    have q2 := S.out.c2
    have g0 := S.out.f0
    have g1 := S.out.f1
    have g2 := S.out.f2
    have r0 := S.res.c0
    have r1 := S.res.c1
    have r2 := S.res.c2
    have s0 := S.res.f0
    have s1 := S.res.f1
    have s2 := S.res.f2
    have hbo := S.out.lt
    clear S
    rcases Nat.eq_zero_or_pos j with h0 | h0
    · subst h0
      obtain ⟨rfl, hu2⟩ := HS.out.num (by rw [hL]; omega)
      cases hu2
      have HFF : Hid (frL op t cs = ((0, n1, []), 0)) := by
        have h1 := HS.out.v1
        have h2' := HS.out.e0
        rw [List.drop_zero] at h1 h2'
        have h3 := HN.out h2
        rw [h1] at h3
        exact Prod.ext h3 h2'
      clear hgj hL HCC HIN HN HR
      go_wp2
      exact bodyPost_ret (v := .tuple #[.agg #[.int .i64 0, .int .i64 n1, .slice none 0 0], .int .i64 0]) (by simp [results, Tryd.results38, go_sem, ((HS.out.res).set (.int .i64 0) (.int .i64 n1) (.slice none 0 0)).c0, ((HS.out.res).set (.int .i64 0) (.int .i64 n1) (.slice none 0 0)).c1, ((HS.out.res).set (.int .i64 0) (.int .i64 n1) (.slice none 0 0)).c2]) rfl ⟨by rw [HFF.out], below_set3 HS.out.bel (Nat.le_refl _)⟩
    · obtain ⟨i, rfl⟩ : ∃ i, j = i + 1 := ⟨j - 1, by omega⟩
      rw [show ((i + 1 : Nat) : Int) - 1 = (i : Int) by omega]
      obtain ⟨d0, d1, d2, -⟩ := HCC.out i (by omega)
      have hi64 := HIN.out i (by omega)
      have x0 : wr.cell? ⟨b, off + i * 3, none⟩ = some (.int .i64 (cAt cs i).1) := (HS.out.bel.cell (p := ⟨b, off + i * 3, none⟩) hbl).trans d0
      have x1 : wr.cell? ⟨b, off + i * 3 + 1, none⟩ = some (.int .i64 (cAt cs i).2.1) := (HS.out.bel.cell (p := ⟨b, off + i * 3 + 1, none⟩) hbl).trans d1
      have x2 : wr.cell? ⟨b, off + i * 3 + 2, none⟩ = some (.slice (ab i) (cAt cs i).2.2.length (cb i)) := (HS.out.bel.cell (p := ⟨b, off + i * 3 + 2, none⟩) hbl).trans d2
      have hstep := frL_step op t cs i (by omega) HS.out.e0
      obtain ⟨V, hV⟩ : ∃ V, tV op t (cAt cs i) (frL op t (cs.drop (i + 1))).1 = V := ⟨_, rfl⟩
      obtain ⟨EE, hE⟩ : ∃ EE, tE op t (cAt cs i) (frL op t (cs.drop (i + 1))).1 = EE := ⟨_, rfl⟩
      rw [hV, hE] at hstep
      have hVin : In64 V := by rw [← hV]; exact tV_in64 hi64 (by rw [HS.out.v1]; exact HS.out.in64)
      have CC : Hid (∀ W, Below wr.heap.size wr W → Calls Tryd.prog 47 #[.int .i64 op, .bool t, .agg #[.int .i64 (cAt cs i).1, .int .i64 (cAt cs i).2.1, .slice (ab i) (cAt cs i).2.2.length (cb i)], .agg #[.int .i64 k1, .int .i64 n1, .slice a0 m0 c0]] W fun e w' => e = .returned (.tuple #[.agg #[.int .i64 0, .int .i64 V, .slice none 0 0], .int .i64 EE]) ∧ Below wr.heap.size wr w' ∧ Below W.heap.size W w') := fun W hW => by
        refine (rof47 op t _ _ _ _ _ _ _ _ _ _ (cAt cs i) (frL op t (cs.drop (i + 1))).1 ⟨rfl, rfl⟩ ⟨HS.out.v0, HS.out.v1⟩ hi64 HS.out.in64 W).mono ?_
        rintro e w' ⟨rfl, hb'⟩
        refine ⟨?_, hW.trans (hb'.mono hW.size), hb'⟩
        rw [← hV, ← hE]
      have hbad : EE ≠ 0 → V = 0 := fun h => by rw [← hV]; exact tV_bad (by rw [hE]; exact h)
      have HFI := hide (And.intro hstep (And.intro hVin hbad))
      clear hstep hVin hbad hV hE hi64 d0 d1 d2
      generalize (cAt cs i).2.2.length = nn at *
      generalize (cAt cs i).2.1 = y1 at *
      generalize (cAt cs i).1 = y0 at *
      have KS : Hid (∀ W, Below wr.heap.size wr W → (Below wr.heap.size wr W ∧ W.cell? ⟨b, off + i * 3, none⟩ = some (.int .i64 y0) ∧ W.cell? ⟨b, off + i * 3 + 1, none⟩ = some (.int .i64 y1) ∧ W.cell? ⟨b, off + i * 3 + 2, none⟩ = some (.slice (ab i) nn (cb i)) ∧ W.cell? ⟨w.heap.size + 1, 0, none⟩ = some (.int .i64 k1) ∧ W.cell? ⟨w.heap.size + 1, 1, none⟩ = some (.int .i64 n1) ∧ W.cell? ⟨w.heap.size + 1, 2, none⟩ = some (.slice a0 m0 c0))) := fun W h =>
        ⟨h, (h.cell (p := ⟨b, off + i * 3, none⟩) (by show b < _; omega)).trans x0, (h.cell (p := ⟨b, off + i * 3 + 1, none⟩) (by show b < _; omega)).trans x1, (h.cell (p := ⟨b, off + i * 3 + 2, none⟩) (by show b < _; omega)).trans x2, (h.cell (p := ⟨w.heap.size + 1, 0, none⟩) hbo).trans q0, (h.cell (p := ⟨w.heap.size + 1, 1, none⟩) hbo).trans q1, (h.cell (p := ⟨w.heap.size + 1, 2, none⟩) hbo).trans q2⟩
      have HD0 : Hid (Below wr.heap.size wr wr.drew) := (Below.refl _ _).drew
      have HD1 : Hid (Below wr.heap.size wr (wr.alloc (.cells #[.int .i64 0, .int .i64 0, .slice none 0 0] 43)).drew) := (one_alloc _ _).drew
      have HD2 : Hid (Below wr.heap.size wr (wr.drew.alloc (.cells #[.int .i64 0, .int .i64 0, .slice none 0 0] 43))) := (Below.refl _ _).drew.alloc (Nat.le_refl _) _
      have HAL : Hid (∀ W o, Below wr.heap.size wr W → Below wr.heap.size wr (W.alloc o)) := fun W o h => h.alloc h.size o
      have HSET : Hid (∀ W b u0 u1 u2, Below wr.heap.size wr W → wr.heap.size ≤ b → Below wr.heap.size wr (((W.setCell ⟨b, 0, none⟩ u0).setCell ⟨b, 1, none⟩ u1).setCell ⟨b, 2, none⟩ u2)) := fun W b u0 u1 u2 h hb => below_set3 h hb
      have HLE : Hid (wr.heap.size ≤ wr.heap.size) := Nat.le_refl _
      have hiz : (i : Int) < (L : Int) := by omega
      clear x0 x1 x2 q0 q1 q2 g0 g1 g2 r0 r1 r2 s0 s1 s2 HCC HIN HN
      go_upto_region 26 with fail
      go_region_held3 (fun W => Below wr.heap.size wr W ∧ W.cell? ⟨b, off + i * 3, none⟩ = some (.int .i64 y0) ∧ W.cell? ⟨b, off + i * 3 + 1, none⟩ = some (.int .i64 y1) ∧ W.cell? ⟨b, off + i * 3 + 2, none⟩ = some (.slice (ab i) nn (cb i)) ∧ W.cell? ⟨w.heap.size + 1, 0, none⟩ = some (.int .i64 k1) ∧ W.cell? ⟨w.heap.size + 1, 1, none⟩ = some (.int .i64 n1) ∧ W.cell? ⟨w.heap.size + 1, 2, none⟩ = some (.slice a0 m0 c0))
        (first | with_reducible exact KS.out _ HD0.out | with_reducible exact KS.out _ HD1.out | with_reducible exact KS.out _ HD2.out | with_reducible exact KS.out _ (by with_reducible assumption) | with_reducible exact KS.out _ (HAL.out _ _ (by with_reducible assumption)) | with_reducible exact KS.out _ (HSET.out _ _ _ _ _ (by with_reducible assumption) HLE.out) | with_reducible exact KS.out _ (HSET.out _ _ _ _ _ (HAL.out _ _ (by with_reducible assumption)) (Below.size (by with_reducible assumption))))
        (first | (go_at_call 47; first | ((with_reducible refine (CC.out _ HD0.out).mono ?_); rintro e w5 ⟨rfl, g5, hb5⟩; obtain ⟨-, n0, n1', n2, n3, n4, n5⟩ := Zc.new w5 (.int .i64 0) (.int .i64 0) (.slice none 0 0)) | ((with_reducible refine (CC.out _ HD1.out).mono ?_); rintro e w5 ⟨rfl, g5, hb5⟩; obtain ⟨-, n0, n1', n2, n3, n4, n5⟩ := (Zc.new wr (.int .i64 0) (.int .i64 0) (.slice none 0 0)).drew.next hb5) | ((with_reducible refine (CC.out _ HD2.out).mono ?_); rintro e w5 ⟨rfl, g5, hb5⟩; obtain ⟨-, n0, n1', n2, n3, n4, n5⟩ := (show Zc (wr.drew.alloc (.cells #[.int .i64 0, .int .i64 0, .slice none 0 0] 43)) wr.heap.size (.int .i64 0) (.int .i64 0) (.slice none 0 0) from Zc.new wr _ _ _).next hb5)))
      all_goals
        first
          | (have ZN := Zc.new w5 (.int .i64 0) (.int .i64 V) (.slice none 0 0)
             obtain ⟨w6, hw6⟩ : ∃ w6, w5.alloc (.cells #[.int .i64 0, .int .i64 V, .slice none 0 0] 43) = w6 := ⟨_, rfl⟩
             have B6 : Below wr.heap.size wr w6 := by rw [← hw6]; exact g5.alloc g5.size _
             have hN := g5.size
             rw [hw6] at ZN ⊢
             clear hw6)
          | (have ZN := Zc.set ⟨by have := g5.size; have := hb5.size; simp at this; omega, n0, n1', n2, n3, n4, n5⟩ (.int .i64 0) (.int .i64 V) (.slice none 0 0)
             obtain ⟨w6, hw6⟩ : ∃ w6, ((w5.setCell ⟨wr.heap.size, 0, none⟩ (.int .i64 0)).setCell ⟨wr.heap.size, 1, none⟩ (.int .i64 V)).setCell ⟨wr.heap.size, 2, none⟩ (.slice none 0 0) = w6 := ⟨_, rfl⟩
             have B6 : Below wr.heap.size wr w6 := by rw [← hw6]; exact below_set3 g5 (Nat.le_refl _)
             have hN := Nat.le_refl wr.heap.size
             rw [hw6] at ZN ⊢
             clear hw6)
        clear g5 hb5 n0 n1' n2 n3 n4 n5 CC KS HD0 HD1 HD2 HAL HSET HLE
        have ZO := HS.out.out.next B6
        have ZR := HS.out.res.next B6
        have B6w := HS.out.bel.trans (B6.mono HS.out.bel.size)
        have c0' := ZN.c0
        have c1' := ZN.c1
        have c2' := ZN.c2
        have q0 := ZO.c0
        have q1 := ZO.c1
        have q2 := ZO.c2
        have g0 := ZO.f0
        have g1 := ZO.f1
        have g2 := ZO.f2
        have r0 := ZR.c0
        have r1 := ZR.c1
        have r2 := ZR.c2
        have s0 := ZR.f0
        have s1 := ZR.f1
        have s2 := ZR.f2
        have hlr := ZR.lt
        have HZ := hide (And.intro ZO (And.intro ZR (And.intro B6 B6w)))
        clear ZN ZO ZR B6 B6w
        by_cases hE0 : EE = 0
        · subst hE0
          go_wp2
          go_roundg i
          case rel => exact ⟨i, 0, V, none, 0, 0, rfl, by go_num, below_set3 HZ.out.2.2.2 (by omega), by omega, by rw [HFI.out.1], by rw [HFI.out.1], by rw [HFI.out.1], HFI.out.2.1, fun _ => ⟨rfl, rfl⟩, HZ.out.1.set _ _ _, HZ.out.2.1.other (by omega) _ _ _⟩
          case measure => omega
        · have gE : (EE == 0) = false := beq_eq_false_iff_ne.2 hE0
          obtain rfl := HFI.out.2.2 hE0
          go_wp2
          have ZF := HZ.out.2.1.set (.int .i64 0) (.int .i64 0) (.slice none 0 0)
          have hst : frL op t cs = ((0, 0, []), EE) := by rw [frL_stop op t cs i (by omega) (by rw [HFI.out.1]; exact hE0), HFI.out.1]
          have hbf := below_set3 (v0 := .int .i64 0) (v1 := .int .i64 0) (v2 := .slice none 0 0) HZ.out.2.2.2 (Nat.le_refl _)
          exact bodyPost_ret (v := .tuple #[.agg #[.int .i64 0, .int .i64 0, .slice none 0 0], .int .i64 EE]) (by simp [results, Tryd.results38, go_sem, ZF.c0, ZF.c1, ZF.c2]) rfl ⟨by rw [hst], hbf⟩
end Go.Proofs.YtlfacpclihmnnaaDoor
namespace Go.Proofs.YtlfacpclihmnnaaDoor
open Go.ChangeShapes Go.WideShapes Go.ChangeAt Go.RowKit
open Num (resV resE In64 sgnI absI)
set_option linter.unusedVariables false
set_option linter.unusedSimpArgs false
set_option maxRecDepth 100000
set_option maxHeartbeats 4000000 in
theorem rrow0 (op : Int) (t : Bool) (a : Option Addr) (cap : Nat) (w : World) :
    Calls Tryd.prog 38 #[.int .i64 op, .bool t, .slice a 0 cap] w fun e w' => e = .returned (.tuple #[.agg #[.int .i64 0, .int .i64 (nonV op), .slice none 0 0], .int .i64 (nonE op)]) ∧ Below w.heap.size w w' := by
  by_cases h1 : op = 21
  · subst h1
    go_enter Tryd.func38, Tryd.ntmps38
    go_wp2
    exact bodyPost_ret (v := .tuple #[.agg #[.int .i64 0, .int .i64 0, .slice none 0 0], .int .i64 0]) (by simp [results, Tryd.results38, go_sem]) rfl ⟨rfl, one_alloc _ _⟩
  by_cases h2 : op = 22
  · subst h2
    clear h1
    go_enter Tryd.func38, Tryd.ntmps38
    go_wp2
    exact bodyPost_ret (v := .tuple #[.agg #[.int .i64 0, .int .i64 0, .slice none 0 0], .int .i64 0]) (by simp [results, Tryd.results38, go_sem]) rfl ⟨rfl, one_alloc _ _⟩
  by_cases h3 : op = 23
  · subst h3
    clear h1 h2
    go_enter Tryd.func38, Tryd.ntmps38
    go_wp2
    exact bodyPost_ret (v := .tuple #[.agg #[.int .i64 0, .int .i64 1, .slice none 0 0], .int .i64 0]) (by simp [results, Tryd.results38, go_sem]) rfl ⟨rfl, one_alloc _ _⟩
  have eV : nonV op = 0 := by unfold nonV; rw [if_neg h3]
  have eE : nonE op = 5 := by unfold nonE; rw [if_neg (by omega)]
  rw [eV, eE]
  have g1 : (op == 21) = false := beq_eq_false_iff_ne.2 h1
  have g2 : (op == 22) = false := beq_eq_false_iff_ne.2 h2
  have g3 : (op == 23) = false := beq_eq_false_iff_ne.2 h3
  clear eV eE h1 h2 h3
  go_enter Tryd.func38, Tryd.ntmps38
  go_wp2
  exact bodyPost_ret (v := .tuple #[.agg #[.int .i64 0, .int .i64 0, .slice none 0 0], .int .i64 5]) (by simp [results, Tryd.results38, go_sem]) rfl ⟨rfl, one_alloc _ _⟩
set_option maxHeartbeats 4000000 in
theorem rrow1 {n lo : Nat} {cs : List Ce} {a : Option Addr} {cap : Nat} {op : Int} {t : Bool} {w0 w : World} (hcO : CellsO n lo w0 w cs a) (h1 : cs.length = 1) :
    Calls Tryd.prog 38 #[.int .i64 op, .bool t, .slice a 1 cap] w fun e w' => GivesF n lo w0 (cAt cs 0, 0) w e w' := by
  obtain ⟨b, off, rfl, -, hbl, hcc⟩ : ∃ b off, a = some ⟨b, off, none⟩ ∧ lo ≤ b ∧ b < w.heap.size ∧ ∀ i, i < cs.length → ∃ v0 v1 v2, w.cell? ⟨b, off + i * 3, none⟩ = some v0 ∧ w.cell? ⟨b, off + i * 3 + 1, none⟩ = some v1 ∧ w.cell? ⟨b, off + i * 3 + 2, none⟩ = some v2 ∧ CeIn (ArIn n lo w0) lo w0 (cAt cs i) v0 v1 v2 := by
    rcases hcO with h | h
    · rw [h] at h1; simp at h1
    · exact h
  obtain ⟨v0, v1, v2, e0, e1, e2, hce⟩ := hcc 0 (by omega)
  obtain ⟨rfl, rfl, ab0, cb0, rfl, -⟩ := id hce
  have HCE := hide hce
  rw [Nat.zero_mul, Nat.add_zero] at e0 e1 e2
  generalize (cAt cs 0).2.2.length = m at *
  generalize (cAt cs 0).2.1 = y1 at *
  generalize (cAt cs 0).1 = y0 at *
  clear hcc hce hcO
  go_enter Tryd.func38, Tryd.ntmps38
  go_wp2
  exact bodyPost_ret (v := .tuple #[.agg #[.int .i64 y0, .int .i64 y1, .slice ab0 m cb0], .int .i64 0]) (by simp [results, Tryd.results38, go_sem]) rfl ⟨⟨_, _, _, rfl, HCE.out⟩, one_alloc _ _⟩
end Go.Proofs.YtlfacpclihmnnaaDoor
namespace Go.Proofs.YtlfacpclihmnnaaDoor
open Go.ChangeShapes Go.WideShapes Go.ChangeAt Go.RowKit
open Num (resV resE In64 sgnI absI)
set_option linter.unusedVariables false
set_option linter.unusedSimpArgs false
set_option maxRecDepth 100000
set_option maxHeartbeats 8000000 in
theorem rrow21 {n lo : Nat} {cs : List Ce} {a : Option Addr} {cap : Nat} {t : Bool} {w : World} (hc : CellsIn n lo w cs a) (hl : cs.length ≤ 16384) (h2 : 2 ≤ cs.length) (hin : ∀ i, i < cs.length → In64 (cAt cs i).2.1) :
    Calls Tryd.prog 38 #[.int .i64 21, .bool t, .slice a cs.length cap] w fun e w' => e = .returned (.tuple #[.agg #[.int .i64 0, .int .i64 (onceR List.sum cs).1.2.1, .slice none 0 0], .int .i64 (onceR List.sum cs).2]) ∧ Below w.heap.size w w' := by
  obtain ⟨i2, hi2, hz20, hz21, hz22⟩ := info2'
  obtain ⟨ab, cb, hcf⟩ := cells_fn hc
  obtain ⟨b, off, rfl, -, hbl, hcc⟩ := hcf (by omega)
  have HCC := hide hcc
  have HIN := hide (preL_in hin)
  have HP : Hid (∀ k, (∀ i, i < k → (cAt cs i).1 = 0) → k ≤ cs.length → (k < cs.length → (cAt cs k).1 ≠ 0) → preN cs = k) := fun k h1 h2 h3 => preN_of h1 h2 h3
  obtain ⟨L, hL⟩ : ∃ L, cs.length = L := ⟨_, rfl⟩
  have HLL := hide hL
  rw [hL] at HCC HP hl h2 ⊢
  have gl0 : ((L : Int) == 0) = false := beq_eq_false_iff_ne.2 (by omega)
  have gl1 : ((L : Int) == 1) = false := beq_eq_false_iff_ne.2 (by omega)
  clear hcf hc hcc hin hL
  have Z0 := hide (Zc.new w (.int .i64 0) (.int .i64 0) (.slice none 0 0))
  have B0 := hide (one_alloc w (.cells #[.int .i64 0, .int .i64 0, .slice none 0 0] 43))
  go_enter Tryd.func38, Tryd.ntmps38
  go_wp2
  go_loopg [9, 10] L (fun g v i wq => ∃ k : Nat, g + k = L ∧ i = .int .i64 (k : Int) ∧ Below w.heap.size w wq ∧ wq.ownsRow (w.heap.size + 1) 2 1 v k ((numK cs k).map (Value.int .i64)) ∧ Zc wq w.heap.size (.int .i64 0) (.int .i64 0) (.slice none 0 0) ∧ ∀ i, i < k → (cAt cs i).1 = 0)
  case atStart => exact ⟨0, rfl, rfl, B0.out, World.ownsRow_nil _ _ _ _, Z0.out, fun i hi => absurd hi (by omega)⟩
  case round =>
    obtain ⟨k, hgk, rfl, hnx, hown, zr, hall⟩ := hrel
    have HALL := hide hall
    clear hall Z0 B0
    have r0 := zr.c0
    have r1 := zr.c1
    have r2 := zr.c2
    have s0 := zr.f0
    have s1 := zr.f1
    have s2 := zr.f2
    by_cases hlk : k < L
    · obtain ⟨c0, c1, c2, -⟩ := HCC.out k hlk
      have d0 : wr.cell? ⟨b, off + k * 3, none⟩ = some (.int .i64 (cAt cs k).1) := (hnx.cell (p := ⟨b, off + k * 3, none⟩) hbl).trans c0
      have d1 : wr.cell? ⟨b, off + k * 3 + 1, none⟩ = some (.int .i64 (cAt cs k).2.1) := (hnx.cell (p := ⟨b, off + k * 3 + 1, none⟩) hbl).trans c1
      have HST := hide (numK_step cs k)
      have HH := hide (And.intro HALL.out (fun h3 => HP.out k HALL.out (by omega : k ≤ L) h3))
      have hkz : (k : Int) < (L : Int) := by omega
      have hbw : b < wr.heap.size := Nat.lt_of_lt_of_le hbl hnx.size
      clear c0 c1 c2 HP HALL HCC
      generalize (cAt cs k).2.1 = z at *
      obtain ⟨kk, hkk⟩ : ∃ kk, (cAt cs k).1 = kk := ⟨_, rfl⟩
      rw [hkk] at d0
      by_cases hk0 : kk = 0
      · subst hk0
        have OWN := hown.alloc (.cells #[.int .i64 z] 2)
        have HNW : Hid (∀ i u, [Value.int .i64 z][i]? = some u → (wr.alloc (.cells #[.int .i64 z] 2)).cell? ((⟨wr.heap.size, 0, none⟩ : Addr).add i) = some u) := by
          intro i u hu
          rw [add_off, Nat.zero_add]
          exact cell_new0 wr _ 2 i u (by simpa using hu)
        have HNX := hide (hnx.trans ((one_alloc wr (.cells #[.int .i64 z] 2)).mono hnx.size))
        have HZZ := hide (show w.heap.size + 1 ≤ (wr.alloc (.cells #[.int .i64 z] 2)).heap.size by have := zr.lt; simp; omega)
        have HKK := hide hkk
        have HZR := hide (zr.next (one_alloc wr (.cells #[.int .i64 z] 2)))
        clear hown hnx hkk zr r0 r1 r2 s0 s1 s2
        go_wp2_with (at_builtin; refine wpList_append_B rfl _ _ 39 rfl (w.heap.size + 1) 2 i2 (.int .i64 0) 1 8 Tryd.underlying39 hi2 hz20 hz21 hz22 rfl (by decide) _ _ _ rfl OWN ⟨wr.heap.size, 0, none⟩ 1 1 [.int .i64 z] rfl rfl HNW.out ?c2 ?c3 ?c4 HZZ.out ?_)
        case c2 =>
          intro u hu
          simp at hu
          subst hu
          rfl
        case c3 => unfold maxLen; omega
        case c4 => omega
        intro v' w1 hown1 hb1
        have hown2 : w1.ownsRow (w.heap.size + 1) 2 1 v' (k + 1) ((numK cs (k + 1)).map (Value.int .i64)) := by rw [HST.out]; simpa using hown1
        have HF := hide (And.intro (HNX.out.trans (hb1.mono (Nat.le_succ _))) (And.intro hown2 (And.intro (HZR.out.below hb1 (Nat.lt_succ_self _)) (fun (i : Nat) (hi : i < k + 1) => (show (cAt cs i).1 = 0 by
          by_cases h : i = k
          · rw [h]; exact HKK.out
          · exact HH.out.1 i (by omega))))))
        clear hown1 hown2 hb1 OWN HNW HZZ HNX HST HH HKK d0 d1 HZR
        go_wp2
        go_roundg (L - (k + 1))
        case rel => exact ⟨k + 1, by omega, by go_num, HF.out⟩
        case measure => omega
      · have hpn : preN cs = k := HH.out.2 (fun _ => by rw [hkk]; exact hk0)
        have HRV : Hid (onceR List.sum cs = ((0, 0, []), 5)) := by unfold Hid onceR; rw [if_pos (by rw [hpn, HLL.out]; exact hlk)]
        have HNX := hide hnx
        have HZR := hide zr
        have g1 : (kk == 0) = false := beq_eq_false_iff_ne.2 hk0
        clear HH HST hown hnx hpn hkk hk0 zr
        go_wp2
        have ZF := HZR.out.set (.int .i64 0) (.int .i64 0) (.slice none 0 0)
        exact bodyPost_ret (v := .tuple #[.agg #[.int .i64 0, .int .i64 0, .slice none 0 0], .int .i64 5]) (by simp [results, Tryd.results38, go_sem, ZF.c0, ZF.c1, ZF.c2]) rfl ⟨by rw [HRV.out], below_set3 HNX.out (Nat.le_refl _)⟩
    · have hke : k = L := by omega
      subst hke
      have hpn : preN cs = k := HP.out k HALL.out (Nat.le_refl _) (fun h => absurd h (by omega))
      obtain ⟨a', cap', rfl, RR⟩ := owns_rowE (numK cs k) (by rw [numK_len]; omega) (by rw [numK_len]; exact hown)
      rw [numK_len]
      have HF : Hid (Row (w.heap.size + 1) wr a' (preL cs)) := by unfold preL; rw [hpn]; exact RR
      have HNX := hide hnx
      have HPN := hide hpn
      have hkz : ¬ ((k : Int) < (k : Int)) := by omega
      clear RR HP HALL hown hnx hpn HCC
      have CS := Num.rsum_any (preL cs) a' cap' wr (HF.out.num HIN.out) (by rw [preL_len, HPN.out]; omega)
      rw [preL_len, HPN.out] at CS
      have HRV : Hid (onceR List.sum cs = ((0, resV (preL cs).sum, []), resE (preL cs).sum)) := by unfold Hid onceR; rw [if_neg (by rw [HPN.out, HLL.out]; omega)]
      generalize resV (preL cs).sum = V at *
      generalize resE (preL cs).sum = E at *
      have HZR := hide zr
      clear zr r0 r1 r2 s0 s1 s2
      go_wp2_with fail
      refine CS.mono ?_
      rintro e w2 ⟨rfl, hb2⟩
      clear CS
      have ZR := HZR.out.next hb2
      have B2 := HNX.out.trans (hb2.mono HNX.out.size)
      have q0 := ZR.c0
      have q1 := ZR.c1
      have q2 := ZR.c2
      have g0 := ZR.f0
      have g1 := ZR.f1
      have g2 := ZR.f2
      have HZ2 := hide (And.intro ZR B2)
      clear ZR B2
      go_wp2
      have ZF := HZ2.out.1.set (.int .i64 0) (.int .i64 V) (.slice none 0 0)
      exact bodyPost_ret (v := .tuple #[.agg #[.int .i64 0, .int .i64 V, .slice none 0 0], .int .i64 E]) (by simp [results, Tryd.results38, go_sem, ZF.c0, ZF.c1, ZF.c2]) rfl ⟨by rw [HRV.out], below_set3 HZ2.out.2 (Nat.le_refl _)⟩
set_option maxHeartbeats 8000000 in
theorem rrow23 {n lo : Nat} {cs : List Ce} {a : Option Addr} {cap : Nat} {t : Bool} {w : World} (hc : CellsIn n lo w cs a) (hl : cs.length ≤ 16384) (h2 : 2 ≤ cs.length) (hin : ∀ i, i < cs.length → In64 (cAt cs i).2.1) :
    Calls Tryd.prog 38 #[.int .i64 23, .bool t, .slice a cs.length cap] w fun e w' => e = .returned (.tuple #[.agg #[.int .i64 0, .int .i64 (onceR Num.prodL cs).1.2.1, .slice none 0 0], .int .i64 (onceR Num.prodL cs).2]) ∧ Below w.heap.size w w' := by
  obtain ⟨i2, hi2, hz20, hz21, hz22⟩ := info2'
  obtain ⟨ab, cb, hcf⟩ := cells_fn hc
  obtain ⟨b, off, rfl, -, hbl, hcc⟩ := hcf (by omega)
  have HCC := hide hcc
  have HIN := hide (preL_in hin)
  have HP : Hid (∀ k, (∀ i, i < k → (cAt cs i).1 = 0) → k ≤ cs.length → (k < cs.length → (cAt cs k).1 ≠ 0) → preN cs = k) := fun k h1 h2 h3 => preN_of h1 h2 h3
  obtain ⟨L, hL⟩ : ∃ L, cs.length = L := ⟨_, rfl⟩
  have HLL := hide hL
  rw [hL] at HCC HP hl h2 ⊢
  have gl0 : ((L : Int) == 0) = false := beq_eq_false_iff_ne.2 (by omega)
  have gl1 : ((L : Int) == 1) = false := beq_eq_false_iff_ne.2 (by omega)
  clear hcf hc hcc hin hL
  have Z0 := hide (Zc.new w (.int .i64 0) (.int .i64 0) (.slice none 0 0))
  have B0 := hide (one_alloc w (.cells #[.int .i64 0, .int .i64 0, .slice none 0 0] 43))
  go_enter Tryd.func38, Tryd.ntmps38
  go_wp2
  go_loopg [9, 10] L (fun g v i wq => ∃ k : Nat, g + k = L ∧ i = .int .i64 (k : Int) ∧ Below w.heap.size w wq ∧ wq.ownsRow (w.heap.size + 1) 2 1 v k ((numK cs k).map (Value.int .i64)) ∧ Zc wq w.heap.size (.int .i64 0) (.int .i64 0) (.slice none 0 0) ∧ ∀ i, i < k → (cAt cs i).1 = 0)
  case atStart => exact ⟨0, rfl, rfl, B0.out, World.ownsRow_nil _ _ _ _, Z0.out, fun i hi => absurd hi (by omega)⟩
  case round =>
    obtain ⟨k, hgk, rfl, hnx, hown, zr, hall⟩ := hrel
    have HALL := hide hall
    clear hall Z0 B0
    have r0 := zr.c0
    have r1 := zr.c1
    have r2 := zr.c2
    have s0 := zr.f0
    have s1 := zr.f1
    have s2 := zr.f2
    by_cases hlk : k < L
    · obtain ⟨c0, c1, c2, -⟩ := HCC.out k hlk
      have d0 : wr.cell? ⟨b, off + k * 3, none⟩ = some (.int .i64 (cAt cs k).1) := (hnx.cell (p := ⟨b, off + k * 3, none⟩) hbl).trans c0
      have d1 : wr.cell? ⟨b, off + k * 3 + 1, none⟩ = some (.int .i64 (cAt cs k).2.1) := (hnx.cell (p := ⟨b, off + k * 3 + 1, none⟩) hbl).trans c1
      have HST := hide (numK_step cs k)
      have HH := hide (And.intro HALL.out (fun h3 => HP.out k HALL.out (by omega : k ≤ L) h3))
      have hkz : (k : Int) < (L : Int) := by omega
      have hbw : b < wr.heap.size := Nat.lt_of_lt_of_le hbl hnx.size
      clear c0 c1 c2 HP HALL HCC
      generalize (cAt cs k).2.1 = z at *
      obtain ⟨kk, hkk⟩ : ∃ kk, (cAt cs k).1 = kk := ⟨_, rfl⟩
      rw [hkk] at d0
      by_cases hk0 : kk = 0
      · subst hk0
        have OWN := hown.alloc (.cells #[.int .i64 z] 2)
        have HNW : Hid (∀ i u, [Value.int .i64 z][i]? = some u → (wr.alloc (.cells #[.int .i64 z] 2)).cell? ((⟨wr.heap.size, 0, none⟩ : Addr).add i) = some u) := by
          intro i u hu
          rw [add_off, Nat.zero_add]
          exact cell_new0 wr _ 2 i u (by simpa using hu)
        have HNX := hide (hnx.trans ((one_alloc wr (.cells #[.int .i64 z] 2)).mono hnx.size))
        have HZZ := hide (show w.heap.size + 1 ≤ (wr.alloc (.cells #[.int .i64 z] 2)).heap.size by have := zr.lt; simp; omega)
        have HKK := hide hkk
        have HZR := hide (zr.next (one_alloc wr (.cells #[.int .i64 z] 2)))
        clear hown hnx hkk zr r0 r1 r2 s0 s1 s2
        go_wp2_with (at_builtin; refine wpList_append_B rfl _ _ 39 rfl (w.heap.size + 1) 2 i2 (.int .i64 0) 1 8 Tryd.underlying39 hi2 hz20 hz21 hz22 rfl (by decide) _ _ _ rfl OWN ⟨wr.heap.size, 0, none⟩ 1 1 [.int .i64 z] rfl rfl HNW.out ?c2 ?c3 ?c4 HZZ.out ?_)
        case c2 =>
          intro u hu
          simp at hu
          subst hu
          rfl
        case c3 => unfold maxLen; omega
        case c4 => omega
        intro v' w1 hown1 hb1
        have hown2 : w1.ownsRow (w.heap.size + 1) 2 1 v' (k + 1) ((numK cs (k + 1)).map (Value.int .i64)) := by rw [HST.out]; simpa using hown1
        have HF := hide (And.intro (HNX.out.trans (hb1.mono (Nat.le_succ _))) (And.intro hown2 (And.intro (HZR.out.below hb1 (Nat.lt_succ_self _)) (fun (i : Nat) (hi : i < k + 1) => (show (cAt cs i).1 = 0 by
          by_cases h : i = k
          · rw [h]; exact HKK.out
          · exact HH.out.1 i (by omega))))))
        clear hown1 hown2 hb1 OWN HNW HZZ HNX HST HH HKK d0 d1 HZR
        go_wp2
        go_roundg (L - (k + 1))
        case rel => exact ⟨k + 1, by omega, by go_num, HF.out⟩
        case measure => omega
      · have hpn : preN cs = k := HH.out.2 (fun _ => by rw [hkk]; exact hk0)
        have HRV : Hid (onceR Num.prodL cs = ((0, 0, []), 5)) := by unfold Hid onceR; rw [if_pos (by rw [hpn, HLL.out]; exact hlk)]
        have HNX := hide hnx
        have HZR := hide zr
        have g1 : (kk == 0) = false := beq_eq_false_iff_ne.2 hk0
        clear HH HST hown hnx hpn hkk hk0 zr
        go_wp2
        have ZF := HZR.out.set (.int .i64 0) (.int .i64 0) (.slice none 0 0)
        exact bodyPost_ret (v := .tuple #[.agg #[.int .i64 0, .int .i64 0, .slice none 0 0], .int .i64 5]) (by simp [results, Tryd.results38, go_sem, ZF.c0, ZF.c1, ZF.c2]) rfl ⟨by rw [HRV.out], below_set3 HNX.out (Nat.le_refl _)⟩
    · have hke : k = L := by omega
      subst hke
      have hpn : preN cs = k := HP.out k HALL.out (Nat.le_refl _) (fun h => absurd h (by omega))
      obtain ⟨a', cap', rfl, RR⟩ := owns_rowE (numK cs k) (by rw [numK_len]; omega) (by rw [numK_len]; exact hown)
      rw [numK_len]
      have HF : Hid (Row (w.heap.size + 1) wr a' (preL cs)) := by unfold preL; rw [hpn]; exact RR
      have HNX := hide hnx
      have HPN := hide hpn
      have hkz : ¬ ((k : Int) < (k : Int)) := by omega
      clear RR HP HALL hown hnx hpn HCC
      have CS := Num.rsum_any (preL cs) a' cap' wr (HF.out.num HIN.out) (by rw [preL_len, HPN.out]; omega)
      have CP : Hid (∀ W, Below wr.heap.size wr W → Calls Tryd.prog 67 #[.slice a' k cap'] W fun e w' => e = .returned (.tuple #[.int .i64 (resV (Num.prodL (preL cs))), .int .i64 (resE (Num.prodL (preL cs)))]) ∧ w' = W) := fun W hW => by
        have := Num.rprod_any (preL cs) a' cap' W ((HF.out.next hW).num HIN.out)
        rw [preL_len, HPN.out] at this
        exact this
      rw [preL_len, HPN.out] at CS
      have HRV : Hid (onceR Num.prodL cs = ((0, resV (Num.prodL (preL cs)), []), resE (Num.prodL (preL cs)))) := by unfold Hid onceR; rw [if_neg (by rw [HPN.out, HLL.out]; omega)]
      generalize resV (Num.prodL (preL cs)) = V at *
      generalize resE (Num.prodL (preL cs)) = E at *
      generalize resV (preL cs).sum = V1 at *
      generalize resE (preL cs).sum = E1 at *
      have HZR := hide zr
      clear zr r0 r1 r2 s0 s1 s2
      go_wp2_with fail
      refine CS.mono ?_
      rintro e w1 ⟨rfl, hb1⟩
      clear CS
      go_wp2_with fail
      refine (CP.out _ hb1).mono ?_
      rintro e w2 ⟨rfl, hw2⟩
      subst hw2
      clear CP
      have ZR := HZR.out.next hb1
      have B2 := HNX.out.trans (hb1.mono HNX.out.size)
      clear hb1
      have q0 := ZR.c0
      have q1 := ZR.c1
      have q2 := ZR.c2
      have g0 := ZR.f0
      have g1 := ZR.f1
      have g2 := ZR.f2
      have HZ2 := hide (And.intro ZR B2)
      clear ZR B2
      go_wp2
      have ZF := HZ2.out.1.set (.int .i64 0) (.int .i64 V) (.slice none 0 0)
      exact bodyPost_ret (v := .tuple #[.agg #[.int .i64 0, .int .i64 V, .slice none 0 0], .int .i64 E]) (by simp [results, Tryd.results38, go_sem, ZF.c0, ZF.c1, ZF.c2]) rfl ⟨by rw [HRV.out], below_set3 HZ2.out.2 (Nat.le_refl _)⟩
end Go.Proofs.YtlfacpclihmnnaaDoor
namespace Go.Proofs.YtlfacpclihmnnaaDoor
open Go.ChangeShapes Go.WideShapes Go.ChangeAt Go.RowKit
open Num (resV resE In64 sgnI absI)
set_option linter.unusedVariables false
set_option linter.unusedSimpArgs false
set_option maxRecDepth 100000
theorem place42 (v : Value) (lg st nx n i : Int) (w : World) (h1 : 0 ≤ n * nx) (h2 : n * nx ≤ 1073741824) (h3 : 0 ≤ i * st) (h4 : i * st ≤ 1073741824) :
    Calls Tryd.prog 42 #[.agg #[v, .int .i64 lg, .int .i64 st, .int .i64 nx], .int .i64 n, .int .i64 i] w fun e w' => e = .returned (.int .i64 (n * nx + i * st)) ∧ Below w.heap.size w w' := by
  go_enter Tryd.func42, Tryd.ntmps42
  go_wp2
  go_ret
  exact ⟨by rfl, one_alloc _ _⟩
/-- The cells of line n: of each place n * nx + i * st one. -/
def lnC (cs : List Ce) (lg st nx n : Nat) : List Ce := mkCs lg fun i => cAt cs (n * nx + i * st)
/-- Cells as a row holds them that gF has filled. -/
theorem cells_gF {n lo O N : Nat} {w wr : World} {T : Nat → Value × Value × Value} {g : Nat → Ce} (hr : wr.rowIs O 43 (N * 3) (gF T N)) (hO : O < wr.heap.size) (hlo : lo ≤ O) (hT : ∀ i, i < N → CeIn (ArIn n lo w) lo w (g i) (T i).1 (T i).2.1 (T i).2.2) : CellsO n lo w wr (mkCs N g) (some ⟨O, 0, none⟩) := by
  refine Or.inr ⟨O, 0, rfl, hlo, hO, fun i hi => ?_⟩
  rw [mkCs_len] at hi
  obtain ⟨g0, g1, g2⟩ := gF_at T N i hi
  rw [Nat.zero_add]
  refine ⟨_, _, _, hr.cell (i := i * 3) (by omega), hr.cell (i := i * 3 + 1) (by omega), hr.cell (i := i * 3 + 2) (by omega), ?_⟩
  rw [g0, g1, g2, mkCs_at _ _ _ hi]
  exact hT i hi
theorem cellsO_fn {n lo : Nat} {w0 w : World} {cs : List Ce} {a2 : Option Addr} (hc : CellsO n lo w0 w cs a2) : ∃ (ab : Nat → Option Addr) (cb : Nat → Nat), 0 < cs.length → ∃ b off, a2 = some ⟨b, off, none⟩ ∧ lo ≤ b ∧ b < w.heap.size ∧ ∀ i, i < cs.length → w.cell? ⟨b, off + i * 3, none⟩ = some (.int .i64 (cAt cs i).1) ∧ w.cell? ⟨b, off + i * 3 + 1, none⟩ = some (.int .i64 (cAt cs i).2.1) ∧ w.cell? ⟨b, off + i * 3 + 2, none⟩ = some (.slice (ab i) (cAt cs i).2.2.length (cb i)) ∧
    CeIn (ArIn n lo w0) lo w0 (cAt cs i) (.int .i64 (cAt cs i).1) (.int .i64 (cAt cs i).2.1) (.slice (ab i) (cAt cs i).2.2.length (cb i)) := by
  rcases hc with rfl | ⟨b, off, ha, hlo, hb, hc⟩
  · exact ⟨fun _ => none, fun _ => 0, fun h => absurd h (by simp)⟩
  · have : ∀ i, ∃ (p : Option Addr × Nat), i < cs.length → w.cell? ⟨b, off + i * 3, none⟩ = some (.int .i64 (cAt cs i).1) ∧ w.cell? ⟨b, off + i * 3 + 1, none⟩ = some (.int .i64 (cAt cs i).2.1) ∧ w.cell? ⟨b, off + i * 3 + 2, none⟩ = some (.slice p.1 (cAt cs i).2.2.length p.2) ∧
        CeIn (ArIn n lo w0) lo w0 (cAt cs i) (.int .i64 (cAt cs i).1) (.int .i64 (cAt cs i).2.1) (.slice p.1 (cAt cs i).2.2.length p.2) := by
      intro i
      by_cases hi : i < cs.length
      · obtain ⟨v0, v1, v2, e0, e1, e2, e3⟩ := hc i hi
        have e4 := e3
        obtain ⟨rfl, rfl, a, cap, rfl, -⟩ := e4
        exact ⟨(a, cap), fun _ => ⟨e0, e1, e2, e3⟩⟩
      · exact ⟨(none, 0), fun h => absurd h hi⟩
    obtain ⟨f, hf⟩ := Classical.axiomOfChoice this
    exact ⟨fun i => (f i).1, fun i => (f i).2, fun _ => ⟨b, off, ha, hlo, hb, fun i hi => hf i hi⟩⟩
set_option maxHeartbeats 8000000 in
theorem line33 {N lo : Nat} {cs : List Ce} {a : Option Addr} {c lg st nx n : Nat} {w0 w : World} (hc : CellsO N lo w0 w cs a) (hlo : lo ≤ w.heap.size) (h16 : cs.length ≤ 16384) (hlg : lg ≤ 16384) (hp : ∀ i, i < lg → n * nx + i * st < cs.length) :
    Calls Tryd.prog 33 #[.agg #[.slice a cs.length c, .int .i64 (lg : Int), .int .i64 (st : Int), .int .i64 (nx : Int)], .int .i64 (n : Int)] w fun e w' => (∃ a' c', e = .returned (.slice a' lg c') ∧ CellsO N lo w0 w' (lnC cs lg st nx n) a') ∧ Below w.heap.size w w' := by
  obtain ⟨ab, cb, hcf⟩ := cellsO_fn hc
  have mk1 := make_cells lg (by omega)
  obtain ⟨L, hL⟩ : ∃ L, cs.length = L := ⟨_, rfl⟩
  obtain ⟨W1, hW1⟩ : ∃ W1, w.alloc (.cells #[.slice a L c, .int .i64 (lg : Int), .int .i64 (st : Int), .int .i64 (nx : Int)] 60) = W1 := ⟨_, rfl⟩
  have z1 : W1.heap.size = w.heap.size + 1 := by rw [← hW1]; simp
  have B1 : Below w.heap.size w W1 := by rw [← hW1]; exact one_alloc _ _
  have p0 : W1.cell? ⟨w.heap.size, 0, none⟩ = some (.slice a L c) := by rw [← hW1]; exact cell_new0 w _ 60 0 _ rfl
  have p1 : W1.cell? ⟨w.heap.size, 1, none⟩ = some (.int .i64 (lg : Int)) := by rw [← hW1]; exact cell_new0 w _ 60 1 _ rfl
  have p2 : W1.cell? ⟨w.heap.size, 2, none⟩ = some (.int .i64 (st : Int)) := by rw [← hW1]; exact cell_new0 w _ 60 2 _ rfl
  have p3 : W1.cell? ⟨w.heap.size, 3, none⟩ = some (.int .i64 (nx : Int)) := by rw [← hW1]; exact cell_new0 w _ 60 3 _ rfl
  obtain ⟨W2, hW2⟩ : ∃ W2, W1.alloc (.cells (madeCells #[.int .i64 0, .int .i64 0, .slice none 0 0] (lg * 3)) 43) = W2 := ⟨_, rfl⟩
  have B2 : Below (w.heap.size + 1) W1 W2 := by rw [← hW2, ← z1]; exact one_alloc _ _
  obtain ⟨T, hT⟩ : ∃ T : Nat → Value × Value × Value, T = fun i => (.int .i64 (cAt cs (n * nx + i * st)).1, .int .i64 (cAt cs (n * nx + i * st)).2.1, .slice (ab (n * nx + i * st)) (cAt cs (n * nx + i * st)).2.2.length (cb (n * nx + i * st))) := ⟨_, rfl⟩
  have R2 : W2.rowIs (w.heap.size + 1) 43 (lg * 3) (gF T 0) := by
    have h := rowIs_made3 W1 (lg * 3)
    rw [hW2, z1] at h
    exact h.congr fun i hi => (gF_zero T i).symm
  have HP := hide (And.intro p0 (And.intro p1 (And.intro p2 p3)))
  have HS := hide (And.intro R2 (And.intro B2 (show w.heap.size + 1 < W2.heap.size by rw [← hW2]; simp; omega)))
  have HB1 := hide B1
  have HCF := hide hcf
  have HPP := hide hp
  have HTT := hide hT
  have HZ1 := hide z1
  rw [hL] at HCF HPP h16 ⊢
  clear hc hcf hp hT R2 B2 B1 p2 p3 z1
  go_enter Tryd.func33, Tryd.ntmps33
  go_wp2
  rw [HZ1.out]
  clear mk1 hW1 hW2 p0 p1
  go_loopg [12] lg (fun g iv wq => ∃ j : Nat, g + j = lg ∧ iv = .int .i64 (j : Int) ∧ wq.rowIs (w.heap.size + 1) 43 (lg * 3) (gF T j) ∧ Below (w.heap.size + 1) W1 wq ∧ w.heap.size + 1 < wq.heap.size)
  case atStart => exact ⟨0, rfl, rfl, HS.out⟩
  case round =>
    obtain ⟨j, hg, rfl, hrC, hbl, hsz⟩ := hrel
    clear HS
    have HBW : Hid (Below w.heap.size w wr) := HB1.out.trans (hbl.mono (by omega))
    by_cases hlt : j < lg
    · have hpj := HPP.out j hlt
      obtain ⟨b, off, rfl, -, hb, hcc⟩ := HCF.out (by omega)
      obtain ⟨d0, d1, d2, -⟩ := hcc _ hpj
      have HTj : Hid (T j = (.int .i64 (cAt cs (n * nx + j * st)).1, .int .i64 (cAt cs (n * nx + j * st)).2.1, .slice (ab (n * nx + j * st)) (cAt cs (n * nx + j * st)).2.2.length (cb (n * nx + j * st)))) := by unfold Hid; rw [HTT.out]
      obtain ⟨b1, b2⟩ : n * nx ≤ 16384 ∧ j * st ≤ 16384 := by omega
      obtain ⟨p, hp⟩ : ∃ p, n * nx + j * st = p := ⟨_, rfl⟩
      have hpz : (n : Int) * (nx : Int) + (j : Int) * (st : Int) = (p : Int) := by rw [← hp]; simp
      rw [hp] at hpj d0 d1 d2 HTj
      have CC : Hid (∀ W, Below wr.heap.size wr W → Calls Tryd.prog 42 #[.agg #[.slice (some ⟨b, off, none⟩) L c, .int .i64 (lg : Int), .int .i64 (st : Int), .int .i64 (nx : Int)], .int .i64 (n : Int), .int .i64 (j : Int)] W fun e w' => e = .returned (.int .i64 (p : Int)) ∧ Below wr.heap.size wr w') := fun W hW => by
        refine (place42 _ _ _ _ _ _ W (by rw [← Int.natCast_mul]; omega) (by rw [← Int.natCast_mul]; omega) (by rw [← Int.natCast_mul]; omega) (by rw [← Int.natCast_mul]; omega)).mono ?_
        rintro e w' ⟨rfl, hb'⟩
        exact ⟨by rw [hpz], hW.trans (hb'.mono hW.size)⟩
      obtain ⟨p0, p1, p2, p3⟩ := HP.out
      have y0 := (hbl.cell (p := ⟨w.heap.size, 0, none⟩) (by show w.heap.size < _; omega)).trans p0
      have y1 := (hbl.cell (p := ⟨w.heap.size, 1, none⟩) (by show w.heap.size < _; omega)).trans p1
      have y2 := (hbl.cell (p := ⟨w.heap.size, 2, none⟩) (by show w.heap.size < _; omega)).trans p2
      have y3 := (hbl.cell (p := ⟨w.heap.size, 3, none⟩) (by show w.heap.size < _; omega)).trans p3
      have x0 := (HBW.out.cell (p := ⟨b, off + p * 3, none⟩) hb).trans d0
      have x1 := (HBW.out.cell (p := ⟨b, off + p * 3 + 1, none⟩) hb).trans d1
      have x2 := (HBW.out.cell (p := ⟨b, off + p * 3 + 2, none⟩) hb).trans d2
      have hbw : b < wr.heap.size := by omega
      clear d0 d1 d2 p0 p1 p2 p3 hcc hp hpz b1 b2
      generalize (cAt cs p).2.2.length = nn at *
      generalize (cAt cs p).2.1 = y1' at *
      generalize (cAt cs p).1 = y0' at *
      generalize ab p = abp at *
      generalize cb p = cbp at *
      have KS : Hid (∀ W, Below wr.heap.size wr W → (W.cell? ⟨w.heap.size, 0, none⟩ = some (.slice (some ⟨b, off, none⟩) L c) ∧ W.cell? ⟨w.heap.size, 1, none⟩ = some (.int .i64 (lg : Int)) ∧ W.cell? ⟨w.heap.size, 2, none⟩ = some (.int .i64 (st : Int)) ∧ W.cell? ⟨w.heap.size, 3, none⟩ = some (.int .i64 (nx : Int)) ∧ W.cell? ⟨b, off + p * 3, none⟩ = some (.int .i64 y0') ∧ W.cell? ⟨b, off + p * 3 + 1, none⟩ = some (.int .i64 y1') ∧ W.cell? ⟨b, off + p * 3 + 2, none⟩ = some (.slice abp nn cbp))) := fun W h =>
        ⟨(h.cell (p := ⟨w.heap.size, 0, none⟩) (by show w.heap.size < _; omega)).trans y0, (h.cell (p := ⟨w.heap.size, 1, none⟩) (by show w.heap.size < _; omega)).trans y1, (h.cell (p := ⟨w.heap.size, 2, none⟩) (by show w.heap.size < _; omega)).trans y2, (h.cell (p := ⟨w.heap.size, 3, none⟩) (by show w.heap.size < _; omega)).trans y3, (h.cell (p := ⟨b, off + p * 3, none⟩) hbw).trans x0, (h.cell (p := ⟨b, off + p * 3 + 1, none⟩) hbw).trans x1, (h.cell (p := ⟨b, off + p * 3 + 2, none⟩) hbw).trans x2⟩
      have KT : Hid (∀ W, Below wr.heap.size wr W → ((((W.setCell ⟨w.heap.size + 1, j * 3, none⟩ (.int .i64 y0')).setCell ⟨w.heap.size + 1, j * 3 + 1, none⟩ (.int .i64 y1')).setCell ⟨w.heap.size + 1, j * 3 + 2, none⟩ (.slice abp nn cbp)).cell? ⟨w.heap.size, 0, none⟩ = some (.slice (some ⟨b, off, none⟩) L c) ∧ (((W.setCell ⟨w.heap.size + 1, j * 3, none⟩ (.int .i64 y0')).setCell ⟨w.heap.size + 1, j * 3 + 1, none⟩ (.int .i64 y1')).setCell ⟨w.heap.size + 1, j * 3 + 2, none⟩ (.slice abp nn cbp)).cell? ⟨w.heap.size, 1, none⟩ = some (.int .i64 (lg : Int)) ∧ (((W.setCell ⟨w.heap.size + 1, j * 3, none⟩ (.int .i64 y0')).setCell ⟨w.heap.size + 1, j * 3 + 1, none⟩ (.int .i64 y1')).setCell ⟨w.heap.size + 1, j * 3 + 2, none⟩ (.slice abp nn cbp)).cell? ⟨w.heap.size, 2, none⟩ = some (.int .i64 (st : Int)) ∧ (((W.setCell ⟨w.heap.size + 1, j * 3, none⟩ (.int .i64 y0')).setCell ⟨w.heap.size + 1, j * 3 + 1, none⟩ (.int .i64 y1')).setCell ⟨w.heap.size + 1, j * 3 + 2, none⟩ (.slice abp nn cbp)).cell? ⟨w.heap.size, 3, none⟩ = some (.int .i64 (nx : Int)) ∧ (((W.setCell ⟨w.heap.size + 1, j * 3, none⟩ (.int .i64 y0')).setCell ⟨w.heap.size + 1, j * 3 + 1, none⟩ (.int .i64 y1')).setCell ⟨w.heap.size + 1, j * 3 + 2, none⟩ (.slice abp nn cbp)).cell? ⟨b, off + p * 3, none⟩ = some (.int .i64 y0') ∧ (((W.setCell ⟨w.heap.size + 1, j * 3, none⟩ (.int .i64 y0')).setCell ⟨w.heap.size + 1, j * 3 + 1, none⟩ (.int .i64 y1')).setCell ⟨w.heap.size + 1, j * 3 + 2, none⟩ (.slice abp nn cbp)).cell? ⟨b, off + p * 3 + 1, none⟩ = some (.int .i64 y1') ∧ (((W.setCell ⟨w.heap.size + 1, j * 3, none⟩ (.int .i64 y0')).setCell ⟨w.heap.size + 1, j * 3 + 1, none⟩ (.int .i64 y1')).setCell ⟨w.heap.size + 1, j * 3 + 2, none⟩ (.slice abp nn cbp)).cell? ⟨b, off + p * 3 + 2, none⟩ = some (.slice abp nn cbp))) := fun W h => by
        have hw := KS.out W h
        have hs : Below (w.heap.size + 1) W (((W.setCell ⟨w.heap.size + 1, j * 3, none⟩ (.int .i64 y0')).setCell ⟨w.heap.size + 1, j * 3 + 1, none⟩ (.int .i64 y1')).setCell ⟨w.heap.size + 1, j * 3 + 2, none⟩ (.slice abp nn cbp)) := ((((Below.refl (w.heap.size + 1) W)).setCell (p := ⟨w.heap.size + 1, j * 3, none⟩) (Nat.le_refl _) _).setCell (p := ⟨w.heap.size + 1, j * 3 + 1, none⟩) (Nat.le_refl _) _).setCell (p := ⟨w.heap.size + 1, j * 3 + 2, none⟩) (Nat.le_refl _) _
        exact ⟨(hs.cell (p := ⟨w.heap.size, 0, none⟩) (by show w.heap.size < _; omega)).trans hw.1, (hs.cell (p := ⟨w.heap.size, 1, none⟩) (by show w.heap.size < _; omega)).trans hw.2.1, (hs.cell (p := ⟨w.heap.size, 2, none⟩) (by show w.heap.size < _; omega)).trans hw.2.2.1, (hs.cell (p := ⟨w.heap.size, 3, none⟩) (by show w.heap.size < _; omega)).trans hw.2.2.2.1, (hs.cell (p := ⟨b, off + p * 3, none⟩) (by show b < _; omega)).trans hw.2.2.2.2.1, (hs.cell (p := ⟨b, off + p * 3 + 1, none⟩) (by show b < _; omega)).trans hw.2.2.2.2.2.1, (hs.cell (p := ⟨b, off + p * 3 + 2, none⟩) (by show b < _; omega)).trans hw.2.2.2.2.2.2⟩
      have HZ : Hid (∀ W, Below wr.heap.size wr W → ((W.cell? ⟨w.heap.size + 1, j * 3, none⟩ = some (gF T j (j * 3)) ∧ W.cell? ⟨w.heap.size + 1, j * 3 + 1, none⟩ = some (gF T j (j * 3 + 1)) ∧ W.cell? ⟨w.heap.size + 1, j * 3 + 2, none⟩ = some (gF T j (j * 3 + 2))) ∧ W.frozen? ⟨w.heap.size + 1, j * 3, none⟩ = false ∧ W.frozen? ⟨w.heap.size + 1, j * 3 + 1, none⟩ = false ∧ W.frozen? ⟨w.heap.size + 1, j * 3 + 2, none⟩ = false)) := fun W h =>
        ⟨⟨(h.cell (p := ⟨w.heap.size + 1, j * 3, none⟩) hsz).trans (hrC.cell (i := j * 3) (by omega)), (h.cell (p := ⟨w.heap.size + 1, j * 3 + 1, none⟩) hsz).trans (hrC.cell (i := j * 3 + 1) (by omega)), (h.cell (p := ⟨w.heap.size + 1, j * 3 + 2, none⟩) hsz).trans (hrC.cell (i := j * 3 + 2) (by omega))⟩, (h.frozen (p := ⟨w.heap.size + 1, j * 3, none⟩) hsz).trans (hrC.frozen (j * 3)), (h.frozen (p := ⟨w.heap.size + 1, j * 3 + 1, none⟩) hsz).trans (hrC.frozen (j * 3 + 1)), (h.frozen (p := ⟨w.heap.size + 1, j * 3 + 2, none⟩) hsz).trans (hrC.frozen (j * 3 + 2))⟩
      have HF : Hid (∀ W, Below wr.heap.size wr W → ((((W.setCell ⟨w.heap.size + 1, j * 3, none⟩ (.int .i64 y0')).setCell ⟨w.heap.size + 1, j * 3 + 1, none⟩ (.int .i64 y1')).setCell ⟨w.heap.size + 1, j * 3 + 2, none⟩ (.slice abp nn cbp)).rowIs (w.heap.size + 1) 43 (lg * 3) (gF T (j + 1)) ∧ Below (w.heap.size + 1) W1 (((W.setCell ⟨w.heap.size + 1, j * 3, none⟩ (.int .i64 y0')).setCell ⟨w.heap.size + 1, j * 3 + 1, none⟩ (.int .i64 y1')).setCell ⟨w.heap.size + 1, j * 3 + 2, none⟩ (.slice abp nn cbp)) ∧ w.heap.size + 1 < (((W.setCell ⟨w.heap.size + 1, j * 3, none⟩ (.int .i64 y0')).setCell ⟨w.heap.size + 1, j * 3 + 1, none⟩ (.int .i64 y1')).setCell ⟨w.heap.size + 1, j * 3 + 2, none⟩ (.slice abp nn cbp)).heap.size)) := fun W h => by
        have hr' : W.rowIs (w.heap.size + 1) 43 (lg * 3) (gF T j) := hrC.of_block (h.block _ hsz)
        refine ⟨(((hr'.set (j * 3) (.int .i64 y0')).set (j * 3 + 1) (.int .i64 y1')).set (j * 3 + 2) (.slice abp nn cbp)).congr (g := gF T (j + 1)) (fun i _ => by rw [gF_step T j i, HTj.out]), ?_, by have := h.size; simp; omega⟩
        exact (((hbl.trans (h.mono (by omega))).setCell (p := ⟨w.heap.size + 1, j * 3, none⟩) (Nat.le_refl _) _).setCell (p := ⟨w.heap.size + 1, j * 3 + 1, none⟩) (Nat.le_refl _) _).setCell (p := ⟨w.heap.size + 1, j * 3 + 2, none⟩) (Nat.le_refl _) _
      have HD0 : Hid (Below wr.heap.size wr wr.drew) := (Below.refl _ _).drew
      have hjz : (j : Int) < (lg : Int) := by omega
      have hpz : (p : Int) < (L : Int) := by omega
      clear x0 x1 x2 y0 y1 y2 y3 hrC hbl HCF HPP HTT HTj HP HBW
      generalize gF T j (j * 3) = g0 at *
      generalize gF T j (j * 3 + 1) = g1 at *
      generalize gF T j (j * 3 + 2) = g2 at *
      go_upto_region 5 with fail
      go_region_held3 (fun W => W.cell? ⟨w.heap.size, 0, none⟩ = some (.slice (some ⟨b, off, none⟩) L c) ∧ W.cell? ⟨w.heap.size, 1, none⟩ = some (.int .i64 (lg : Int)) ∧ W.cell? ⟨w.heap.size, 2, none⟩ = some (.int .i64 (st : Int)) ∧ W.cell? ⟨w.heap.size, 3, none⟩ = some (.int .i64 (nx : Int)) ∧ W.cell? ⟨b, off + p * 3, none⟩ = some (.int .i64 y0') ∧ W.cell? ⟨b, off + p * 3 + 1, none⟩ = some (.int .i64 y1') ∧ W.cell? ⟨b, off + p * 3 + 2, none⟩ = some (.slice abp nn cbp))
        (first | with_reducible exact KS.out _ HD0.out | with_reducible exact KS.out _ (by with_reducible assumption) | with_reducible exact KT.out _ (by with_reducible assumption))
        (first | (go_at_call 42; (with_reducible refine (CC.out _ HD0.out).mono ?_); rintro e w5 ⟨rfl, g5⟩; obtain ⟨⟨n0, n1, n2⟩, n3, n4, n5⟩ := HZ.out w5 g5))
      all_goals
        have HFF := hide (HF.out w5 g5)
        clear HF HZ KS KT CC HD0 n0 n1 n2 n3 n4 n5 g5
        go_wp2
        go_roundg (lg - (j + 1))
        case rel => exact ⟨j + 1, by omega, by go_num, HFF.out⟩
        case measure => omega
    · have hje : j = lg := by omega
      subst hje
      have HFIN : Hid (CellsO N lo w0 wr (lnC cs j st nx n) (some ⟨w.heap.size + 1, 0, none⟩)) := by
        refine cells_gF hrC hsz (by omega) fun i hi => ?_
        obtain ⟨b, off, -, -, hb, hcc⟩ := HCF.out (by have := HPP.out i hi; omega)
        rw [HTT.out]
        exact (hcc _ (HPP.out i hi)).2.2.2
      clear hrC hbl HCF HPP HTT HP
      go_wp2
      go_ret
      exact ⟨⟨_, _, rfl, HFIN.out⟩, HBW.out⟩
end Go.Proofs.YtlfacpclihmnnaaDoor
