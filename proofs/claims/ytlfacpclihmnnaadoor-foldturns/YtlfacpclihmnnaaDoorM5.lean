/-
  Layer 8: a line folded as far as each, by the cell ahead (onward).
  Layer 8: a line folded as far as each, by numbers from the right each time (anew).
  Layer 8: a line folded as far as each, by what the cells ahead make of a 0 and of a 1 (truths).
  Layer 8: a line of cells folded as far as each (scanned).
  Layer 8: where the lines of an array lie, as mathematics: each of their cells is one of the array's.
-/
import Derived.Test.YtlfacpclihmnnaaDoorM4
import Derived.WalkKit
import Derived.Test.YtlfacpclihmnnaaDoorChecked
import GoSem.Claim
import GoSem.ClaimJoined
import GoSem.ClaimMapViews
import Derived.JoinedTies
import Derived.KernelRfl
import Derived.ProofKit
import Derived.Below
import Derived.Deep.OwnRows
import Derived.Deep.QuietTactic
import Derived.BigQuiet
import Derived.Deep.RegionWith
import Derived.Laws.MakeOwn
import Derived.Deep.RegionHeld3
import Derived.OpenShut
import Derived.Lib.Mul64
import Derived.Laws.Bits64b
import Derived.ChangeOld
import Derived.SizedLaws
import Derived.Deep.Slices
import Derived.Deep.Strs
import Derived.Deep.LoopGhost
import Derived.Laws.IdiomCopy
import Derived.Deep.Cut
import Derived.Deep.RegionLaw
import Derived.Laws.AppendOwnNone
import Derived.BigFrame
import Derived.Laws.OwnMore
import Derived.OwnWalk
import Derived.Lib.SliceRun
import Derived.Deep.CutRange
import Derived.Laws.EntriesVeiled
import GoSem.ClaimSeven
import Derived.LaidByTextLater
import Derived.SevenTiedAt
import Derived.LaidSub
import Derived.LaidOnce
import Derived.Deep.DeepHandedRow
import Derived.Lib.LaidTab
namespace Go.Proofs.YtlfacpclihmnnaaDoor
open Go.ChangeShapes Go.WideShapes Go.ChangeAt Go.RowKit
open Num (resV resE In64 sgnI absI)
set_option linter.unusedVariables false
set_option linter.unusedSimpArgs false
set_option maxRecDepth 100000
/-- What comes of a line, cell by cell, or the first error. -/
def GivesN (n lo : Nat) (w0 : World) (L : Nat) (G : Nat → Ce × Int) (w : World) (e : Ending) (w' : World) : Prop :=
  (firstUp (fun i => (G i).2) L = 0 → ∃ g c', e = .returned (.tuple #[.slice (some ⟨g, 0, none⟩) L c', .int .i64 0]) ∧ CellsO n lo w0 w' (mkCs L fun i => (G i).1) (some ⟨g, 0, none⟩)) ∧
  (firstUp (fun i => (G i).2) L ≠ 0 → e = .returned (.tuple #[.slice none 0 0, .int .i64 (firstUp (fun i => (G i).2) L)])) ∧ Below w.heap.size w w'
/-- Where a scan stands: the first j + 1 cells are done. -/
structure ScS (n lo L g : Nat) (w0 w : World) (G : Nat → Ce × Int) (T : Nat → Value × Value × Value) (j : Nat) (W : World) : Prop where
  row : RowT W g L T
  bel : Below w.heap.size w W
  ge : w.heap.size ≤ g
  e0 : firstUp (fun i => (G i).2) (j + 1) = 0
  ce : ∀ i, i < j + 1 → CeIn (ArIn n lo w0) lo w0 (G i).1 (T i).1 (T i).2.1 (T i).2.2
  inj : In64 (G j).1.2.1
theorem ScS.next {n lo L g : Nat} {w0 w W W' : World} {G : Nat → Ce × Int} {T : Nat → Value × Value × Value} {j : Nat} (h : ScS n lo L g w0 w G T j W) (hb : Below W.heap.size W W') : ScS n lo L g w0 w G T j W' :=
  ⟨h.row.next hb, h.bel.trans (hb.mono h.bel.size), h.ge, h.e0, h.ce, h.inj⟩
theorem ScS.put {n lo L g : Nat} {w0 w W : World} {G : Nat → Ce × Int} {T : Nat → Value × Value × Value} {j : Nat} {v0 v1 v2 : Value} (h : ScS n lo L g w0 w G T j W) (hj : j + 1 < L) (hG : (G (j + 1)).2 = 0) (hI : In64 (G (j + 1)).1.2.1) (hce : CeIn (ArIn n lo w0) lo w0 (G (j + 1)).1 v0 v1 v2) :
    ScS n lo L g w0 w G (setT T (j + 1) (v0, v1, v2)) (j + 1) (((W.setCell ⟨g, (j + 1) * 3, none⟩ v0).setCell ⟨g, (j + 1) * 3 + 1, none⟩ v1).setCell ⟨g, (j + 1) * 3 + 2, none⟩ v2) := by
  refine ⟨h.row.put hj v0 v1 v2, below_put h.bel h.ge, h.ge, by rw [firstUp_step h.e0]; exact hG, fun i hi => ?_, hI⟩
  unfold setT
  by_cases e : i = j + 1
  · rw [if_pos e, e]; exact hce
  · rw [if_neg e]; exact h.ce i (by omega)
theorem ScS.end {n lo L g c' : Nat} {w0 w W : World} {G : Nat → Ce × Int} {T : Nat → Value × Value × Value} {j : Nat} (h : ScS n lo L g w0 w G T j W) (hj : j + 1 = L) (hlo : lo ≤ w.heap.size) : GivesN n lo w0 L G w (.returned (.tuple #[.slice (some ⟨g, 0, none⟩) L c', .int .i64 0])) W := by
  subst hj
  exact ⟨fun _ => ⟨g, c', rfl, h.row.cells (Nat.le_trans hlo h.ge) h.ce⟩, fun k => absurd h.e0 k, h.bel⟩
theorem ScS.err {n lo L g : Nat} {w0 w W W' : World} {G : Nat → Ce × Int} {T : Nat → Value × Value × Value} {j : Nat} {E : Int} (h : ScS n lo L g w0 w G T j W) (hj : j + 1 < L) (hG : (G (j + 1)).2 = E) (hE : E ≠ 0) (hb : Below w.heap.size w W') : GivesN n lo w0 L G w (.returned (.tuple #[.slice none 0 0, .int .i64 E])) W' := by
  have h1 : firstUp (fun i => (G i).2) L = E := by rw [firstUp_hit h.e0 (by show (G (j + 1)).2 ≠ 0; rw [hG]; exact hE) L hj]; exact hG
  exact ⟨fun k => absurd (h1.symm.trans k) hE, fun _ => by rw [h1], hb⟩
set_option maxHeartbeats 8000000 in
theorem onward74 {n lo L cap : Nat} {cs : List Ce} {a : Option Addr} {op : Int} {w0 w : World} (ho : op = 21 ∨ op = 23 ∨ op = 24 ∨ op = 25) (hc : CellsO n lo w0 w cs a) (hL : cs.length = L) (h1 : 0 < L) (h16 : L ≤ 16384) (hlo : lo ≤ w.heap.size) (hin : ∀ i, i < L → In64 (cAt cs i).2.1) (T : Tab w) :
    Calls Tryd.prog 68 #[.slice a L cap, .func (.func 74) #[.agg #[.int .i64 op, .bool false]] #[]] w fun e w' => GivesN n lo w0 L (rowP op false cs) w e w' := by
  have CL := clone86 (cap := cap) hc hL h1 h16
  obtain ⟨ab, cb, hcf⟩ := cellsO_fn hc
  obtain ⟨b, off, rfl, -, hbl, hcc⟩ := hcf (by omega)
  have HCC := hide hcc
  have HIN := hide hin
  have HSP : Hid (∀ j, j + 1 < L → (rowP op false cs j).2 = 0 → rowP op false cs (j + 1) = ((0, tV op false (rowP op false cs j).1 (cAt cs (j + 1)), []), tE op false (rowP op false cs j).1 (cAt cs (j + 1)))) := fun j hj h => onward_step false ho cs j (by omega) h
  have HP0 := hide (rowP_zero op false cs (by omega))
  have HT := hide (fun (W : World) (hb : Below w.heap.size w W) => T.next hb)
  obtain ⟨G, hG⟩ : ∃ G, rowP op false cs = G := ⟨_, rfl⟩
  rw [hG] at HSP HP0 ⊢
  clear hcf hc hcc hin T hG
  go_enter Tryd.func68, Tryd.ntmps68
  go_wp2_with fail
  refine CL.mono ?_
  rintro e w1 ⟨⟨g, c', ab', cb', rfl, hge, hrow, hce⟩, hb1⟩
  clear CL
  have S0 : ScS n lo L g w0 w G (cellT cs ab' cb') 0 w1 := ⟨hrow, hb1, hge, by rw [firstUp_step rfl, HP0.out], fun i hi => by
    have : i = 0 := by omega
    subst this
    rw [HP0.out]
    exact hce 0 h1, by rw [HP0.out]; exact HIN.out 0 h1⟩
  have HS0 := hide S0
  clear hrow hb1 hge hce S0
  go_wp2
  go_loopg [7] (L - 1) (fun gg iv wq => ∃ (j K : Nat) (T : Nat → Value × Value × Value), gg + K = L ∧ iv = .int .i64 (K : Int) ∧ j + 1 = K ∧ ScS n lo L g w0 w G T j wq)
  case atStart => exact ⟨0, 1, _, by omega, rfl, rfl, HS0.out⟩
  case round =>
  clear HS0
  obtain ⟨j, K, T, hg, rfl, hjK, S⟩ := hrel
  by_cases hlt : ¬ K < L
  · have hte : j + 1 = L := by omega
    have HF := hide (S.end (c' := c') hte hlo)
    have hz : ¬ ((K : Int) < (L : Int)) := by omega
    clear S hjK hte HCC HIN HSP HP0 HT
    go_wp2
    exact bodyPost_ret (v := .tuple #[.slice (some ⟨g, 0, none⟩) L c', .int .i64 0]) (by simp [results, Tryd.results68, go_sem]) rfl HF.out
  have hlt := Classical.not_not.1 hlt
  have hz : (K : Int) < (L : Int) := by omega
  have hj0 : (0 : Int) ≤ (j : Int) := by omega
  have hjL : (j : Int) < (L : Int) := by omega
  have hK0 : (0 : Int) ≤ (K : Int) := by omega
  have hwr : IntKind.i64.wrap ((K : Int) - 1) = (j : Int) := by rw [IntWalk.i64_in _ ⟨by omega, by omega⟩]; omega
  rw [← hjK] at hlt
  obtain ⟨e0, e1, e2, -⟩ := HCC.out (j + 1) (by omega)
  have HJK := hide hjK
  rw [hjK] at e0 e1 e2
  have x0 := (S.bel.cell (p := ⟨b, off + K * 3, none⟩) hbl).trans e0
  have x1 := (S.bel.cell (p := ⟨b, off + K * 3 + 1, none⟩) hbl).trans e1
  have x2 := (S.bel.cell (p := ⟨b, off + K * 3 + 2, none⟩) hbl).trans e2
  have hcej := S.ce j (by omega)
  obtain ⟨t0, t1, aj, cj, t2, -⟩ := id hcej
  have y0 := S.row.c0 j (by omega)
  have y1 := S.row.c1 j (by omega)
  have y2 := S.row.c2 j (by omega)
  rw [t0] at y0
  rw [t1] at y1
  rw [t2] at y2
  have hfj : (G j).2 = 0 := by have := S.e0; by_cases h : firstUp (fun i => (G i).2) j = 0; rw [firstUp_step h] at this; exact this; rw [firstUp_stays h (j + 1) (by omega)] at this; exact absurd this h
  have hst := HSP.out j hlt hfj
  have CC0 := fun W TW => two74 op false _ _ _ _ aj (ab (j + 1)) (G j).1.2.2.length cj (cAt cs (j + 1)).2.2.length (cb (j + 1)) (G j).1 (cAt cs (j + 1)) ⟨rfl, rfl⟩ ⟨rfl, rfl⟩ S.inj (HIN.out (j + 1) hlt) W TW
  have hV : tV op false (G j).1 (cAt cs (j + 1)) = c2V op (G j).1 (cAt cs (j + 1)) := rfl
  have hE : tE op false (G j).1 (cAt cs (j + 1)) = c2E op (G j).1 (cAt cs (j + 1)) := rfl
  have hVin : In64 (tV op false (G j).1 (cAt cs (j + 1))) := tV_in64 S.inj (HIN.out (j + 1) hlt)
  rw [← hV, ← hE] at CC0
  clear hV hE
  generalize tV op false (G j).1 (cAt cs (j + 1)) = V at *
  generalize tE op false (G j).1 (cAt cs (j + 1)) = EE at *
  clear hcej t0 t1 t2 hfj
  generalize (G j).1.1 = k1 at *
  generalize hn1 : (G j).1.2.1 = n1 at y1 CC0
  generalize (G j).1.2.2.length = m1 at *
  rw [hjK] at CC0
  generalize (cAt cs K).1 = k2 at *
  generalize (cAt cs K).2.1 = n2 at *
  generalize (cAt cs K).2.2.length = m2 at *
  generalize aj = a1 at *
  generalize ab K = a2 at *
  generalize cj = d1 at *
  generalize cb K = d2 at *
  have CC : Hid (∀ W, Below wr.heap.size wr W → Calls Tryd.prog 74 #[.agg #[.int .i64 op, .bool false], .agg #[.int .i64 k1, .int .i64 n1, .slice a1 m1 d1], .agg #[.int .i64 k2, .int .i64 n2, .slice a2 m2 d2]] W fun e w' => e = .returned (.tuple #[.agg #[.int .i64 0, .int .i64 V, .slice none 0 0], .int .i64 EE]) ∧ Below wr.heap.size wr w' ∧ Below W.heap.size W w') := fun W hW => by
    refine (CC0 W (HT.out W (S.bel.trans (hW.mono S.bel.size)))).mono ?_
    rintro e w' ⟨rfl, hb'⟩
    exact ⟨rfl, hW.trans (hb'.mono hW.size), hb'⟩
  have hbw : b < wr.heap.size := Nat.lt_of_lt_of_le hbl S.bel.size
  have hgw := S.row.lt
  have KS : Hid (∀ W, Below wr.heap.size wr W → (Below wr.heap.size wr W ∧ W.cell? ⟨g, j * 3, none⟩ = some (.int .i64 k1) ∧ W.cell? ⟨g, j * 3 + 1, none⟩ = some (.int .i64 n1) ∧ W.cell? ⟨g, j * 3 + 2, none⟩ = some (.slice a1 m1 d1) ∧ W.cell? ⟨b, off + K * 3, none⟩ = some (.int .i64 k2) ∧ W.cell? ⟨b, off + K * 3 + 1, none⟩ = some (.int .i64 n2) ∧ W.cell? ⟨b, off + K * 3 + 2, none⟩ = some (.slice a2 m2 d2))) := fun W h =>
    ⟨h, (h.cell (p := ⟨g, j * 3, none⟩) hgw).trans y0, (h.cell (p := ⟨g, j * 3 + 1, none⟩) hgw).trans y1, (h.cell (p := ⟨g, j * 3 + 2, none⟩) hgw).trans y2, (h.cell (p := ⟨b, off + K * 3, none⟩) hbw).trans x0, (h.cell (p := ⟨b, off + K * 3 + 1, none⟩) hbw).trans x1, (h.cell (p := ⟨b, off + K * 3 + 2, none⟩) hbw).trans x2⟩
  have HD0 : Hid (Below wr.heap.size wr wr.drew) := (Below.refl _ _).drew
  have HD1 : Hid (Below wr.heap.size wr (wr.alloc (.cells #[.int .i64 0, .int .i64 0, .slice none 0 0] 43)).drew) := (one_alloc _ _).drew
  have HAL : Hid (∀ W o, Below wr.heap.size wr W → Below wr.heap.size wr (W.alloc o)) := fun W o h => h.alloc h.size o
  have HSET : Hid (∀ W b u0 u1 u2, Below wr.heap.size wr W → wr.heap.size ≤ b → Below wr.heap.size wr (((W.setCell ⟨b, 0, none⟩ u0).setCell ⟨b, 1, none⟩ u1).setCell ⟨b, 2, none⟩ u2)) := fun W b u0 u1 u2 h hb => below_set3 h hb
  have HLE : Hid (wr.heap.size ≤ wr.heap.size) := Nat.le_refl _
  have HS := hide (And.intro S (And.intro hst hVin))
  have HLT := hide hlt
  clear hlt hjK S hst hVin x0 x1 x2 y0 y1 y2 e0 e1 e2 CC0 hn1 HIN HCC HSP HP0 HT hbw hgw
  go_upto_region 5 with fail
  go_region_held3 (fun W => Below wr.heap.size wr W ∧ W.cell? ⟨g, j * 3, none⟩ = some (.int .i64 k1) ∧ W.cell? ⟨g, j * 3 + 1, none⟩ = some (.int .i64 n1) ∧ W.cell? ⟨g, j * 3 + 2, none⟩ = some (.slice a1 m1 d1) ∧ W.cell? ⟨b, off + K * 3, none⟩ = some (.int .i64 k2) ∧ W.cell? ⟨b, off + K * 3 + 1, none⟩ = some (.int .i64 n2) ∧ W.cell? ⟨b, off + K * 3 + 2, none⟩ = some (.slice a2 m2 d2))
    (first | with_reducible exact KS.out _ HD0.out | with_reducible exact KS.out _ HD1.out | with_reducible exact KS.out _ (by with_reducible assumption) | with_reducible exact KS.out _ (HAL.out _ _ (by with_reducible assumption)) | with_reducible exact KS.out _ (HSET.out _ _ _ _ _ (by with_reducible assumption) HLE.out))
    (first | (go_at_call 74; first | ((with_reducible refine (CC.out _ HD0.out).mono ?_); rintro e wb ⟨rfl, gb, hbb⟩; obtain ⟨-, n0', n1', n2', n3, n4, n5⟩ := Zc.new wb (.int .i64 0) (.int .i64 0) (.slice none 0 0)) | ((with_reducible refine (CC.out _ HD1.out).mono ?_); rintro e wb ⟨rfl, gb, hbb⟩; have ZB := (Zc.new wr (.int .i64 0) (.int .i64 0) (.slice none 0 0)).drew.next hbb; obtain ⟨-, n0', n1', n2', n3, n4, n5⟩ := (Zc.new wr (.int .i64 0) (.int .i64 0) (.slice none 0 0)).drew.next hbb)))
  all_goals
    first
      | (have ZN := ZB.set (.int .i64 0) (.int .i64 V) (.slice none 0 0)
         obtain ⟨wc, hwc⟩ : ∃ wc, ((wb.setCell ⟨wr.heap.size, 0, none⟩ (.int .i64 0)).setCell ⟨wr.heap.size, 1, none⟩ (.int .i64 V)).setCell ⟨wr.heap.size, 2, none⟩ (.slice none 0 0) = wc := ⟨_, rfl⟩
         have Bw : Below wr.heap.size wr wc := by rw [← hwc]; exact below_set3 gb (Nat.le_refl _)
         rw [hwc] at ZN ⊢
         clear hwc ZB)
      | (have ZN := Zc.new wb (.int .i64 0) (.int .i64 V) (.slice none 0 0)
         obtain ⟨wc, hwc⟩ : ∃ wc, wb.alloc (.cells #[.int .i64 0, .int .i64 V, .slice none 0 0] 43) = wc := ⟨_, rfl⟩
         have Bw : Below wr.heap.size wr wc := by rw [← hwc]; exact gb.alloc gb.size _
         rw [hwc] at ZN ⊢
         clear hwc)
    have c0' := ZN.c0
    have c1' := ZN.c1
    have c2' := ZN.c2
    have SW := HS.out.1.next Bw
    have z0 := SW.row.c0 (j + 1) HLT.out
    have z1 := SW.row.c1 (j + 1) HLT.out
    have z2 := SW.row.c2 (j + 1) HLT.out
    rw [HJK.out] at z0 z1 z2
    have y0 := SW.row.f (K * 3)
    have y1 := SW.row.f (K * 3 + 1)
    have y2 := SW.row.f (K * 3 + 2)
    have HSW := hide SW
    clear ZN gb hbb n0' n1' n2' n3 n4 n5 CC KS HD0 HD1 HAL HSET HLE Bw SW
    generalize (T K).1 = o0 at *
    generalize (T K).2.1 = o1 at *
    generalize (T K).2.2 = o2 at *
    by_cases hE0 : EE = 0
    · subst hE0
      have HN := hide (HSW.out.put HLT.out (by rw [HS.out.2.1]) (by rw [HS.out.2.1]; exact HS.out.2.2) (by rw [HS.out.2.1]; exact ce_num _ _ _ V))
      rw [HJK.out] at HN
      have HG := hide (show L - 1 - K + (K + 1) = L ∧ L - 1 - K < L - 1 - j by have := HLT.out; have := HJK.out; omega)
      clear HSW HS
      go_wp2
      go_roundg (L - 1 - K)
      case rel => exact ⟨K, K + 1, _, HG.out.1, by go_num, rfl, HN.out⟩
      case measure => have := HG.out.2; have := HJK.out; omega
    · have gE : (EE == 0) = false := beq_eq_false_iff_ne.2 hE0
      have HF : Hid (GivesN n lo w0 L G w (.returned (.tuple #[.slice none 0 0, .int .i64 EE])) wc) := HSW.out.err HLT.out (by rw [HS.out.2.1]) hE0 HSW.out.bel
      clear HSW HS
      go_wp2
      exact bodyPost_ret (v := .tuple #[.slice none 0 0, .int .i64 EE]) (by simp [results, Tryd.results68, go_sem]) rfl HF.out
set_option maxHeartbeats 8000000 in
theorem onward73 {n lo L cap : Nat} {cs : List Ce} {a : Option Addr} {op : Int} {w0 w : World} (ho : op = 21 ∨ op = 23 ∨ op = 24 ∨ op = 25) (hc : CellsO n lo w0 w cs a) (hL : cs.length = L) (h1 : 0 < L) (h16 : L ≤ 16384) (hlo : lo ≤ w.heap.size) (hin : ∀ i, i < L → In64 (cAt cs i).2.1) (T : Tab w) :
    Calls Tryd.prog 68 #[.slice a L cap, .func (.func 73) #[.agg #[.int .i64 op, .bool true]] #[]] w fun e w' => GivesN n lo w0 L (rowP op true cs) w e w' := by
  have CL := clone86 (cap := cap) hc hL h1 h16
  obtain ⟨ab, cb, hcf⟩ := cellsO_fn hc
  obtain ⟨b, off, rfl, -, hbl, hcc⟩ := hcf (by omega)
  have HCC := hide hcc
  have HIN := hide hin
  have HSP : Hid (∀ j, j + 1 < L → (rowP op true cs j).2 = 0 → rowP op true cs (j + 1) = ((0, tV op true (rowP op true cs j).1 (cAt cs (j + 1)), []), tE op true (rowP op true cs j).1 (cAt cs (j + 1)))) := fun j hj h => onward_step true ho cs j (by omega) h
  have HP0 := hide (rowP_zero op true cs (by omega))
  have HT := hide (fun (W : World) (hb : Below w.heap.size w W) => T.next hb)
  obtain ⟨G, hG⟩ : ∃ G, rowP op true cs = G := ⟨_, rfl⟩
  rw [hG] at HSP HP0 ⊢
  clear hcf hc hcc hin T hG
  go_enter Tryd.func68, Tryd.ntmps68
  go_wp2_with fail
  refine CL.mono ?_
  rintro e w1 ⟨⟨g, c', ab', cb', rfl, hge, hrow, hce⟩, hb1⟩
  clear CL
  have S0 : ScS n lo L g w0 w G (cellT cs ab' cb') 0 w1 := ⟨hrow, hb1, hge, by rw [firstUp_step rfl, HP0.out], fun i hi => by
    have : i = 0 := by omega
    subst this
    rw [HP0.out]
    exact hce 0 h1, by rw [HP0.out]; exact HIN.out 0 h1⟩
  have HS0 := hide S0
  clear hrow hb1 hge hce S0
  go_wp2
  go_loopg [7] (L - 1) (fun gg iv wq => ∃ (j K : Nat) (T : Nat → Value × Value × Value), gg + K = L ∧ iv = .int .i64 (K : Int) ∧ j + 1 = K ∧ ScS n lo L g w0 w G T j wq)
  case atStart => exact ⟨0, 1, _, by omega, rfl, rfl, HS0.out⟩
  case round =>
  clear HS0
  obtain ⟨j, K, T, hg, rfl, hjK, S⟩ := hrel
  by_cases hlt : ¬ K < L
  · have hte : j + 1 = L := by omega
    have HF := hide (S.end (c' := c') hte hlo)
    have hz : ¬ ((K : Int) < (L : Int)) := by omega
    clear S hjK hte HCC HIN HSP HP0 HT
    go_wp2
    exact bodyPost_ret (v := .tuple #[.slice (some ⟨g, 0, none⟩) L c', .int .i64 0]) (by simp [results, Tryd.results68, go_sem]) rfl HF.out
  have hlt := Classical.not_not.1 hlt
  have hz : (K : Int) < (L : Int) := by omega
  have hj0 : (0 : Int) ≤ (j : Int) := by omega
  have hjL : (j : Int) < (L : Int) := by omega
  have hK0 : (0 : Int) ≤ (K : Int) := by omega
  have hwr : IntKind.i64.wrap ((K : Int) - 1) = (j : Int) := by rw [IntWalk.i64_in _ ⟨by omega, by omega⟩]; omega
  rw [← hjK] at hlt
  obtain ⟨e0, e1, e2, -⟩ := HCC.out (j + 1) (by omega)
  have HJK := hide hjK
  rw [hjK] at e0 e1 e2
  have x0 := (S.bel.cell (p := ⟨b, off + K * 3, none⟩) hbl).trans e0
  have x1 := (S.bel.cell (p := ⟨b, off + K * 3 + 1, none⟩) hbl).trans e1
  have x2 := (S.bel.cell (p := ⟨b, off + K * 3 + 2, none⟩) hbl).trans e2
  have hcej := S.ce j (by omega)
  obtain ⟨t0, t1, aj, cj, t2, -⟩ := id hcej
  have y0 := S.row.c0 j (by omega)
  have y1 := S.row.c1 j (by omega)
  have y2 := S.row.c2 j (by omega)
  rw [t0] at y0
  rw [t1] at y1
  rw [t2] at y2
  have hfj : (G j).2 = 0 := by have := S.e0; by_cases h : firstUp (fun i => (G i).2) j = 0; rw [firstUp_step h] at this; exact this; rw [firstUp_stays h (j + 1) (by omega)] at this; exact absurd this h
  have hst := HSP.out j hlt hfj
  have CC0 := fun W TW => two73 op true _ _ _ _ aj (ab (j + 1)) (G j).1.2.2.length cj (cAt cs (j + 1)).2.2.length (cb (j + 1)) (G j).1 (cAt cs (j + 1)) ⟨rfl, rfl⟩ ⟨rfl, rfl⟩ S.inj (HIN.out (j + 1) hlt) W TW
  have hV : tV op true (G j).1 (cAt cs (j + 1)) = c2V op (cAt cs (j + 1)) (G j).1 := rfl
  have hE : tE op true (G j).1 (cAt cs (j + 1)) = c2E op (cAt cs (j + 1)) (G j).1 := rfl
  have hVin : In64 (tV op true (G j).1 (cAt cs (j + 1))) := tV_in64 S.inj (HIN.out (j + 1) hlt)
  rw [← hV, ← hE] at CC0
  clear hV hE
  generalize tV op true (G j).1 (cAt cs (j + 1)) = V at *
  generalize tE op true (G j).1 (cAt cs (j + 1)) = EE at *
  clear hcej t0 t1 t2 hfj
  generalize (G j).1.1 = k1 at *
  generalize hn1 : (G j).1.2.1 = n1 at y1 CC0
  generalize (G j).1.2.2.length = m1 at *
  rw [hjK] at CC0
  generalize (cAt cs K).1 = k2 at *
  generalize (cAt cs K).2.1 = n2 at *
  generalize (cAt cs K).2.2.length = m2 at *
  generalize aj = a1 at *
  generalize ab K = a2 at *
  generalize cj = d1 at *
  generalize cb K = d2 at *
  have CC : Hid (∀ W, Below wr.heap.size wr W → Calls Tryd.prog 73 #[.agg #[.int .i64 op, .bool true], .agg #[.int .i64 k1, .int .i64 n1, .slice a1 m1 d1], .agg #[.int .i64 k2, .int .i64 n2, .slice a2 m2 d2]] W fun e w' => e = .returned (.tuple #[.agg #[.int .i64 0, .int .i64 V, .slice none 0 0], .int .i64 EE]) ∧ Below wr.heap.size wr w' ∧ Below W.heap.size W w') := fun W hW => by
    refine (CC0 W (HT.out W (S.bel.trans (hW.mono S.bel.size)))).mono ?_
    rintro e w' ⟨rfl, hb'⟩
    exact ⟨rfl, hW.trans (hb'.mono hW.size), hb'⟩
  have hbw : b < wr.heap.size := Nat.lt_of_lt_of_le hbl S.bel.size
  have hgw := S.row.lt
  have KS : Hid (∀ W, Below wr.heap.size wr W → (Below wr.heap.size wr W ∧ W.cell? ⟨g, j * 3, none⟩ = some (.int .i64 k1) ∧ W.cell? ⟨g, j * 3 + 1, none⟩ = some (.int .i64 n1) ∧ W.cell? ⟨g, j * 3 + 2, none⟩ = some (.slice a1 m1 d1) ∧ W.cell? ⟨b, off + K * 3, none⟩ = some (.int .i64 k2) ∧ W.cell? ⟨b, off + K * 3 + 1, none⟩ = some (.int .i64 n2) ∧ W.cell? ⟨b, off + K * 3 + 2, none⟩ = some (.slice a2 m2 d2))) := fun W h =>
    ⟨h, (h.cell (p := ⟨g, j * 3, none⟩) hgw).trans y0, (h.cell (p := ⟨g, j * 3 + 1, none⟩) hgw).trans y1, (h.cell (p := ⟨g, j * 3 + 2, none⟩) hgw).trans y2, (h.cell (p := ⟨b, off + K * 3, none⟩) hbw).trans x0, (h.cell (p := ⟨b, off + K * 3 + 1, none⟩) hbw).trans x1, (h.cell (p := ⟨b, off + K * 3 + 2, none⟩) hbw).trans x2⟩
  have HD0 : Hid (Below wr.heap.size wr wr.drew) := (Below.refl _ _).drew
  have HD1 : Hid (Below wr.heap.size wr (wr.alloc (.cells #[.int .i64 0, .int .i64 0, .slice none 0 0] 43)).drew) := (one_alloc _ _).drew
  have HAL : Hid (∀ W o, Below wr.heap.size wr W → Below wr.heap.size wr (W.alloc o)) := fun W o h => h.alloc h.size o
  have HSET : Hid (∀ W b u0 u1 u2, Below wr.heap.size wr W → wr.heap.size ≤ b → Below wr.heap.size wr (((W.setCell ⟨b, 0, none⟩ u0).setCell ⟨b, 1, none⟩ u1).setCell ⟨b, 2, none⟩ u2)) := fun W b u0 u1 u2 h hb => below_set3 h hb
  have HLE : Hid (wr.heap.size ≤ wr.heap.size) := Nat.le_refl _
  have HS := hide (And.intro S (And.intro hst hVin))
  have HLT := hide hlt
  clear hlt hjK S hst hVin x0 x1 x2 y0 y1 y2 e0 e1 e2 CC0 hn1 HIN HCC HSP HP0 HT hbw hgw
  go_upto_region 5 with fail
  go_region_held3 (fun W => Below wr.heap.size wr W ∧ W.cell? ⟨g, j * 3, none⟩ = some (.int .i64 k1) ∧ W.cell? ⟨g, j * 3 + 1, none⟩ = some (.int .i64 n1) ∧ W.cell? ⟨g, j * 3 + 2, none⟩ = some (.slice a1 m1 d1) ∧ W.cell? ⟨b, off + K * 3, none⟩ = some (.int .i64 k2) ∧ W.cell? ⟨b, off + K * 3 + 1, none⟩ = some (.int .i64 n2) ∧ W.cell? ⟨b, off + K * 3 + 2, none⟩ = some (.slice a2 m2 d2))
    (first | with_reducible exact KS.out _ HD0.out | with_reducible exact KS.out _ HD1.out | with_reducible exact KS.out _ (by with_reducible assumption) | with_reducible exact KS.out _ (HAL.out _ _ (by with_reducible assumption)) | with_reducible exact KS.out _ (HSET.out _ _ _ _ _ (by with_reducible assumption) HLE.out))
    (first | (go_at_call 73; first | ((with_reducible refine (CC.out _ HD0.out).mono ?_); rintro e wb ⟨rfl, gb, hbb⟩; obtain ⟨-, n0', n1', n2', n3, n4, n5⟩ := Zc.new wb (.int .i64 0) (.int .i64 0) (.slice none 0 0)) | ((with_reducible refine (CC.out _ HD1.out).mono ?_); rintro e wb ⟨rfl, gb, hbb⟩; have ZB := (Zc.new wr (.int .i64 0) (.int .i64 0) (.slice none 0 0)).drew.next hbb; obtain ⟨-, n0', n1', n2', n3, n4, n5⟩ := (Zc.new wr (.int .i64 0) (.int .i64 0) (.slice none 0 0)).drew.next hbb)))
  all_goals
    first
      | (have ZN := ZB.set (.int .i64 0) (.int .i64 V) (.slice none 0 0)
         obtain ⟨wc, hwc⟩ : ∃ wc, ((wb.setCell ⟨wr.heap.size, 0, none⟩ (.int .i64 0)).setCell ⟨wr.heap.size, 1, none⟩ (.int .i64 V)).setCell ⟨wr.heap.size, 2, none⟩ (.slice none 0 0) = wc := ⟨_, rfl⟩
         have Bw : Below wr.heap.size wr wc := by rw [← hwc]; exact below_set3 gb (Nat.le_refl _)
         rw [hwc] at ZN ⊢
         clear hwc ZB)
      | (have ZN := Zc.new wb (.int .i64 0) (.int .i64 V) (.slice none 0 0)
         obtain ⟨wc, hwc⟩ : ∃ wc, wb.alloc (.cells #[.int .i64 0, .int .i64 V, .slice none 0 0] 43) = wc := ⟨_, rfl⟩
         have Bw : Below wr.heap.size wr wc := by rw [← hwc]; exact gb.alloc gb.size _
         rw [hwc] at ZN ⊢
         clear hwc)
    have c0' := ZN.c0
    have c1' := ZN.c1
    have c2' := ZN.c2
    have SW := HS.out.1.next Bw
    have z0 := SW.row.c0 (j + 1) HLT.out
    have z1 := SW.row.c1 (j + 1) HLT.out
    have z2 := SW.row.c2 (j + 1) HLT.out
    rw [HJK.out] at z0 z1 z2
    have y0 := SW.row.f (K * 3)
    have y1 := SW.row.f (K * 3 + 1)
    have y2 := SW.row.f (K * 3 + 2)
    have HSW := hide SW
    clear ZN gb hbb n0' n1' n2' n3 n4 n5 CC KS HD0 HD1 HAL HSET HLE Bw SW
    generalize (T K).1 = o0 at *
    generalize (T K).2.1 = o1 at *
    generalize (T K).2.2 = o2 at *
    by_cases hE0 : EE = 0
    · subst hE0
      have HN := hide (HSW.out.put HLT.out (by rw [HS.out.2.1]) (by rw [HS.out.2.1]; exact HS.out.2.2) (by rw [HS.out.2.1]; exact ce_num _ _ _ V))
      rw [HJK.out] at HN
      have HG := hide (show L - 1 - K + (K + 1) = L ∧ L - 1 - K < L - 1 - j by have := HLT.out; have := HJK.out; omega)
      clear HSW HS
      go_wp2
      go_roundg (L - 1 - K)
      case rel => exact ⟨K, K + 1, _, HG.out.1, by go_num, rfl, HN.out⟩
      case measure => have := HG.out.2; have := HJK.out; omega
    · have gE : (EE == 0) = false := beq_eq_false_iff_ne.2 hE0
      have HF : Hid (GivesN n lo w0 L G w (.returned (.tuple #[.slice none 0 0, .int .i64 EE])) wc) := HSW.out.err HLT.out (by rw [HS.out.2.1]) hE0 HSW.out.bel
      clear HSW HS
      go_wp2
      exact bodyPost_ret (v := .tuple #[.slice none 0 0, .int .i64 EE]) (by simp [results, Tryd.results68, go_sem]) rfl HF.out
end Go.Proofs.YtlfacpclihmnnaaDoor
namespace Go.Proofs.YtlfacpclihmnnaaDoor
open Go.ChangeShapes Go.WideShapes Go.ChangeAt Go.RowKit
open Num (resV resE In64 sgnI absI)
set_option linter.unusedVariables false
set_option linter.unusedSimpArgs false
set_option maxRecDepth 100000
theorem owns_rowC {w : World} {base : Nat} {e : TypeId} {v : Value} (l : List Int) (hl : l.length ≤ 140737488355328) (h : w.ownsRow base e 1 v l.length (l.map (Value.int .i64))) : ∃ a cap, v = .slice a l.length cap ∧ Row base w a l ∧ l.length ≤ cap := by
  obtain ⟨a, c, rfl, R⟩ := owns_rowE l hl h
  obtain ⟨a2, c2, h2, h3⟩ := owns_cap h
  simp only [Value.slice.injEq, true_and] at h2
  exact ⟨a, c, rfl, R, by omega⟩
theorem Row.take {lo : Nat} {w : World} {a : Option Addr} {zs : List Int} (R : Row lo w a zs) (m : Nat) (h : m ≤ zs.length) : Row lo w a (zs.take m) := by
  have h1 := R.part 0 (zs.length + 1) m (by omega) (by omega)
  rw [List.drop_zero] at h1
  have e : subA a 0 (zs.length + 1) 1 = a := by
    cases a with
    | none => simp [subA]
    | some p => cases p with | mk b o f => simp [subA, Addr.add]
  rw [e] at h1
  exact h1
theorem size2' : (Tryd.prog.info? 2).map (·.size) = some 1 := by kernel_rfl
set_option maxHeartbeats 4000000 in
theorem numbers78c {n lo : Nat} {cs : List Ce} {a : Option Addr} {cap : Nat} {w : World} (hc : CellsIn n lo w cs a) (hl : cs.length ≤ 16384) :
    Calls Tryd.prog 78 #[.slice a cs.length cap] w fun e w' => ∃ a' cap', e = .returned (.slice a' (preN cs) cap') ∧ Below w.heap.size w w' ∧ Row w.heap.size w' a' (preL cs) ∧ preN cs ≤ cap' := by
  obtain ⟨i2, hi2, hz20, hz21, hz22⟩ := info2'
  obtain ⟨ab, cb, hcf⟩ := cells_fn hc
  have HCF := hide hcf
  have HP : Hid (∀ k, (∀ i, i < k → (cAt cs i).1 = 0) → k ≤ cs.length → (k < cs.length → (cAt cs k).1 ≠ 0) → preN cs = k) := fun k h1 h2 h3 => preN_of h1 h2 h3
  obtain ⟨L, hL⟩ : ∃ L, cs.length = L := ⟨_, rfl⟩
  rw [hL] at HCF HP hl ⊢
  clear hcf hc
  go_enter Tryd.func78, Tryd.ntmps78
  go_wp2_with (at_make; refine wpList_make_own _ rfl _ _ 39 rfl w.heap.size 2 i2 (.int .i64 0) 1 Tryd.underlying39 hi2 hz20 hz21 .i64 .i64 _ L rfl rfl rfl (by rw [hz22]; omega) (by unfold maxLen; omega) (Nat.le_refl _) ?_; intro w0 hown0 hgrow0)
  have hb0 : Below w.heap.size w w0 := (Below.refl _ _).grown hgrow0 (Nat.le_refl _) (fun q hq => by cases hq)
  clear hgrow0
  go_wp2
  go_loopg [3, 11] L (fun g v i wq => ∃ k : Nat, g + k = L ∧ i = .int .i64 (k : Int) ∧ Below w.heap.size w wq ∧ wq.ownsRow w.heap.size 2 1 v k ((numK cs k).map (Value.int .i64)) ∧ ∀ i, i < k → (cAt cs i).1 = 0)
  case atStart => exact ⟨0, rfl, rfl, hb0, hown0, fun i hi => absurd hi (by omega)⟩
  case round =>
    obtain ⟨k, hgk, rfl, hnx, hown, hall⟩ := hrel
    have HALL := hide hall
    clear hall hb0 hown0
    by_cases hlk : k < L
    · obtain ⟨b, off, rfl, -, hbl, hcc⟩ := HCF.out (by omega)
      obtain ⟨c0, c1, c2, -⟩ := hcc k hlk
      have d0 : wr.cell? ⟨b, off + k * 3, none⟩ = some (.int .i64 (cAt cs k).1) := (hnx.cell (p := ⟨b, off + k * 3, none⟩) hbl).trans c0
      have d1 : wr.cell? ⟨b, off + k * 3 + 1, none⟩ = some (.int .i64 (cAt cs k).2.1) := (hnx.cell (p := ⟨b, off + k * 3 + 1, none⟩) hbl).trans c1
      have d2 : wr.cell? ⟨b, off + k * 3 + 2, none⟩ = some (.slice (ab k) (cAt cs k).2.2.length (cb k)) := (hnx.cell (p := ⟨b, off + k * 3 + 2, none⟩) hbl).trans c2
      have HST := hide (numK_step cs k)
      have HH := hide (And.intro HALL.out (fun h3 => HP.out k HALL.out (by omega : k ≤ L) h3))
      clear c0 c1 c2 hcc HP HALL
      generalize (cAt cs k).2.2.length = nk at *
      generalize (cAt cs k).2.1 = z at *
      obtain ⟨kk, hkk⟩ : ∃ kk, (cAt cs k).1 = kk := ⟨_, rfl⟩
      rw [hkk] at d0
      by_cases hk0 : kk = 0
      · subst hk0
        have OWN := (hown.alloc (.cells #[.int .i64 0, .int .i64 z, .slice (ab k) nk (cb k)] 43)).alloc (.cells #[.int .i64 z] 2)
        have HNW : Hid (∀ i u, [Value.int .i64 z][i]? = some u → ((wr.alloc (.cells #[.int .i64 0, .int .i64 z, .slice (ab k) nk (cb k)] 43)).alloc (.cells #[.int .i64 z] 2)).cell? ((⟨wr.heap.size + 1, 0, none⟩ : Addr).add i) = some u) := by
          intro i u hu
          rw [add_off, Nat.zero_add]
          have := cell_new0 (wr.alloc (.cells #[.int .i64 0, .int .i64 z, .slice (ab k) nk (cb k)] 43)) #[.int .i64 z] 2 i u (by simpa using hu)
          simpa using this
        have HNX := hide (hnx.trans ((two_allocs wr (.cells #[.int .i64 0, .int .i64 z, .slice (ab k) nk (cb k)] 43) (.cells #[.int .i64 z] 2)).mono hnx.size))
        have HZZ : Hid (w.heap.size ≤ ((wr.alloc (.cells #[.int .i64 0, .int .i64 z, .slice (ab k) nk (cb k)] 43)).alloc (.cells #[.int .i64 z] 2)).heap.size) := HNX.out.size
        have HKK := hide hkk
        clear hown hnx hkk HCF
        go_wp2_with (at_builtin; refine wpList_append_B rfl _ _ 39 rfl w.heap.size 2 i2 (.int .i64 0) 1 8 Tryd.underlying39 hi2 hz20 hz21 hz22 rfl (by decide) _ _ _ rfl OWN ⟨wr.heap.size + 1, 0, none⟩ 1 1 [.int .i64 z] rfl rfl HNW.out ?c2 ?c3 ?c4 HZZ.out ?_)
        case c2 =>
          intro u hu
          simp at hu
          subst hu
          rfl
        case c3 => unfold maxLen; omega
        case c4 => omega
        intro v' w1 hown1 hb1
        have hown2 : w1.ownsRow w.heap.size 2 1 v' (k + 1) ((numK cs (k + 1)).map (Value.int .i64)) := by rw [HST.out]; simpa using hown1
        have HF := hide (And.intro (HNX.out.trans hb1) (And.intro hown2 (fun (i : Nat) (hi : i < k + 1) => (show (cAt cs i).1 = 0 by
          by_cases h : i = k
          · rw [h]; exact HKK.out
          · exact HH.out.1 i (by omega)))))
        clear hown1 hown2 hb1 OWN HNW HZZ HNX HST HH HKK d0 d1 d2
        go_wp2
        go_roundg (L - (k + 1))
        case rel => exact ⟨k + 1, by omega, by go_num, HF.out⟩
        case measure => omega
      · have hpn : preN cs = k := HH.out.2 (fun _ => by rw [hkk]; exact hk0)
        obtain ⟨a', cap', rfl, RR, hcap⟩ := owns_rowC (numK cs k) (by rw [numK_len]; omega) (by rw [numK_len]; exact hown)
        rw [numK_len]
        rw [numK_len] at hcap
        have HCAP : Hid (preN cs ≤ cap') := by unfold Hid; rw [hpn]; exact hcap
        have HF : Hid (Row w.heap.size wr a' (preL cs)) := by unfold preL; rw [hpn]; exact RR
        have HNX := hide hnx
        have HPN := hide hpn
        have g1 : (kk == 0) = false := beq_eq_false_iff_ne.2 hk0
        clear hcap RR HH HST hown hnx hpn hkk hk0
        go_wp2
        go_ret
        exact ⟨a', cap', by rw [HPN.out]; rfl, HNX.out.trans ((one_alloc _ _).mono HNX.out.size), HF.out.next (one_alloc _ _), HCAP.out⟩
    · have hke : k = L := by omega
      subst hke
      have hpn : preN cs = k := HP.out k HALL.out (Nat.le_refl _) (fun h => absurd h (by omega))
      obtain ⟨a', cap', rfl, RR, hcap⟩ := owns_rowC (numK cs k) (by rw [numK_len]; omega) (by rw [numK_len]; exact hown)
      rw [numK_len]
      rw [numK_len] at hcap
      have HCAP : Hid (preN cs ≤ cap') := by unfold Hid; rw [hpn]; exact hcap
      have HF : Hid (Row w.heap.size wr a' (preL cs)) := by unfold preL; rw [hpn]; exact RR
      have HNX := hide hnx
      have HPN := hide hpn
      clear hcap RR HP HALL hown hnx hpn HCF
      go_wp2
      go_ret
      exact ⟨a', cap', by rw [HPN.out]; rfl, HNX.out, HF.out, HCAP.out⟩
theorem frI_in64 {op : Int} {t : Bool} : ∀ zs : List Int, (∀ z ∈ zs, In64 z) → In64 (frI op t zs).1
  | [], _ => by simp [frI, In64]
  | [a], h => h a (by simp)
  | a :: b :: r, h => by
    have ih := frI_in64 (op := op) (t := t) (b :: r) (fun z hz => h z (List.mem_cons_of_mem _ hz))
    rw [frI]
    split
    · exact tvI_in64 (h a (by simp)) ih
    · exact ih
set_option maxHeartbeats 8000000 in
theorem anew69 {n lo L cap : Nat} {cs : List Ce} {a : Option Addr} {op : Int} {t : Bool} {w0 w : World} (ho : op = 22 ∨ op = 26) (hc : CellsO n lo w0 w cs a) (hb0 : Below w0.heap.size w0 w) (hL : cs.length = L) (h1 : 0 < L) (h16 : L ≤ 16384) (hlo : lo ≤ w.heap.size) (hin : ∀ i, i < L → In64 (cAt cs i).2.1) :
    Calls Tryd.prog 69 #[.slice a L cap, .func (.func 70) #[.agg #[.int .i64 op, .bool t]] #[]] w fun e w' => GivesN n lo w0 L (rowP op t cs) w e w' := by
  have CL := clone86 (cap := cap) hc hL h1 h16
  have CN : Hid (∀ W, Below w.heap.size w W → Calls Tryd.prog 78 #[.slice a L cap] W fun e w' => ∃ a' cap', e = .returned (.slice a' (preN cs) cap') ∧ Below W.heap.size W w' ∧ Row W.heap.size w' a' (preL cs) ∧ preN cs ≤ cap') := fun W hW => by
    have := numbers78c (cap := cap) ((hc.next hW).now (hb0.trans (hW.mono hb0.size))) (by omega)
    rw [hL] at this
    exact this
  have HIN := hide (preL_in (cs := cs) (fun i hi => hin i (by omega)))
  have HIO := hide (hin 0 h1)
  have HP0 := hide (rowP_zero op t cs (by omega))
  have HNUM : Hid (∀ j, j + 1 < preN cs → rowP op t cs (j + 1) = ((0, (frI op t ((preL cs).take (j + 2))).1, []), (frI op t ((preL cs).take (j + 2))).2)) := fun j hj => anew_num t ho cs j hj
  have HNOT : Hid (∀ j, j + 1 < L → preN cs ≤ j + 1 → (j = 0 ∨ j < preN cs) → rowP op t cs (j + 1) = ((0, 0, []), 5)) := fun j h1 h2 h3 => anew_not t ho cs j (by omega) h2 h3
  have HPL := hide (preL_len cs)
  have hpL : preN cs ≤ L := by rw [← hL]; exact preN_le cs
  obtain ⟨G, hG⟩ : ∃ G, rowP op t cs = G := ⟨_, rfl⟩
  rw [hG] at HNUM HNOT HP0 ⊢
  generalize preN cs = p at *
  generalize preL cs = ZS at *
  clear hin hG
  go_enter Tryd.func69, Tryd.ntmps69
  go_wp2_with fail
  refine CL.mono ?_
  rintro e w1 ⟨⟨g, c', ab', cb', rfl, hge, hrow, hce⟩, hb1⟩
  clear CL hc hb0
  have CN1 := CN.out w1 hb1
  have S0 : ScS n lo L g w0 w G (cellT cs ab' cb') 0 w1 := ⟨hrow, hb1, hge, by rw [firstUp_step rfl, HP0.out], fun i hi => by
    have : i = 0 := by omega
    subst this
    rw [HP0.out]
    exact hce 0 h1, by rw [HP0.out]; exact HIO.out⟩
  have HS0 := hide S0
  obtain ⟨B, hB⟩ : ∃ B, w1.heap.size = B := ⟨_, rfl⟩
  have hgB : g < B := by rw [← hB]; exact hrow.lt
  rw [hB] at CN1
  have HBB := hide hB
  clear hrow hb1 hge hce S0 CN hB
  go_wp2_with fail
  refine CN1.mono ?_
  rintro e w2 ⟨al, cl, rfl, hb2, hR, hcap⟩
  clear CN1
  rw [← HBB.out] at hb2
  have HS2 := hide (HS0.out.next hb2)
  have HR := hide hR
  clear HS0 hb2 hR
  go_wp2
  go_loopg [8] (L - 1) (fun gg iv wq => ∃ (j K : Nat) (T : Nat → Value × Value × Value), gg + K = L ∧ iv = .int .i64 (K : Int) ∧ j + 1 = K ∧ (j = 0 ∨ j < p) ∧ ScS n lo L g w0 w G T j wq ∧ Row B wq al ZS)
  case atStart => exact ⟨0, 1, _, by omega, rfl, rfl, Or.inl rfl, HS2.out, HR.out⟩
  case round =>
  clear HS2 HR
  obtain ⟨j, K, T, hg, rfl, hjK, hjp, S, R⟩ := hrel
  by_cases hlt : ¬ K < L
  · have hte : j + 1 = L := by omega
    have HF := hide (S.end (c' := c') hte hlo)
    have hz : ¬ ((K : Int) < (L : Int)) := by omega
    clear S R hjK hte HIN HNUM HNOT HP0 HPL hjp
    go_wp2
    exact bodyPost_ret (v := .tuple #[.slice (some ⟨g, 0, none⟩) L c', .int .i64 0]) (by simp [results, Tryd.results69, go_sem]) rfl HF.out
  have hlt := Classical.not_not.1 hlt
  have hz : (K : Int) < (L : Int) := by omega
  by_cases hpK : p ≤ K
  · have hE : G (j + 1) = ((0, 0, []), 5) := HNOT.out j (by omega) (by omega) hjp
    have HF : Hid (GivesN n lo w0 L G w (.returned (.tuple #[.slice none 0 0, .int .i64 5])) wr) := S.err (by omega) (by rw [hE]) (by omega) S.bel
    have hpz : (p : Int) ≤ (K : Int) := by omega
    clear S R hjK HIN HNUM HNOT HP0 HPL hjp hE
    go_wp2
    exact bodyPost_ret (v := .tuple #[.slice none 0 0, .int .i64 5]) (by simp [results, Tryd.results69, go_sem]) rfl HF.out
  · have hpz : ¬ ((p : Int) ≤ (K : Int)) := by omega
    have hGJ := HNUM.out j (by omega)
    have C := fromR87 (cap := cl) (op := op) (t := t) (L := K + 1) ho (R.take (j + 2) (by rw [HPL.out]; omega)) (by rw [List.length_take, HPL.out]; omega) (by omega) (by omega) (fun z hz => HIN.out z (List.mem_of_mem_take hz))
    have P1 := fun W => part_h (P := Tryd.prog) Tryd.underlying39 size2' al p cl (K + 1) ((K : Int) + 1) (by omega) (by omega) W
    have hIn : In64 (frI op t (ZS.take (j + 2))).1 := frI_in64 _ (fun z hz => HIN.out z (List.mem_of_mem_take hz))
    obtain ⟨V, hV⟩ : ∃ V, (frI op t (ZS.take (j + 2))).1 = V := ⟨_, rfl⟩
    obtain ⟨EE, hEE⟩ : ∃ EE, (frI op t (ZS.take (j + 2))).2 = EE := ⟨_, rfl⟩
    rw [hV, hEE] at C hGJ
    rw [hV] at hIn
    have HS := hide (And.intro S (And.intro hGJ (And.intro hIn R)))
    have HJK := hide hjK
    have HLT := hide (show j + 1 < L by omega)
    have HJP := hide (show j + 1 = 0 ∨ j + 1 < p by omega)
    have hK0 : (0 : Int) ≤ (K : Int) := by omega
    clear S R hGJ hIn hV hEE HIN HNUM HNOT HP0 HPL hjp hjK
    go_wp2_with fail
    refine C.mono ?_
    rintro e w3 ⟨rfl, hb3⟩
    clear C P1
    have S3 := HS.out.1.next hb3
    have R3 := HS.out.2.2.2.next hb3
    have HS3 := hide (And.intro S3 R3)
    clear hb3 S3 R3
    by_cases hE0 : EE = 0
    · subst hE0
      have C77 := num77 V w3
      go_wp2_with fail
      refine C77.mono ?_
      rintro e w4 ⟨rfl, hb4⟩
      clear C77
      have S4 := HS3.out.1.next hb4
      have R4 := HS3.out.2.next hb4
      have z0 := S4.row.c0 (j + 1) HLT.out
      have z1 := S4.row.c1 (j + 1) HLT.out
      have z2 := S4.row.c2 (j + 1) HLT.out
      rw [HJK.out] at z0 z1 z2
      have y0 := S4.row.f (K * 3)
      have y1 := S4.row.f (K * 3 + 1)
      have y2 := S4.row.f (K * 3 + 2)
      have HN := hide (S4.put HLT.out (by rw [HS.out.2.1]) (by rw [HS.out.2.1]; exact HS.out.2.2.1) (by rw [HS.out.2.1]; exact ce_num _ _ _ V))
      rw [HJK.out] at HN HJP
      have HG := hide (show L - 1 - K + (K + 1) = L ∧ L - 1 - K < L - 1 - j by have := HLT.out; have := HJK.out; omega)
      have HRR : Hid (Row B (((w4.setCell ⟨g, K * 3, none⟩ (.int .i64 0)).setCell ⟨g, K * 3 + 1, none⟩ (.int .i64 V)).setCell ⟨g, K * 3 + 2, none⟩ (.slice none 0 0)) al ZS) := R4.keeps ((((Keeps.refl B w4).setCell (p := ⟨g, K * 3, none⟩) hgB _).setCell (p := ⟨g, K * 3 + 1, none⟩) hgB _).setCell (p := ⟨g, K * 3 + 2, none⟩) hgB _)
      clear S4 R4 HS HS3 hb4
      generalize (T K).1 = o0 at *
      generalize (T K).2.1 = o1 at *
      generalize (T K).2.2 = o2 at *
      go_wp2
      go_roundg (L - 1 - K)
      case rel => exact ⟨K, K + 1, _, HG.out.1, by go_num, rfl, HJP.out, HN.out, HRR.out⟩
      case measure => have := HG.out.2; have := HJK.out; omega
    · have gE : (EE == 0) = false := beq_eq_false_iff_ne.2 hE0
      have HF : Hid (GivesN n lo w0 L G w (.returned (.tuple #[.slice none 0 0, .int .i64 EE])) w3) := HS3.out.1.err HLT.out (by rw [HS.out.2.1]) hE0 HS3.out.1.bel
      clear HS HS3
      go_wp2
      exact bodyPost_ret (v := .tuple #[.slice none 0 0, .int .i64 EE]) (by simp [results, Tryd.results69, go_sem]) rfl HF.out
end Go.Proofs.YtlfacpclihmnnaaDoor
namespace Go.Proofs.YtlfacpclihmnnaaDoor
open Go.ChangeShapes Go.WideShapes Go.ChangeAt Go.RowKit
open Num (resV resE In64 sgnI absI)
set_option linter.unusedVariables false
set_option linter.unusedSimpArgs false
set_option maxRecDepth 100000
/-- Two cells of numbers in a block. -/
structure MadeS (W : World) (mb : Nat) (MB : Nat → Int) : Prop where
  lt : mb < W.heap.size
  c0 : ∀ i, i < 2 → W.cell? ⟨mb, i * 3, none⟩ = some (.int .i64 0)
  c1 : ∀ i, i < 2 → W.cell? ⟨mb, i * 3 + 1, none⟩ = some (.int .i64 (MB i))
  c2 : ∀ i, i < 2 → W.cell? ⟨mb, i * 3 + 2, none⟩ = some (.slice none 0 0)
  f : ∀ m, W.frozen? ⟨mb, m, none⟩ = false
theorem MadeS.below {W W' : World} {mb B : Nat} {MB : Nat → Int} (h : MadeS W mb MB) (hb : Below B W W') (hB : mb < B) : MadeS W' mb MB :=
  ⟨Nat.lt_of_lt_of_le h.lt hb.size, fun i hi => (hb.cell (p := ⟨mb, i * 3, none⟩) hB).trans (h.c0 i hi), fun i hi => (hb.cell (p := ⟨mb, i * 3 + 1, none⟩) hB).trans (h.c1 i hi), fun i hi => (hb.cell (p := ⟨mb, i * 3 + 2, none⟩) hB).trans (h.c2 i hi), fun m => (hb.frozen (p := ⟨mb, m, none⟩) hB).trans (h.f m)⟩
theorem MadeS.next {W W' : World} {mb : Nat} {MB : Nat → Int} (h : MadeS W mb MB) (hb : Below W.heap.size W W') : MadeS W' mb MB := h.below hb h.lt
theorem MadeS.other {W : World} {mb g m : Nat} {MB : Nat → Int} {v : Value} (h : MadeS W mb MB) (hne : mb ≠ g) : MadeS (W.setCell ⟨g, m, none⟩ v) mb MB :=
  ⟨by simpa using h.lt, fun i hi => by rw [World.cell?_setCell_other _ _ _ _ (by simp [hne])]; exact h.c0 i hi, fun i hi => by rw [World.cell?_setCell_other _ _ _ _ (by simp [hne])]; exact h.c1 i hi, fun i hi => by rw [World.cell?_setCell_other _ _ _ _ (by simp [hne])]; exact h.c2 i hi, fun m => frozen_set _ _ _ _ (h.f m)⟩
theorem madeS_new (w : World) (a b : Int) : MadeS (w.alloc (.cells #[.int .i64 0, .int .i64 a, .slice none 0 0, .int .i64 0, .int .i64 b, .slice none 0 0] 117)) w.heap.size (fun i => if i = 0 then a else b) := by
  refine ⟨by simp, fun i hi => ?_, fun i hi => ?_, fun i hi => ?_, fun m => frozen_new w _ 117 m⟩
  · have : i = 0 ∨ i = 1 := by omega
    rcases this with rfl | rfl
    · exact cell_new0 w _ 117 0 _ rfl
    · exact cell_new0 w _ 117 3 _ rfl
  · have : i = 0 ∨ i = 1 := by omega
    rcases this with rfl | rfl
    · exact cell_new0 w _ 117 1 _ rfl
    · exact cell_new0 w _ 117 4 _ rfl
  · have : i = 0 ∨ i = 1 := by omega
    rcases this with rfl | rfl
    · exact cell_new0 w _ 117 2 _ rfl
    · exact cell_new0 w _ 117 5 _ rfl
theorem MadeS.set {W : World} {mb : Nat} {MB : Nat → Int} (h : MadeS W mb MB) (a b : Int) :
    MadeS ((((((W.setCell ⟨mb, 0, none⟩ (.int .i64 0)).setCell ⟨mb, 1, none⟩ (.int .i64 a)).setCell ⟨mb, 2, none⟩ (.slice none 0 0)).setCell ⟨mb, 3, none⟩ (.int .i64 0)).setCell ⟨mb, 4, none⟩ (.int .i64 b)).setCell ⟨mb, 5, none⟩ (.slice none 0 0)) mb (fun i => if i = 0 then a else b) := by
  have e0 := h.c0 0 (by omega)
  have e1 := h.c1 0 (by omega)
  have e2 := h.c2 0 (by omega)
  have e3 := h.c0 1 (by omega)
  have e4 := h.c1 1 (by omega)
  have e5 := h.c2 1 (by omega)
  have z : ((((((W.setCell ⟨mb, 0, none⟩ (.int .i64 0)).setCell ⟨mb, 1, none⟩ (.int .i64 a)).setCell ⟨mb, 2, none⟩ (.slice none 0 0)).setCell ⟨mb, 3, none⟩ (.int .i64 0)).setCell ⟨mb, 4, none⟩ (.int .i64 b)).setCell ⟨mb, 5, none⟩ (.slice none 0 0)).heap.size = W.heap.size := by simp
  have o : ∀ (V : World) (i j : Nat) (v : Value), i ≠ j → (V.setCell ⟨mb, j, none⟩ v).cell? ⟨mb, i, none⟩ = V.cell? ⟨mb, i, none⟩ := fun V i j v hij => World.cell?_setCell_other _ _ _ _ (by simp [hij])
  refine ⟨by rw [z]; exact h.lt, fun i hi => ?_, fun i hi => ?_, fun i hi => ?_, fun m => by simp only [World.frozen?_setCell]; exact h.f m⟩
  · have : i = 0 ∨ i = 1 := by omega
    rcases this with rfl | rfl
    · show World.cell? _ ⟨mb, 0, none⟩ = _
      rw [o _ 0 5 _ (by omega), o _ 0 4 _ (by omega), o _ 0 3 _ (by omega), o _ 0 2 _ (by omega), o _ 0 1 _ (by omega)]
      exact World.cell?_setCell_same' _ _ _ (by rw [e0]; rfl)
    · show World.cell? _ ⟨mb, 3, none⟩ = _
      rw [o _ 3 5 _ (by omega), o _ 3 4 _ (by omega)]
      exact World.cell?_setCell_same' _ _ _ (by rw [o _ 3 2 _ (by omega), o _ 3 1 _ (by omega), o _ 3 0 _ (by omega), e3]; rfl)
  · have : i = 0 ∨ i = 1 := by omega
    rcases this with rfl | rfl
    · show World.cell? _ ⟨mb, 1, none⟩ = _
      rw [o _ 1 5 _ (by omega), o _ 1 4 _ (by omega), o _ 1 3 _ (by omega), o _ 1 2 _ (by omega)]
      exact World.cell?_setCell_same' _ _ _ (by rw [o _ 1 0 _ (by omega), e1]; rfl)
    · show World.cell? _ ⟨mb, 4, none⟩ = _
      rw [o _ 4 5 _ (by omega)]
      exact World.cell?_setCell_same' _ _ _ (by rw [o _ 4 3 _ (by omega), o _ 4 2 _ (by omega), o _ 4 1 _ (by omega), o _ 4 0 _ (by omega), e4]; rfl)
  · have : i = 0 ∨ i = 1 := by omega
    rcases this with rfl | rfl
    · show World.cell? _ ⟨mb, 2, none⟩ = _
      rw [o _ 2 5 _ (by omega), o _ 2 4 _ (by omega), o _ 2 3 _ (by omega)]
      exact World.cell?_setCell_same' _ _ _ (by rw [o _ 2 1 _ (by omega), o _ 2 0 _ (by omega), e2]; rfl)
    · show World.cell? _ ⟨mb, 5, none⟩ = _
      exact World.cell?_setCell_same' _ _ _ (by rw [o _ 5 4 _ (by omega), o _ 5 3 _ (by omega), o _ 5 2 _ (by omega), o _ 5 1 _ (by omega), o _ 5 0 _ (by omega), e5]; rfl)
theorem MadeS.congr {W : World} {mb : Nat} {MB MB' : Nat → Int} (h : MadeS W mb MB) (e : ∀ i, i < 2 → MB i = MB' i) : MadeS W mb MB' := ⟨h.lt, h.c0, fun i hi => by rw [← e i hi]; exact h.c1 i hi, h.c2, h.f⟩
/-- A variable of one cell, made at the region's end or ahead of it. -/
structure Var3 (W wx : World) (vb : Nat) (v : Int) : Prop where
  bel : Below W.heap.size W wx
  ge : W.heap.size ≤ vb
  z : Zc wx vb (.int .i64 0) (.int .i64 v) (.slice none 0 0)
theorem var3_new {W wb : World} (v : Int) (g : Below W.heap.size W wb) : Var3 W (wb.alloc (.cells #[.int .i64 0, .int .i64 v, .slice none 0 0] 43)) wb.heap.size v := ⟨g.alloc g.size _, g.size, Zc.new wb _ _ _⟩
theorem var3_old {W wb : World} {vb : Nat} {u0 u1 u2 : Value} (v : Int) (z : Zc wb vb u0 u1 u2) (hv : W.heap.size ≤ vb) (g : Below W.heap.size W wb) : Var3 W (((wb.setCell ⟨vb, 0, none⟩ (.int .i64 0)).setCell ⟨vb, 1, none⟩ (.int .i64 v)).setCell ⟨vb, 2, none⟩ (.slice none 0 0)) vb v := ⟨below_set3 g hv, hv, z.set _ _ _⟩
theorem ScS.belowS {n lo L g B : Nat} {w0 w W W' : World} {G : Nat → Ce × Int} {T : Nat → Value × Value × Value} {j : Nat} (h : ScS n lo L g w0 w G T j W) (hb : Below B W W') (hg : g < B) (hw : w.heap.size ≤ B) : ScS n lo L g w0 w G T j W' :=
  ⟨h.row.below hb hg, h.bel.trans (hb.mono hw), h.ge, h.e0, h.ce, h.inj⟩
theorem below_set6 {B : Nat} {w W : World} {mb : Nat} {u0 u1 u2 u3 u4 u5 : Value} (h : Below B w W) (hm : B ≤ mb) : Below B w ((((((W.setCell ⟨mb, 0, none⟩ u0).setCell ⟨mb, 1, none⟩ u1).setCell ⟨mb, 2, none⟩ u2).setCell ⟨mb, 3, none⟩ u3).setCell ⟨mb, 4, none⟩ u4).setCell ⟨mb, 5, none⟩ u5) :=
  (((((h.setCell (p := ⟨mb, 0, none⟩) hm _).setCell (p := ⟨mb, 1, none⟩) hm _).setCell (p := ⟨mb, 2, none⟩) hm _).setCell (p := ⟨mb, 3, none⟩) hm _).setCell (p := ⟨mb, 4, none⟩) hm _).setCell (p := ⟨mb, 5, none⟩) hm _
theorem in01 {v : Int} (h : v = 0 ∨ v = 1) : ∃ i : Nat, v = (i : Int) ∧ i < 2 := by
  rcases h with rfl | rfl
  · exact ⟨0, rfl, by omega⟩
  · exact ⟨1, rfl, by omega⟩
set_option maxHeartbeats 16000000 in
theorem truths74 {n lo L cap : Nat} {cs : List Ce} {a : Option Addr} {op : Int} {w0 w : World} (h27 : 27 ≤ op) (h32 : op ≤ 32) (hc : CellsO n lo w0 w cs a) (hL : cs.length = L) (h1 : 0 < L) (h16 : L ≤ 16384) (hlo : lo ≤ w.heap.size) (hin : ∀ i, i < L → In64 (cAt cs i).2.1) (T : Tab w) :
    Calls Tryd.prog 71 #[.slice a L cap, .func (.func 74) #[.agg #[.int .i64 op, .bool false]] #[]] w fun e w' => GivesN n lo w0 L (rowP op false cs) w e w' := by
  have CLO := clone86 (cap := cap) hc hL h1 h16
  obtain ⟨ab, cb, hcf⟩ := cellsO_fn hc
  obtain ⟨b, off, rfl, -, hbl, hcc⟩ := hcf (by omega)
  have HCC := hide hcc
  have HIN := hide hin
  have HSP : Hid (∀ j, j + 1 < L → (∀ i, i < j → okN op (cAt cs i)) → (tE op false (cAt cs j) (cAt cs (j + 1)) = 0 → rowP op false cs (j + 1) = ((0, foldB op false (cs.take j) (tV op false (cAt cs j) (cAt cs (j + 1))), []), 0)) ∧ (tE op false (cAt cs j) (cAt cs (j + 1)) ≠ 0 → rowP op false cs (j + 1) = ((0, 0, []), tE op false (cAt cs j) (cAt cs (j + 1))))) := fun j hj h => truth_step false h27 h32 cs j (by omega) h
  have HFS : Hid (∀ j, j < L → ∀ v, foldB op false (cs.take (j + 1)) v = foldB op false (cs.take j) (tV op false (cAt cs j) (0, v, []))) := fun j hj v => by rw [snoc_take cs j (by omega)]; exact foldB_snoc _ _ _ _ _
  have HF01 : Hid (∀ j v, (v = 0 ∨ v = 1) → foldB op false (cs.take j) v = 0 ∨ foldB op false (cs.take j) v = 1) := fun j v hv => foldB_01 false h27 h32 _ hv
  have HOK : Hid (∀ c d, tE op false c d = 0 → okN op c) := fun c d h => ((tE_ok false h27 h32 c d).1 h).1
  have HV01 : Hid (∀ c d, ∃ i : Nat, tV op false c d = (i : Int) ∧ i < 2) := fun c d => in01 (tV_01 false h27 h32 c d)
  have HP0 := hide (rowP_zero op false cs (by omega))
  have HTB := hide (fun (W : World) (hb : Below w.heap.size w W) => T.next hb)
  obtain ⟨G, hG⟩ : ∃ G, rowP op false cs = G := ⟨_, rfl⟩
  rw [hG] at HSP HP0 ⊢
  clear hcf hc hcc hin T hG
  go_enter Tryd.func71, Tryd.ntmps71
  go_wp2_with fail
  refine CLO.mono ?_
  rintro e w1 ⟨⟨g, c', ab', cb', rfl, hge, hrow, hce⟩, hb1⟩
  clear CLO
  have S0 : ScS n lo L g w0 w G (cellT cs ab' cb') 0 w1 := ⟨hrow, hb1, hge, by rw [firstUp_step rfl, HP0.out], fun i hi => by
    have : i = 0 := by omega
    subst this
    rw [HP0.out]
    exact hce 0 h1, by rw [HP0.out]; exact HIN.out 0 h1⟩
  have HS0 := hide S0
  clear hrow hb1 hge hce S0
  have CN0 := num77 0 w1
  go_wp2_with fail
  refine CN0.mono ?_
  rintro e w2 ⟨rfl, hb2⟩
  clear CN0
  have HS2 := hide (HS0.out.next hb2)
  clear HS0 hb2
  have CN1 := num77 1 w2
  go_wp2_with fail
  refine CN1.mono ?_
  rintro e w3 ⟨rfl, hb3⟩
  clear CN1
  have S3 := HS2.out.next hb3
  have hgl : g < w3.heap.size := S3.row.lt
  have M4 := madeS_new w3 0 1
  have S4 := S3.next (one_alloc w3 (.cells #[.int .i64 0, .int .i64 0, .slice none 0 0, .int .i64 0, .int .i64 1, .slice none 0 0] 117))
  obtain ⟨w4, e4⟩ : ∃ w4, w3.alloc (.cells #[.int .i64 0, .int .i64 0, .slice none 0 0, .int .i64 0, .int .i64 1, .slice none 0 0] 117) = w4 := ⟨_, rfl⟩
  rw [e4] at M4 S4
  obtain ⟨mb, hmb⟩ : ∃ mb, w3.heap.size = mb := ⟨_, rfl⟩
  rw [hmb] at M4 hgl
  have HE4 := hide (And.intro e4 hmb)
  have HS4 := hide (And.intro S4 (M4.congr (MB' := fun i => foldB op false (cs.take 0) (i : Int)) (fun i hi => by
    have : i = 0 ∨ i = 1 := by omega
    rcases this with rfl | rfl <;> rfl)))
  have hmw : w.heap.size ≤ mb := by rw [← hmb]; exact S3.bel.size
  clear S3 M4 S4 HS2 hb3 e4 hmb
  go_wp2
  rw [HE4.out.1, HE4.out.2]
  clear HE4
  go_loopg [8] (L - 1) (fun gg iv wq => ∃ (j K : Nat) (T : Nat → Value × Value × Value), gg + K = L ∧ iv = .int .i64 (K : Int) ∧ j + 1 = K ∧ ScS n lo L g w0 w G T j wq ∧ MadeS wq mb (fun i => foldB op false (cs.take j) (i : Int)) ∧ ∀ i, i < j → okN op (cAt cs i))
  case atStart => exact ⟨0, 1, _, by omega, rfl, rfl, HS4.out.1, HS4.out.2, fun i hi => absurd hi (by omega)⟩
  case round =>
  clear HS4
  obtain ⟨j, K, T, hg, rfl, hjK, S, M, hok⟩ := hrel
  by_cases hlt : ¬ K < L
  · have hte : j + 1 = L := by omega
    have HF := hide (S.end (c' := c') hte hlo)
    have hz : ¬ ((K : Int) < (L : Int)) := by omega
    clear S M hjK hte HCC HIN HSP HP0 HTB HFS HF01 HOK HV01 hok
    go_wp2
    exact bodyPost_ret (v := .tuple #[.slice (some ⟨g, 0, none⟩) L c', .int .i64 0]) (by simp [results, Tryd.results71, go_sem]) rfl HF.out
  have hlt := Classical.not_not.1 hlt
  have hz : (K : Int) < (L : Int) := by omega
  have hj0 : (0 : Int) ≤ (j : Int) := by omega
  have hjL : (j : Int) < (L : Int) := by omega
  have hK0 : (0 : Int) ≤ (K : Int) := by omega
  have hwr : IntKind.i64.wrap ((K : Int) - 1) = (j : Int) := by rw [IntWalk.i64_in _ ⟨by omega, by omega⟩]; omega
  have HLT := hide (show j + 1 < L by omega)
  have HJK := hide hjK
  obtain ⟨e0, e1, e2, -⟩ := HCC.out K (by omega)
  obtain ⟨f0, f1, f2, -⟩ := HCC.out j (by omega)
  have x0 := (S.bel.cell (p := ⟨b, off + K * 3, none⟩) hbl).trans e0
  have x1 := (S.bel.cell (p := ⟨b, off + K * 3 + 1, none⟩) hbl).trans e1
  have x2 := (S.bel.cell (p := ⟨b, off + K * 3 + 2, none⟩) hbl).trans e2
  have y0 := (S.bel.cell (p := ⟨b, off + j * 3, none⟩) hbl).trans f0
  have y1 := (S.bel.cell (p := ⟨b, off + j * 3 + 1, none⟩) hbl).trans f1
  have y2 := (S.bel.cell (p := ⟨b, off + j * 3 + 2, none⟩) hbl).trans f2
  have hst := HSP.out j (by omega) hok
  rw [hjK] at hst
  have hVin : In64 (tV op false (cAt cs j) (cAt cs K)) := tV_in64 (HIN.out j (by omega)) (HIN.out K hlt)
  obtain ⟨vi, hvi, hvi2⟩ := HV01.out (cAt cs j) (cAt cs K)
  obtain ⟨zi, hzi, hzi2⟩ := HV01.out (cAt cs j) (0, 0, [])
  obtain ⟨oi, hoi, hoi2⟩ := HV01.out (cAt cs j) (0, 1, [])
  have HTWX := hide (fun W TW => two74 op false _ _ _ _ (ab j) (ab K) (cAt cs j).2.2.length (cb j) (cAt cs K).2.2.length (cb K) (cAt cs j) (cAt cs K) ⟨rfl, rfl⟩ ⟨rfl, rfl⟩ (HIN.out j (by omega)) (HIN.out K hlt) W TW)
  have HTW0 := hide (fun W TW => two74 op false _ _ 0 0 (ab j) none (cAt cs j).2.2.length (cb j) 0 0 (cAt cs j) (0, 0, []) ⟨rfl, rfl⟩ ⟨rfl, rfl⟩ (HIN.out j (by omega)) (by simp [In64]) W TW)
  have HTW1 := hide (fun W TW => two74 op false _ _ 0 1 (ab j) none (cAt cs j).2.2.length (cb j) 0 0 (cAt cs j) (0, 1, []) ⟨rfl, rfl⟩ ⟨rfl, rfl⟩ (HIN.out j (by omega)) (by simp [In64]) W TW)
  have hV : c2V op (cAt cs j) (cAt cs K) = (vi : Int) := hvi
  have hV0 : c2V op (cAt cs j) (0, 0, []) = (zi : Int) := hzi
  have hV1 : c2V op (cAt cs j) (0, 1, []) = (oi : Int) := hoi
  have hEX : tE op false (cAt cs j) (cAt cs K) = c2E op (cAt cs j) (cAt cs K) := rfl
  rw [hV] at HTWX
  rw [hV0] at HTW0
  rw [hV1] at HTW1
  rw [← hEX] at HTWX
  generalize c2E op (cAt cs j) (0, 0, []) = EZ at HTW0
  generalize c2E op (cAt cs j) (0, 1, []) = EO at HTW1
  have HMZ := hide (And.intro (HFS.out j (by omega) 0) (HFS.out j (by omega) 1))
  rw [hzi, hoi] at HMZ
  have HOKJ := hide (fun h => HOK.out (cAt cs j) (cAt cs K) h)
  have HIV := hide (show In64 (foldB op false (cs.take j) (vi : Int)) by
    have := HF01.out j (vi : Int) (by omega)
    rcases this with h | h <;> rw [h] <;> simp [In64])
  rw [hvi] at hst
  clear hV hV0 hV1 hEX hvi hzi hoi hVin
  generalize tE op false (cAt cs j) (cAt cs K) = EE at *
  generalize (cAt cs j).1 = k1 at *
  generalize (cAt cs j).2.1 = n1 at *
  generalize (cAt cs j).2.2.length = m1 at *
  generalize (cAt cs K).1 = k2 at *
  generalize (cAt cs K).2.1 = n2 at *
  generalize (cAt cs K).2.2.length = m2 at *
  generalize ab j = a1 at *
  generalize ab K = a2 at *
  generalize cb j = d1 at *
  generalize cb K = d2 at *
  have CC : Hid (∀ V, Below wr.heap.size wr V → Calls Tryd.prog 74 #[.agg #[.int .i64 op, .bool false], .agg #[.int .i64 k1, .int .i64 n1, .slice a1 m1 d1], .agg #[.int .i64 k2, .int .i64 n2, .slice a2 m2 d2]] V fun e w' => e = .returned (.tuple #[.agg #[.int .i64 0, .int .i64 (vi : Int), .slice none 0 0], .int .i64 EE]) ∧ Below wr.heap.size wr w' ∧ Below V.heap.size V w') := fun V hV => by
    refine (HTWX.out V (HTB.out V (S.bel.trans (hV.mono S.bel.size)))).mono ?_
    rintro e w' ⟨rfl, hb'⟩
    exact ⟨rfl, hV.trans (hb'.mono hV.size), hb'⟩
  have hbw : b < wr.heap.size := Nat.lt_of_lt_of_le hbl S.bel.size
  have KS : Hid (∀ V, Below wr.heap.size wr V → (Below wr.heap.size wr V ∧ V.cell? ⟨b, off + j * 3, none⟩ = some (.int .i64 k1) ∧ V.cell? ⟨b, off + j * 3 + 1, none⟩ = some (.int .i64 n1) ∧ V.cell? ⟨b, off + j * 3 + 2, none⟩ = some (.slice a1 m1 d1) ∧ V.cell? ⟨b, off + K * 3, none⟩ = some (.int .i64 k2) ∧ V.cell? ⟨b, off + K * 3 + 1, none⟩ = some (.int .i64 n2) ∧ V.cell? ⟨b, off + K * 3 + 2, none⟩ = some (.slice a2 m2 d2))) := fun V h =>
    ⟨h, (h.cell (p := ⟨b, off + j * 3, none⟩) hbw).trans y0, (h.cell (p := ⟨b, off + j * 3 + 1, none⟩) hbw).trans y1, (h.cell (p := ⟨b, off + j * 3 + 2, none⟩) hbw).trans y2, (h.cell (p := ⟨b, off + K * 3, none⟩) hbw).trans x0, (h.cell (p := ⟨b, off + K * 3 + 1, none⟩) hbw).trans x1, (h.cell (p := ⟨b, off + K * 3 + 2, none⟩) hbw).trans x2⟩
  have HD0 : Hid (Below wr.heap.size wr wr.drew) := (Below.refl _ _).drew
  have HD1 : Hid (Below wr.heap.size wr (wr.alloc (.cells #[.int .i64 0, .int .i64 0, .slice none 0 0] 43)).drew) := (one_alloc _ _).drew
  have HAL : Hid (∀ V o, Below wr.heap.size wr V → Below wr.heap.size wr (V.alloc o)) := fun V o h => h.alloc h.size o
  have HSET : Hid (∀ V b u0 u1 u2, Below wr.heap.size wr V → wr.heap.size ≤ b → Below wr.heap.size wr (((V.setCell ⟨b, 0, none⟩ u0).setCell ⟨b, 1, none⟩ u1).setCell ⟨b, 2, none⟩ u2)) := fun V b u0 u1 u2 h hb => below_set3 h hb
  have HLE : Hid (wr.heap.size ≤ wr.heap.size) := Nat.le_refl _
  have HS := hide (And.intro S (And.intro M hok))
  have HHST := hide hst
  have HX := hide (And.intro f0 (And.intro f1 f2))
  clear S M hok hst x0 x1 x2 y0 y1 y2 e0 e1 e2 f0 f1 f2 HIN HCC HSP HP0 hbw hjK HFS HF01 HOK HV01
  go_upto_region 6 with fail
  go_cut [9, 10] from 26 to 39 (fun s9 s10 wx => ∃ vb, s9 = .pointer (some ⟨vb, 0, none⟩) ∧ s10 = .int .i64 EE ∧ Var3 wr wx vb (vi : Int))
  case first =>
    go_region_held3 (fun V => Below wr.heap.size wr V ∧ V.cell? ⟨b, off + j * 3, none⟩ = some (.int .i64 k1) ∧ V.cell? ⟨b, off + j * 3 + 1, none⟩ = some (.int .i64 n1) ∧ V.cell? ⟨b, off + j * 3 + 2, none⟩ = some (.slice a1 m1 d1) ∧ V.cell? ⟨b, off + K * 3, none⟩ = some (.int .i64 k2) ∧ V.cell? ⟨b, off + K * 3 + 1, none⟩ = some (.int .i64 n2) ∧ V.cell? ⟨b, off + K * 3 + 2, none⟩ = some (.slice a2 m2 d2))
      (first | with_reducible exact KS.out _ HD0.out | with_reducible exact KS.out _ HD1.out | with_reducible exact KS.out _ (by with_reducible assumption) | with_reducible exact KS.out _ (HAL.out _ _ (by with_reducible assumption)) | with_reducible exact KS.out _ (HSET.out _ _ _ _ _ (by with_reducible assumption) HLE.out) | with_reducible exact KS.out _ (HSET.out _ _ _ _ _ (by with_reducible assumption) (Below.size (by with_reducible assumption))))
      (first | (go_at_call 74; first | ((with_reducible refine (CC.out _ HD0.out).mono ?_); rintro e wb ⟨rfl, gb, hbb⟩; obtain ⟨-, n0', n1', n2', n3, n4, n5⟩ := Zc.new wb (.int .i64 0) (.int .i64 0) (.slice none 0 0)) | ((with_reducible refine (CC.out _ HD1.out).mono ?_); rintro e wb ⟨rfl, gb, hbb⟩; have ZB := (Zc.new wr (.int .i64 0) (.int .i64 0) (.slice none 0 0)).drew.next hbb; obtain ⟨-, n0', n1', n2', n3, n4, n5⟩ := (Zc.new wr (.int .i64 0) (.int .i64 0) (.slice none 0 0)).drew.next hbb)))
    all_goals
      go_wp2
      go_meet
    all_goals
      case rel =>
        first
          | exact ⟨_, rfl, rfl, var3_new _ gb⟩
          | exact ⟨_, rfl, rfl, var3_old _ ZB (Nat.le_refl _) gb⟩
  case rest =>
  obtain ⟨vb, rfl, rfl, VV⟩ := hcut
  generalize wc = wx at *
  have c0' := VV.z.c0
  have c1' := VV.z.c1
  have c2' := VV.z.c2
  have SW := HS.out.1.next VV.bel
  have MW := HS.out.2.1.next VV.bel
  have HSW := hide (And.intro SW MW)
  clear CC KS HD0 HD1 HAL HSET HLE SW MW HTWX VV
  by_cases hE0 : ¬ EE = 0
  · have gE : (EE == 0) = false := beq_eq_false_iff_ne.2 hE0
    have HF : Hid (GivesN n lo w0 L G w (.returned (.tuple #[.slice none 0 0, .int .i64 EE])) wx) := HSW.out.1.err HLT.out (by rw [HJK.out, HHST.out.2 hE0]) hE0 HSW.out.1.bel
    clear HSW HS HHST HX HTB HTW0 HTW1 HMZ HOKJ HIV
    go_wp2
    exact bodyPost_ret (v := .tuple #[.slice none 0 0, .int .i64 EE]) (by simp [results, Tryd.results71, go_sem]) rfl HF.out
  have hE1 : EE = 0 := Classical.not_not.1 hE0
  clear hE0
  subst hE1
  have hvz : (vi : Int) < 2 := by omega
  have hv0 : (0 : Int) ≤ (vi : Int) := by omega
  have z0 := HSW.out.1.row.c0 (j + 1) HLT.out
  have z1 := HSW.out.1.row.c1 (j + 1) HLT.out
  have z2 := HSW.out.1.row.c2 (j + 1) HLT.out
  rw [HJK.out] at z0 z1 z2
  have y0 := HSW.out.1.row.f (K * 3)
  have y1 := HSW.out.1.row.f (K * 3 + 1)
  have y2 := HSW.out.1.row.f (K * 3 + 2)
  have m0 := HSW.out.2.c0 vi hvi2
  have m1' := HSW.out.2.c1 vi hvi2
  have m2' := HSW.out.2.c2 vi hvi2
  have hGK := HHST.out.1 rfl
  have S5 := HSW.out.1.put HLT.out (by rw [HJK.out, hGK]) (by rw [HJK.out, hGK]; exact HIV.out) (by rw [HJK.out, hGK]; exact ce_num _ _ _ (foldB op false (cs.take j) (vi : Int)))
  rw [HJK.out] at S5
  generalize foldB op false (cs.take j) (vi : Int) = FV at *
  obtain ⟨wd, hwd⟩ : ∃ wd, ((wx.setCell ⟨g, K * 3, none⟩ (.int .i64 0)).setCell ⟨g, K * 3 + 1, none⟩ (.int .i64 FV)).setCell ⟨g, K * 3 + 2, none⟩ (.slice none 0 0) = wd := ⟨_, rfl⟩
  have M5 : MadeS wd mb (fun i => foldB op false (cs.take j) (i : Int)) := by rw [← hwd]; exact ((HSW.out.2.other (by omega)).other (by omega)).other (by omega)
  rw [hwd] at S5
  have HS5 := hide (And.intro S5 (And.intro M5 (And.intro HS.out.2.2 (HOKJ.out rfl))))
  have HWD := hide hwd
  have CA : Hid (∀ V, Below wd.heap.size wd V → Calls Tryd.prog 77 #[.int .i64 0] V fun r w' => r = .returned (.agg #[.int .i64 0, .int .i64 0, .slice none 0 0]) ∧ Below wd.heap.size wd w' ∧ Below V.heap.size V w') := fun V hV => by
    refine (num77 0 V).mono ?_
    rintro e w' ⟨rfl, hb'⟩
    exact ⟨rfl, hV.trans (hb'.mono hV.size), hb'⟩
  have CB : Hid (∀ V, Below wd.heap.size wd V → Calls Tryd.prog 74 #[.agg #[.int .i64 op, .bool false], .agg #[.int .i64 k1, .int .i64 n1, .slice a1 m1 d1], .agg #[.int .i64 0, .int .i64 0, .slice none 0 0]] V fun e w' => e = .returned (.tuple #[.agg #[.int .i64 0, .int .i64 (zi : Int), .slice none 0 0], .int .i64 EZ]) ∧ Below wd.heap.size wd w' ∧ Below V.heap.size V w') := fun V hV => by
    refine (HTW0.out V (HTB.out V (S5.bel.trans (hV.mono S5.bel.size)))).mono ?_
    rintro e w' ⟨rfl, hb'⟩
    exact ⟨rfl, hV.trans (hb'.mono hV.size), hb'⟩
  have KS : Hid (∀ V, Below wd.heap.size wd V → (Below wd.heap.size wd V ∧ V.cell? ⟨b, off + j * 3, none⟩ = some (.int .i64 k1) ∧ V.cell? ⟨b, off + j * 3 + 1, none⟩ = some (.int .i64 n1) ∧ V.cell? ⟨b, off + j * 3 + 2, none⟩ = some (.slice a1 m1 d1))) := fun V h =>
    ⟨h, (S5.bel.trans (h.mono S5.bel.size)).cell (p := ⟨b, off + j * 3, none⟩) hbl |>.trans HX.out.1, (S5.bel.trans (h.mono S5.bel.size)).cell (p := ⟨b, off + j * 3 + 1, none⟩) hbl |>.trans HX.out.2.1, (S5.bel.trans (h.mono S5.bel.size)).cell (p := ⟨b, off + j * 3 + 2, none⟩) hbl |>.trans HX.out.2.2⟩
  have HD0 : Hid (Below wd.heap.size wd wd.drew) := (Below.refl _ _).drew
  have HD1 : Hid (Below wd.heap.size wd (wd.alloc (.cells #[.int .i64 0, .int .i64 0, .slice none 0 0] 43)).drew) := (one_alloc _ _).drew
  have HAL : Hid (∀ V o, Below wd.heap.size wd V → Below wd.heap.size wd (V.alloc o)) := fun V o h => h.alloc h.size o
  have HSET : Hid (∀ V b u0 u1 u2, Below wd.heap.size wd V → wd.heap.size ≤ b → Below wd.heap.size wd (((V.setCell ⟨b, 0, none⟩ u0).setCell ⟨b, 1, none⟩ u1).setCell ⟨b, 2, none⟩ u2)) := fun V b u0 u1 u2 h hb => below_set3 h hb
  have HLE : Hid (wd.heap.size ≤ wd.heap.size) := Nat.le_refl _
  clear S5 M5 HS HSW hGK HHST HOKJ HIV hwd
  generalize (T K).1 = o0 at *
  generalize (T K).2.1 = o1 at *
  generalize (T K).2.2 = o2 at *
  generalize setT T K (.int .i64 0, .int .i64 FV, .slice none 0 0) = T5 at *
  go_upto_region 10 with fail
  rw [HWD.out]
  clear HWD z0 z1 z2 y0 y1 y2 m0 m1' m2' c0' c1' c2'
  go_cut [11, 12] from 50 to 60 (fun s9 s10 wx => ∃ vb, s9 = .pointer (some ⟨vb, 0, none⟩) ∧ s10 = .int .i64 EZ ∧ Var3 wd wx vb (zi : Int))
  case first =>
    go_region_held3 (fun V => Below wd.heap.size wd V ∧ V.cell? ⟨b, off + j * 3, none⟩ = some (.int .i64 k1) ∧ V.cell? ⟨b, off + j * 3 + 1, none⟩ = some (.int .i64 n1) ∧ V.cell? ⟨b, off + j * 3 + 2, none⟩ = some (.slice a1 m1 d1))
      (first | with_reducible exact KS.out _ HD0.out | with_reducible exact KS.out _ HD1.out | with_reducible exact KS.out _ (by with_reducible assumption) | with_reducible exact KS.out _ (HAL.out _ _ (by with_reducible assumption)) | with_reducible exact KS.out _ (HSET.out _ _ _ _ _ (by with_reducible assumption) HLE.out) | with_reducible exact KS.out _ (HSET.out _ _ _ _ _ (by with_reducible assumption) (Below.size (by with_reducible assumption))))
      (first | (go_at_call 77; first | ((with_reducible refine (CA.out _ HD0.out).mono ?_); rintro e we ⟨rfl, ga, hba⟩; have ZA : True := trivial) | ((with_reducible refine (CA.out _ HD1.out).mono ?_); rintro e we ⟨rfl, ga, hba⟩; have ZA := (Zc.new wd (.int .i64 0) (.int .i64 0) (.slice none 0 0)).drew.next hba)) | (go_at_call 74; first | ((with_reducible refine (CB.out _ ga).mono ?_); rintro e wf ⟨rfl, gb, hbb⟩; first | (have ZB := ZA.next hbb; obtain ⟨-, n0', n1', n2', n3, n4, n5⟩ := ZA.next hbb) | (obtain ⟨-, n0', n1', n2', n3, n4, n5⟩ := Zc.new wf (.int .i64 0) (.int .i64 0) (.slice none 0 0))) | ((with_reducible refine (CB.out _ (HAL.out _ _ ga)).mono ?_); rintro e wf ⟨rfl, gb, hbb⟩; have ZB := (Zc.new we (.int .i64 0) (.int .i64 0) (.slice none 0 0)).next hbb; obtain ⟨-, n0', n1', n2', n3, n4, n5⟩ := (Zc.new we (.int .i64 0) (.int .i64 0) (.slice none 0 0)).next hbb)))
    all_goals
      go_wp2
      go_meet
    all_goals
      case rel =>
        first
          | exact ⟨_, rfl, rfl, var3_new _ gb⟩
          | exact ⟨_, rfl, rfl, var3_old _ ZB (Nat.le_refl _) gb⟩
          | exact ⟨_, rfl, rfl, var3_old _ ZB ga.size gb⟩
  case rest =>
  obtain ⟨zb, rfl, rfl, VZ⟩ := hcut
  generalize wc = wg at *
  have S6 := HS5.out.1.next VZ.bel
  have M6 := HS5.out.2.1.next VZ.bel
  have HZ6 := hide (And.intro VZ.z (And.intro S6 M6))
  clear CA CB KS HD0 HD1 HAL HSET HLE VZ HTW0
  have CA : Hid (∀ V, Below wg.heap.size wg V → Calls Tryd.prog 77 #[.int .i64 1] V fun r w' => r = .returned (.agg #[.int .i64 0, .int .i64 1, .slice none 0 0]) ∧ Below wg.heap.size wg w' ∧ Below V.heap.size V w') := fun V hV => by
    refine (num77 1 V).mono ?_
    rintro e w' ⟨rfl, hb'⟩
    exact ⟨rfl, hV.trans (hb'.mono hV.size), hb'⟩
  have CB : Hid (∀ V, Below wg.heap.size wg V → Calls Tryd.prog 74 #[.agg #[.int .i64 op, .bool false], .agg #[.int .i64 k1, .int .i64 n1, .slice a1 m1 d1], .agg #[.int .i64 0, .int .i64 1, .slice none 0 0]] V fun e w' => e = .returned (.tuple #[.agg #[.int .i64 0, .int .i64 (oi : Int), .slice none 0 0], .int .i64 EO]) ∧ Below wg.heap.size wg w' ∧ Below V.heap.size V w') := fun V hV => by
    refine (HTW1.out V (HTB.out V (S6.bel.trans (hV.mono S6.bel.size)))).mono ?_
    rintro e w' ⟨rfl, hb'⟩
    exact ⟨rfl, hV.trans (hb'.mono hV.size), hb'⟩
  have KS : Hid (∀ V, Below wg.heap.size wg V → (Below wg.heap.size wg V ∧ V.cell? ⟨b, off + j * 3, none⟩ = some (.int .i64 k1) ∧ V.cell? ⟨b, off + j * 3 + 1, none⟩ = some (.int .i64 n1) ∧ V.cell? ⟨b, off + j * 3 + 2, none⟩ = some (.slice a1 m1 d1))) := fun V h =>
    ⟨h, (S6.bel.trans (h.mono S6.bel.size)).cell (p := ⟨b, off + j * 3, none⟩) hbl |>.trans HX.out.1, (S6.bel.trans (h.mono S6.bel.size)).cell (p := ⟨b, off + j * 3 + 1, none⟩) hbl |>.trans HX.out.2.1, (S6.bel.trans (h.mono S6.bel.size)).cell (p := ⟨b, off + j * 3 + 2, none⟩) hbl |>.trans HX.out.2.2⟩
  have HD0 : Hid (Below wg.heap.size wg wg.drew) := (Below.refl _ _).drew
  have HD1 : Hid (Below wg.heap.size wg (wg.alloc (.cells #[.int .i64 0, .int .i64 0, .slice none 0 0] 43)).drew) := (one_alloc _ _).drew
  have HAL : Hid (∀ V o, Below wg.heap.size wg V → Below wg.heap.size wg (V.alloc o)) := fun V o h => h.alloc h.size o
  have HSET : Hid (∀ V b u0 u1 u2, Below wg.heap.size wg V → wg.heap.size ≤ b → Below wg.heap.size wg (((V.setCell ⟨b, 0, none⟩ u0).setCell ⟨b, 1, none⟩ u1).setCell ⟨b, 2, none⟩ u2)) := fun V b u0 u1 u2 h hb => below_set3 h hb
  have HLE : Hid (wg.heap.size ≤ wg.heap.size) := Nat.le_refl _
  clear S6 M6
  go_upto_region 11 with fail
  go_cut [13, 14] from 61 to 71 (fun s9 s10 wx => ∃ vb, s9 = .pointer (some ⟨vb, 0, none⟩) ∧ s10 = .int .i64 EO ∧ Var3 wg wx vb (oi : Int))
  case first =>
    go_region_held3 (fun V => Below wg.heap.size wg V ∧ V.cell? ⟨b, off + j * 3, none⟩ = some (.int .i64 k1) ∧ V.cell? ⟨b, off + j * 3 + 1, none⟩ = some (.int .i64 n1) ∧ V.cell? ⟨b, off + j * 3 + 2, none⟩ = some (.slice a1 m1 d1))
      (first | with_reducible exact KS.out _ HD0.out | with_reducible exact KS.out _ HD1.out | with_reducible exact KS.out _ (by with_reducible assumption) | with_reducible exact KS.out _ (HAL.out _ _ (by with_reducible assumption)) | with_reducible exact KS.out _ (HSET.out _ _ _ _ _ (by with_reducible assumption) HLE.out) | with_reducible exact KS.out _ (HSET.out _ _ _ _ _ (by with_reducible assumption) (Below.size (by with_reducible assumption))))
      (first | (go_at_call 77; first | ((with_reducible refine (CA.out _ HD0.out).mono ?_); rintro e wh ⟨rfl, ga, hba⟩; have ZA : True := trivial) | ((with_reducible refine (CA.out _ HD1.out).mono ?_); rintro e wh ⟨rfl, ga, hba⟩; have ZA := (Zc.new wg (.int .i64 0) (.int .i64 0) (.slice none 0 0)).drew.next hba)) | (go_at_call 74; first | ((with_reducible refine (CB.out _ ga).mono ?_); rintro e wi ⟨rfl, gb, hbb⟩; first | (have ZB := ZA.next hbb; obtain ⟨-, n0', n1', n2', n3, n4, n5⟩ := ZA.next hbb) | (obtain ⟨-, n0', n1', n2', n3, n4, n5⟩ := Zc.new wi (.int .i64 0) (.int .i64 0) (.slice none 0 0))) | ((with_reducible refine (CB.out _ (HAL.out _ _ ga)).mono ?_); rintro e wi ⟨rfl, gb, hbb⟩; have ZB := (Zc.new wh (.int .i64 0) (.int .i64 0) (.slice none 0 0)).next hbb; obtain ⟨-, n0', n1', n2', n3, n4, n5⟩ := (Zc.new wh (.int .i64 0) (.int .i64 0) (.slice none 0 0)).next hbb)))
    all_goals
      go_wp2
      go_meet
    all_goals
      case rel =>
        first
          | exact ⟨_, rfl, rfl, var3_new _ gb⟩
          | exact ⟨_, rfl, rfl, var3_old _ ZB (Nat.le_refl _) gb⟩
          | exact ⟨_, rfl, rfl, var3_old _ ZB ga.size gb⟩
  case rest =>
  obtain ⟨ob, rfl, rfl, VO⟩ := hcut
  generalize wc = wk at *
  have S7 := HZ6.out.2.1.next VO.bel
  have M7 := HZ6.out.2.2.next VO.bel
  have Z7 := HZ6.out.1.next VO.bel
  have c0' := VO.z.c0
  have c1' := VO.z.c1
  have c2' := VO.z.c2
  have q0 := Z7.c0
  have q1 := Z7.c1
  have q2 := Z7.c2
  have hzz : (zi : Int) < 2 := by omega
  have hz0 : (0 : Int) ≤ (zi : Int) := by omega
  have hoz : (oi : Int) < 2 := by omega
  have ho0 : (0 : Int) ≤ (oi : Int) := by omega
  have m0 := M7.c0 zi hzi2
  have m1' := M7.c1 zi hzi2
  have m2' := M7.c2 zi hzi2
  have p0 := M7.c0 oi hoi2
  have p1 := M7.c1 oi hoi2
  have p2 := M7.c2 oi hoi2
  have u0 := M7.c0 0 (by omega)
  have u1 := M7.c1 0 (by omega)
  have u2 := M7.c2 0 (by omega)
  have u3 := M7.c0 1 (by omega)
  have u4 := M7.c1 1 (by omega)
  have u5 := M7.c2 1 (by omega)
  simp only [Nat.zero_mul, Nat.zero_add, Nat.one_mul] at u0 u1 u2 u3 u4 u5
  have g0 := M7.f 0
  have g1 := M7.f 1
  have g2 := M7.f 2
  have g3 := M7.f 3
  have g4 := M7.f 4
  have g5 := M7.f 5
  have HFIN : Hid (ScS n lo L g w0 w G T5 K ((((((wk.setCell ⟨mb, 0, none⟩ (.int .i64 0)).setCell ⟨mb, 1, none⟩ (.int .i64 (foldB op false (cs.take j) (zi : Int)))).setCell ⟨mb, 2, none⟩ (.slice none 0 0)).setCell ⟨mb, 3, none⟩ (.int .i64 0)).setCell ⟨mb, 4, none⟩ (.int .i64 (foldB op false (cs.take j) (oi : Int)))).setCell ⟨mb, 5, none⟩ (.slice none 0 0)).drew ∧ MadeS ((((((wk.setCell ⟨mb, 0, none⟩ (.int .i64 0)).setCell ⟨mb, 1, none⟩ (.int .i64 (foldB op false (cs.take j) (zi : Int)))).setCell ⟨mb, 2, none⟩ (.slice none 0 0)).setCell ⟨mb, 3, none⟩ (.int .i64 0)).setCell ⟨mb, 4, none⟩ (.int .i64 (foldB op false (cs.take j) (oi : Int)))).setCell ⟨mb, 5, none⟩ (.slice none 0 0)).drew mb (fun i => foldB op false (cs.take K) (i : Int)) ∧ ∀ i, i < K → okN op (cAt cs i)) := by
    refine ⟨S7.belowS (below_set6 (Below.refl mb _) (Nat.le_refl _)).drew hgl hmw, ((M7.set (foldB op false (cs.take j) (zi : Int)) (foldB op false (cs.take j) (oi : Int))).next (Below.refl _ _).drew).congr (fun i hi => ?_), fun i hi => ?_⟩
    · rw [← HJK.out]
      have : i = 0 ∨ i = 1 := by omega
      rcases this with rfl | rfl
      · exact HMZ.out.1.symm
      · exact HMZ.out.2.symm
    · have := HJK.out
      by_cases h : i = j
      · rw [h]; exact HS5.out.2.2.2
      · exact HS5.out.2.2.1 i (by omega)
  generalize foldB op false (cs.take j) (zi : Int) = FZ at *
  generalize foldB op false (cs.take j) (oi : Int) = FO at *
  have HG := hide (show L - 1 - K + (K + 1) = L ∧ L - 1 - K < L - 1 - j by have := HLT.out; have := HJK.out; omega)
  clear S7 M7 Z7 VO HTW1 HZ6 CA CB KS HD0 HD1 HAL HSET HLE HS5 HMZ
  generalize foldB op false (cs.take j) ((0 : Nat) : Int) = U0 at *
  generalize foldB op false (cs.take j) ((1 : Nat) : Int) = U1 at *
  go_wp2
  go_region
  all_goals
    go_wp2
    go_roundg (L - 1 - K)
    case rel => exact ⟨K, K + 1, _, HG.out.1, by go_num, rfl, HFIN.out⟩
    case measure => have := HG.out.2; have := HJK.out; omega
set_option maxHeartbeats 16000000 in
theorem truths73 {n lo L cap : Nat} {cs : List Ce} {a : Option Addr} {op : Int} {w0 w : World} (h27 : 27 ≤ op) (h32 : op ≤ 32) (hc : CellsO n lo w0 w cs a) (hL : cs.length = L) (h1 : 0 < L) (h16 : L ≤ 16384) (hlo : lo ≤ w.heap.size) (hin : ∀ i, i < L → In64 (cAt cs i).2.1) (T : Tab w) :
    Calls Tryd.prog 71 #[.slice a L cap, .func (.func 73) #[.agg #[.int .i64 op, .bool true]] #[]] w fun e w' => GivesN n lo w0 L (rowP op true cs) w e w' := by
  have CLO := clone86 (cap := cap) hc hL h1 h16
  obtain ⟨ab, cb, hcf⟩ := cellsO_fn hc
  obtain ⟨b, off, rfl, -, hbl, hcc⟩ := hcf (by omega)
  have HCC := hide hcc
  have HIN := hide hin
  have HSP : Hid (∀ j, j + 1 < L → (∀ i, i < j → okN op (cAt cs i)) → (tE op true (cAt cs j) (cAt cs (j + 1)) = 0 → rowP op true cs (j + 1) = ((0, foldB op true (cs.take j) (tV op true (cAt cs j) (cAt cs (j + 1))), []), 0)) ∧ (tE op true (cAt cs j) (cAt cs (j + 1)) ≠ 0 → rowP op true cs (j + 1) = ((0, 0, []), tE op true (cAt cs j) (cAt cs (j + 1))))) := fun j hj h => truth_step true h27 h32 cs j (by omega) h
  have HFS : Hid (∀ j, j < L → ∀ v, foldB op true (cs.take (j + 1)) v = foldB op true (cs.take j) (tV op true (cAt cs j) (0, v, []))) := fun j hj v => by rw [snoc_take cs j (by omega)]; exact foldB_snoc _ _ _ _ _
  have HF01 : Hid (∀ j v, (v = 0 ∨ v = 1) → foldB op true (cs.take j) v = 0 ∨ foldB op true (cs.take j) v = 1) := fun j v hv => foldB_01 true h27 h32 _ hv
  have HOK : Hid (∀ c d, tE op true c d = 0 → okN op c) := fun c d h => ((tE_ok true h27 h32 c d).1 h).1
  have HV01 : Hid (∀ c d, ∃ i : Nat, tV op true c d = (i : Int) ∧ i < 2) := fun c d => in01 (tV_01 true h27 h32 c d)
  have HP0 := hide (rowP_zero op true cs (by omega))
  have HTB := hide (fun (W : World) (hb : Below w.heap.size w W) => T.next hb)
  obtain ⟨G, hG⟩ : ∃ G, rowP op true cs = G := ⟨_, rfl⟩
  rw [hG] at HSP HP0 ⊢
  clear hcf hc hcc hin T hG
  go_enter Tryd.func71, Tryd.ntmps71
  go_wp2_with fail
  refine CLO.mono ?_
  rintro e w1 ⟨⟨g, c', ab', cb', rfl, hge, hrow, hce⟩, hb1⟩
  clear CLO
  have S0 : ScS n lo L g w0 w G (cellT cs ab' cb') 0 w1 := ⟨hrow, hb1, hge, by rw [firstUp_step rfl, HP0.out], fun i hi => by
    have : i = 0 := by omega
    subst this
    rw [HP0.out]
    exact hce 0 h1, by rw [HP0.out]; exact HIN.out 0 h1⟩
  have HS0 := hide S0
  clear hrow hb1 hge hce S0
  have CN0 := num77 0 w1
  go_wp2_with fail
  refine CN0.mono ?_
  rintro e w2 ⟨rfl, hb2⟩
  clear CN0
  have HS2 := hide (HS0.out.next hb2)
  clear HS0 hb2
  have CN1 := num77 1 w2
  go_wp2_with fail
  refine CN1.mono ?_
  rintro e w3 ⟨rfl, hb3⟩
  clear CN1
  have S3 := HS2.out.next hb3
  have hgl : g < w3.heap.size := S3.row.lt
  have M4 := madeS_new w3 0 1
  have S4 := S3.next (one_alloc w3 (.cells #[.int .i64 0, .int .i64 0, .slice none 0 0, .int .i64 0, .int .i64 1, .slice none 0 0] 117))
  obtain ⟨w4, e4⟩ : ∃ w4, w3.alloc (.cells #[.int .i64 0, .int .i64 0, .slice none 0 0, .int .i64 0, .int .i64 1, .slice none 0 0] 117) = w4 := ⟨_, rfl⟩
  rw [e4] at M4 S4
  obtain ⟨mb, hmb⟩ : ∃ mb, w3.heap.size = mb := ⟨_, rfl⟩
  rw [hmb] at M4 hgl
  have HE4 := hide (And.intro e4 hmb)
  have HS4 := hide (And.intro S4 (M4.congr (MB' := fun i => foldB op true (cs.take 0) (i : Int)) (fun i hi => by
    have : i = 0 ∨ i = 1 := by omega
    rcases this with rfl | rfl <;> rfl)))
  have hmw : w.heap.size ≤ mb := by rw [← hmb]; exact S3.bel.size
  clear S3 M4 S4 HS2 hb3 e4 hmb
  go_wp2
  rw [HE4.out.1, HE4.out.2]
  clear HE4
  go_loopg [8] (L - 1) (fun gg iv wq => ∃ (j K : Nat) (T : Nat → Value × Value × Value), gg + K = L ∧ iv = .int .i64 (K : Int) ∧ j + 1 = K ∧ ScS n lo L g w0 w G T j wq ∧ MadeS wq mb (fun i => foldB op true (cs.take j) (i : Int)) ∧ ∀ i, i < j → okN op (cAt cs i))
  case atStart => exact ⟨0, 1, _, by omega, rfl, rfl, HS4.out.1, HS4.out.2, fun i hi => absurd hi (by omega)⟩
  case round =>
  clear HS4
  obtain ⟨j, K, T, hg, rfl, hjK, S, M, hok⟩ := hrel
  by_cases hlt : ¬ K < L
  · have hte : j + 1 = L := by omega
    have HF := hide (S.end (c' := c') hte hlo)
    have hz : ¬ ((K : Int) < (L : Int)) := by omega
    clear S M hjK hte HCC HIN HSP HP0 HTB HFS HF01 HOK HV01 hok
    go_wp2
    exact bodyPost_ret (v := .tuple #[.slice (some ⟨g, 0, none⟩) L c', .int .i64 0]) (by simp [results, Tryd.results71, go_sem]) rfl HF.out
  have hlt := Classical.not_not.1 hlt
  have hz : (K : Int) < (L : Int) := by omega
  have hj0 : (0 : Int) ≤ (j : Int) := by omega
  have hjL : (j : Int) < (L : Int) := by omega
  have hK0 : (0 : Int) ≤ (K : Int) := by omega
  have hwr : IntKind.i64.wrap ((K : Int) - 1) = (j : Int) := by rw [IntWalk.i64_in _ ⟨by omega, by omega⟩]; omega
  have HLT := hide (show j + 1 < L by omega)
  have HJK := hide hjK
  obtain ⟨e0, e1, e2, -⟩ := HCC.out K (by omega)
  obtain ⟨f0, f1, f2, -⟩ := HCC.out j (by omega)
  have x0 := (S.bel.cell (p := ⟨b, off + K * 3, none⟩) hbl).trans e0
  have x1 := (S.bel.cell (p := ⟨b, off + K * 3 + 1, none⟩) hbl).trans e1
  have x2 := (S.bel.cell (p := ⟨b, off + K * 3 + 2, none⟩) hbl).trans e2
  have y0 := (S.bel.cell (p := ⟨b, off + j * 3, none⟩) hbl).trans f0
  have y1 := (S.bel.cell (p := ⟨b, off + j * 3 + 1, none⟩) hbl).trans f1
  have y2 := (S.bel.cell (p := ⟨b, off + j * 3 + 2, none⟩) hbl).trans f2
  have hst := HSP.out j (by omega) hok
  rw [hjK] at hst
  have hVin : In64 (tV op true (cAt cs j) (cAt cs K)) := tV_in64 (HIN.out j (by omega)) (HIN.out K hlt)
  obtain ⟨vi, hvi, hvi2⟩ := HV01.out (cAt cs j) (cAt cs K)
  obtain ⟨zi, hzi, hzi2⟩ := HV01.out (cAt cs j) (0, 0, [])
  obtain ⟨oi, hoi, hoi2⟩ := HV01.out (cAt cs j) (0, 1, [])
  have HTWX := hide (fun W TW => two73 op true _ _ _ _ (ab j) (ab K) (cAt cs j).2.2.length (cb j) (cAt cs K).2.2.length (cb K) (cAt cs j) (cAt cs K) ⟨rfl, rfl⟩ ⟨rfl, rfl⟩ (HIN.out j (by omega)) (HIN.out K hlt) W TW)
  have HTW0 := hide (fun W TW => two73 op true _ _ 0 0 (ab j) none (cAt cs j).2.2.length (cb j) 0 0 (cAt cs j) (0, 0, []) ⟨rfl, rfl⟩ ⟨rfl, rfl⟩ (HIN.out j (by omega)) (by simp [In64]) W TW)
  have HTW1 := hide (fun W TW => two73 op true _ _ 0 1 (ab j) none (cAt cs j).2.2.length (cb j) 0 0 (cAt cs j) (0, 1, []) ⟨rfl, rfl⟩ ⟨rfl, rfl⟩ (HIN.out j (by omega)) (by simp [In64]) W TW)
  have hV : c2V op (cAt cs K) (cAt cs j) = (vi : Int) := hvi
  have hV0 : c2V op (0, 0, []) (cAt cs j) = (zi : Int) := hzi
  have hV1 : c2V op (0, 1, []) (cAt cs j) = (oi : Int) := hoi
  have hEX : tE op true (cAt cs j) (cAt cs K) = c2E op (cAt cs K) (cAt cs j) := rfl
  rw [hV] at HTWX
  rw [hV0] at HTW0
  rw [hV1] at HTW1
  rw [← hEX] at HTWX
  generalize c2E op (0, 0, []) (cAt cs j) = EZ at HTW0
  generalize c2E op (0, 1, []) (cAt cs j) = EO at HTW1
  have HMZ := hide (And.intro (HFS.out j (by omega) 0) (HFS.out j (by omega) 1))
  rw [hzi, hoi] at HMZ
  have HOKJ := hide (fun h => HOK.out (cAt cs j) (cAt cs K) h)
  have HIV := hide (show In64 (foldB op true (cs.take j) (vi : Int)) by
    have := HF01.out j (vi : Int) (by omega)
    rcases this with h | h <;> rw [h] <;> simp [In64])
  rw [hvi] at hst
  clear hV hV0 hV1 hEX hvi hzi hoi hVin
  generalize tE op true (cAt cs j) (cAt cs K) = EE at *
  generalize (cAt cs j).1 = k1 at *
  generalize (cAt cs j).2.1 = n1 at *
  generalize (cAt cs j).2.2.length = m1 at *
  generalize (cAt cs K).1 = k2 at *
  generalize (cAt cs K).2.1 = n2 at *
  generalize (cAt cs K).2.2.length = m2 at *
  generalize ab j = a1 at *
  generalize ab K = a2 at *
  generalize cb j = d1 at *
  generalize cb K = d2 at *
  have CC : Hid (∀ V, Below wr.heap.size wr V → Calls Tryd.prog 73 #[.agg #[.int .i64 op, .bool true], .agg #[.int .i64 k1, .int .i64 n1, .slice a1 m1 d1], .agg #[.int .i64 k2, .int .i64 n2, .slice a2 m2 d2]] V fun e w' => e = .returned (.tuple #[.agg #[.int .i64 0, .int .i64 (vi : Int), .slice none 0 0], .int .i64 EE]) ∧ Below wr.heap.size wr w' ∧ Below V.heap.size V w') := fun V hV => by
    refine (HTWX.out V (HTB.out V (S.bel.trans (hV.mono S.bel.size)))).mono ?_
    rintro e w' ⟨rfl, hb'⟩
    exact ⟨rfl, hV.trans (hb'.mono hV.size), hb'⟩
  have hbw : b < wr.heap.size := Nat.lt_of_lt_of_le hbl S.bel.size
  have KS : Hid (∀ V, Below wr.heap.size wr V → (Below wr.heap.size wr V ∧ V.cell? ⟨b, off + j * 3, none⟩ = some (.int .i64 k1) ∧ V.cell? ⟨b, off + j * 3 + 1, none⟩ = some (.int .i64 n1) ∧ V.cell? ⟨b, off + j * 3 + 2, none⟩ = some (.slice a1 m1 d1) ∧ V.cell? ⟨b, off + K * 3, none⟩ = some (.int .i64 k2) ∧ V.cell? ⟨b, off + K * 3 + 1, none⟩ = some (.int .i64 n2) ∧ V.cell? ⟨b, off + K * 3 + 2, none⟩ = some (.slice a2 m2 d2))) := fun V h =>
    ⟨h, (h.cell (p := ⟨b, off + j * 3, none⟩) hbw).trans y0, (h.cell (p := ⟨b, off + j * 3 + 1, none⟩) hbw).trans y1, (h.cell (p := ⟨b, off + j * 3 + 2, none⟩) hbw).trans y2, (h.cell (p := ⟨b, off + K * 3, none⟩) hbw).trans x0, (h.cell (p := ⟨b, off + K * 3 + 1, none⟩) hbw).trans x1, (h.cell (p := ⟨b, off + K * 3 + 2, none⟩) hbw).trans x2⟩
  have HD0 : Hid (Below wr.heap.size wr wr.drew) := (Below.refl _ _).drew
  have HD1 : Hid (Below wr.heap.size wr (wr.alloc (.cells #[.int .i64 0, .int .i64 0, .slice none 0 0] 43)).drew) := (one_alloc _ _).drew
  have HAL : Hid (∀ V o, Below wr.heap.size wr V → Below wr.heap.size wr (V.alloc o)) := fun V o h => h.alloc h.size o
  have HSET : Hid (∀ V b u0 u1 u2, Below wr.heap.size wr V → wr.heap.size ≤ b → Below wr.heap.size wr (((V.setCell ⟨b, 0, none⟩ u0).setCell ⟨b, 1, none⟩ u1).setCell ⟨b, 2, none⟩ u2)) := fun V b u0 u1 u2 h hb => below_set3 h hb
  have HLE : Hid (wr.heap.size ≤ wr.heap.size) := Nat.le_refl _
  have HS := hide (And.intro S (And.intro M hok))
  have HHST := hide hst
  have HX := hide (And.intro f0 (And.intro f1 f2))
  clear S M hok hst x0 x1 x2 y0 y1 y2 e0 e1 e2 f0 f1 f2 HIN HCC HSP HP0 hbw hjK HFS HF01 HOK HV01
  go_upto_region 6 with fail
  go_cut [9, 10] from 26 to 39 (fun s9 s10 wx => ∃ vb, s9 = .pointer (some ⟨vb, 0, none⟩) ∧ s10 = .int .i64 EE ∧ Var3 wr wx vb (vi : Int))
  case first =>
    go_region_held3 (fun V => Below wr.heap.size wr V ∧ V.cell? ⟨b, off + j * 3, none⟩ = some (.int .i64 k1) ∧ V.cell? ⟨b, off + j * 3 + 1, none⟩ = some (.int .i64 n1) ∧ V.cell? ⟨b, off + j * 3 + 2, none⟩ = some (.slice a1 m1 d1) ∧ V.cell? ⟨b, off + K * 3, none⟩ = some (.int .i64 k2) ∧ V.cell? ⟨b, off + K * 3 + 1, none⟩ = some (.int .i64 n2) ∧ V.cell? ⟨b, off + K * 3 + 2, none⟩ = some (.slice a2 m2 d2))
      (first | with_reducible exact KS.out _ HD0.out | with_reducible exact KS.out _ HD1.out | with_reducible exact KS.out _ (by with_reducible assumption) | with_reducible exact KS.out _ (HAL.out _ _ (by with_reducible assumption)) | with_reducible exact KS.out _ (HSET.out _ _ _ _ _ (by with_reducible assumption) HLE.out) | with_reducible exact KS.out _ (HSET.out _ _ _ _ _ (by with_reducible assumption) (Below.size (by with_reducible assumption))))
      (first | (go_at_call 73; first | ((with_reducible refine (CC.out _ HD0.out).mono ?_); rintro e wb ⟨rfl, gb, hbb⟩; obtain ⟨-, n0', n1', n2', n3, n4, n5⟩ := Zc.new wb (.int .i64 0) (.int .i64 0) (.slice none 0 0)) | ((with_reducible refine (CC.out _ HD1.out).mono ?_); rintro e wb ⟨rfl, gb, hbb⟩; have ZB := (Zc.new wr (.int .i64 0) (.int .i64 0) (.slice none 0 0)).drew.next hbb; obtain ⟨-, n0', n1', n2', n3, n4, n5⟩ := (Zc.new wr (.int .i64 0) (.int .i64 0) (.slice none 0 0)).drew.next hbb)))
    all_goals
      go_wp2
      go_meet
    all_goals
      case rel =>
        first
          | exact ⟨_, rfl, rfl, var3_new _ gb⟩
          | exact ⟨_, rfl, rfl, var3_old _ ZB (Nat.le_refl _) gb⟩
  case rest =>
  obtain ⟨vb, rfl, rfl, VV⟩ := hcut
  generalize wc = wx at *
  have c0' := VV.z.c0
  have c1' := VV.z.c1
  have c2' := VV.z.c2
  have SW := HS.out.1.next VV.bel
  have MW := HS.out.2.1.next VV.bel
  have HSW := hide (And.intro SW MW)
  clear CC KS HD0 HD1 HAL HSET HLE SW MW HTWX VV
  by_cases hE0 : ¬ EE = 0
  · have gE : (EE == 0) = false := beq_eq_false_iff_ne.2 hE0
    have HF : Hid (GivesN n lo w0 L G w (.returned (.tuple #[.slice none 0 0, .int .i64 EE])) wx) := HSW.out.1.err HLT.out (by rw [HJK.out, HHST.out.2 hE0]) hE0 HSW.out.1.bel
    clear HSW HS HHST HX HTB HTW0 HTW1 HMZ HOKJ HIV
    go_wp2
    exact bodyPost_ret (v := .tuple #[.slice none 0 0, .int .i64 EE]) (by simp [results, Tryd.results71, go_sem]) rfl HF.out
  have hE1 : EE = 0 := Classical.not_not.1 hE0
  clear hE0
  subst hE1
  have hvz : (vi : Int) < 2 := by omega
  have hv0 : (0 : Int) ≤ (vi : Int) := by omega
  have z0 := HSW.out.1.row.c0 (j + 1) HLT.out
  have z1 := HSW.out.1.row.c1 (j + 1) HLT.out
  have z2 := HSW.out.1.row.c2 (j + 1) HLT.out
  rw [HJK.out] at z0 z1 z2
  have y0 := HSW.out.1.row.f (K * 3)
  have y1 := HSW.out.1.row.f (K * 3 + 1)
  have y2 := HSW.out.1.row.f (K * 3 + 2)
  have m0 := HSW.out.2.c0 vi hvi2
  have m1' := HSW.out.2.c1 vi hvi2
  have m2' := HSW.out.2.c2 vi hvi2
  have hGK := HHST.out.1 rfl
  have S5 := HSW.out.1.put HLT.out (by rw [HJK.out, hGK]) (by rw [HJK.out, hGK]; exact HIV.out) (by rw [HJK.out, hGK]; exact ce_num _ _ _ (foldB op true (cs.take j) (vi : Int)))
  rw [HJK.out] at S5
  generalize foldB op true (cs.take j) (vi : Int) = FV at *
  obtain ⟨wd, hwd⟩ : ∃ wd, ((wx.setCell ⟨g, K * 3, none⟩ (.int .i64 0)).setCell ⟨g, K * 3 + 1, none⟩ (.int .i64 FV)).setCell ⟨g, K * 3 + 2, none⟩ (.slice none 0 0) = wd := ⟨_, rfl⟩
  have M5 : MadeS wd mb (fun i => foldB op true (cs.take j) (i : Int)) := by rw [← hwd]; exact ((HSW.out.2.other (by omega)).other (by omega)).other (by omega)
  rw [hwd] at S5
  have HS5 := hide (And.intro S5 (And.intro M5 (And.intro HS.out.2.2 (HOKJ.out rfl))))
  have HWD := hide hwd
  have CA : Hid (∀ V, Below wd.heap.size wd V → Calls Tryd.prog 77 #[.int .i64 0] V fun r w' => r = .returned (.agg #[.int .i64 0, .int .i64 0, .slice none 0 0]) ∧ Below wd.heap.size wd w' ∧ Below V.heap.size V w') := fun V hV => by
    refine (num77 0 V).mono ?_
    rintro e w' ⟨rfl, hb'⟩
    exact ⟨rfl, hV.trans (hb'.mono hV.size), hb'⟩
  have CB : Hid (∀ V, Below wd.heap.size wd V → Calls Tryd.prog 73 #[.agg #[.int .i64 op, .bool true], .agg #[.int .i64 k1, .int .i64 n1, .slice a1 m1 d1], .agg #[.int .i64 0, .int .i64 0, .slice none 0 0]] V fun e w' => e = .returned (.tuple #[.agg #[.int .i64 0, .int .i64 (zi : Int), .slice none 0 0], .int .i64 EZ]) ∧ Below wd.heap.size wd w' ∧ Below V.heap.size V w') := fun V hV => by
    refine (HTW0.out V (HTB.out V (S5.bel.trans (hV.mono S5.bel.size)))).mono ?_
    rintro e w' ⟨rfl, hb'⟩
    exact ⟨rfl, hV.trans (hb'.mono hV.size), hb'⟩
  have KS : Hid (∀ V, Below wd.heap.size wd V → (Below wd.heap.size wd V ∧ V.cell? ⟨b, off + j * 3, none⟩ = some (.int .i64 k1) ∧ V.cell? ⟨b, off + j * 3 + 1, none⟩ = some (.int .i64 n1) ∧ V.cell? ⟨b, off + j * 3 + 2, none⟩ = some (.slice a1 m1 d1))) := fun V h =>
    ⟨h, (S5.bel.trans (h.mono S5.bel.size)).cell (p := ⟨b, off + j * 3, none⟩) hbl |>.trans HX.out.1, (S5.bel.trans (h.mono S5.bel.size)).cell (p := ⟨b, off + j * 3 + 1, none⟩) hbl |>.trans HX.out.2.1, (S5.bel.trans (h.mono S5.bel.size)).cell (p := ⟨b, off + j * 3 + 2, none⟩) hbl |>.trans HX.out.2.2⟩
  have HD0 : Hid (Below wd.heap.size wd wd.drew) := (Below.refl _ _).drew
  have HD1 : Hid (Below wd.heap.size wd (wd.alloc (.cells #[.int .i64 0, .int .i64 0, .slice none 0 0] 43)).drew) := (one_alloc _ _).drew
  have HAL : Hid (∀ V o, Below wd.heap.size wd V → Below wd.heap.size wd (V.alloc o)) := fun V o h => h.alloc h.size o
  have HSET : Hid (∀ V b u0 u1 u2, Below wd.heap.size wd V → wd.heap.size ≤ b → Below wd.heap.size wd (((V.setCell ⟨b, 0, none⟩ u0).setCell ⟨b, 1, none⟩ u1).setCell ⟨b, 2, none⟩ u2)) := fun V b u0 u1 u2 h hb => below_set3 h hb
  have HLE : Hid (wd.heap.size ≤ wd.heap.size) := Nat.le_refl _
  clear S5 M5 HS HSW hGK HHST HOKJ HIV hwd
  generalize (T K).1 = o0 at *
  generalize (T K).2.1 = o1 at *
  generalize (T K).2.2 = o2 at *
  generalize setT T K (.int .i64 0, .int .i64 FV, .slice none 0 0) = T5 at *
  go_upto_region 10 with fail
  rw [HWD.out]
  clear HWD z0 z1 z2 y0 y1 y2 m0 m1' m2' c0' c1' c2'
  go_cut [11, 12] from 50 to 60 (fun s9 s10 wx => ∃ vb, s9 = .pointer (some ⟨vb, 0, none⟩) ∧ s10 = .int .i64 EZ ∧ Var3 wd wx vb (zi : Int))
  case first =>
    go_region_held3 (fun V => Below wd.heap.size wd V ∧ V.cell? ⟨b, off + j * 3, none⟩ = some (.int .i64 k1) ∧ V.cell? ⟨b, off + j * 3 + 1, none⟩ = some (.int .i64 n1) ∧ V.cell? ⟨b, off + j * 3 + 2, none⟩ = some (.slice a1 m1 d1))
      (first | with_reducible exact KS.out _ HD0.out | with_reducible exact KS.out _ HD1.out | with_reducible exact KS.out _ (by with_reducible assumption) | with_reducible exact KS.out _ (HAL.out _ _ (by with_reducible assumption)) | with_reducible exact KS.out _ (HSET.out _ _ _ _ _ (by with_reducible assumption) HLE.out) | with_reducible exact KS.out _ (HSET.out _ _ _ _ _ (by with_reducible assumption) (Below.size (by with_reducible assumption))))
      (first | (go_at_call 77; first | ((with_reducible refine (CA.out _ HD0.out).mono ?_); rintro e we ⟨rfl, ga, hba⟩; have ZA : True := trivial) | ((with_reducible refine (CA.out _ HD1.out).mono ?_); rintro e we ⟨rfl, ga, hba⟩; have ZA := (Zc.new wd (.int .i64 0) (.int .i64 0) (.slice none 0 0)).drew.next hba)) | (go_at_call 73; first | ((with_reducible refine (CB.out _ ga).mono ?_); rintro e wf ⟨rfl, gb, hbb⟩; first | (have ZB := ZA.next hbb; obtain ⟨-, n0', n1', n2', n3, n4, n5⟩ := ZA.next hbb) | (obtain ⟨-, n0', n1', n2', n3, n4, n5⟩ := Zc.new wf (.int .i64 0) (.int .i64 0) (.slice none 0 0))) | ((with_reducible refine (CB.out _ (HAL.out _ _ ga)).mono ?_); rintro e wf ⟨rfl, gb, hbb⟩; have ZB := (Zc.new we (.int .i64 0) (.int .i64 0) (.slice none 0 0)).next hbb; obtain ⟨-, n0', n1', n2', n3, n4, n5⟩ := (Zc.new we (.int .i64 0) (.int .i64 0) (.slice none 0 0)).next hbb)))
    all_goals
      go_wp2
      go_meet
    all_goals
      case rel =>
        first
          | exact ⟨_, rfl, rfl, var3_new _ gb⟩
          | exact ⟨_, rfl, rfl, var3_old _ ZB (Nat.le_refl _) gb⟩
          | exact ⟨_, rfl, rfl, var3_old _ ZB ga.size gb⟩
  case rest =>
  obtain ⟨zb, rfl, rfl, VZ⟩ := hcut
  generalize wc = wg at *
  have S6 := HS5.out.1.next VZ.bel
  have M6 := HS5.out.2.1.next VZ.bel
  have HZ6 := hide (And.intro VZ.z (And.intro S6 M6))
  clear CA CB KS HD0 HD1 HAL HSET HLE VZ HTW0
  have CA : Hid (∀ V, Below wg.heap.size wg V → Calls Tryd.prog 77 #[.int .i64 1] V fun r w' => r = .returned (.agg #[.int .i64 0, .int .i64 1, .slice none 0 0]) ∧ Below wg.heap.size wg w' ∧ Below V.heap.size V w') := fun V hV => by
    refine (num77 1 V).mono ?_
    rintro e w' ⟨rfl, hb'⟩
    exact ⟨rfl, hV.trans (hb'.mono hV.size), hb'⟩
  have CB : Hid (∀ V, Below wg.heap.size wg V → Calls Tryd.prog 73 #[.agg #[.int .i64 op, .bool true], .agg #[.int .i64 k1, .int .i64 n1, .slice a1 m1 d1], .agg #[.int .i64 0, .int .i64 1, .slice none 0 0]] V fun e w' => e = .returned (.tuple #[.agg #[.int .i64 0, .int .i64 (oi : Int), .slice none 0 0], .int .i64 EO]) ∧ Below wg.heap.size wg w' ∧ Below V.heap.size V w') := fun V hV => by
    refine (HTW1.out V (HTB.out V (S6.bel.trans (hV.mono S6.bel.size)))).mono ?_
    rintro e w' ⟨rfl, hb'⟩
    exact ⟨rfl, hV.trans (hb'.mono hV.size), hb'⟩
  have KS : Hid (∀ V, Below wg.heap.size wg V → (Below wg.heap.size wg V ∧ V.cell? ⟨b, off + j * 3, none⟩ = some (.int .i64 k1) ∧ V.cell? ⟨b, off + j * 3 + 1, none⟩ = some (.int .i64 n1) ∧ V.cell? ⟨b, off + j * 3 + 2, none⟩ = some (.slice a1 m1 d1))) := fun V h =>
    ⟨h, (S6.bel.trans (h.mono S6.bel.size)).cell (p := ⟨b, off + j * 3, none⟩) hbl |>.trans HX.out.1, (S6.bel.trans (h.mono S6.bel.size)).cell (p := ⟨b, off + j * 3 + 1, none⟩) hbl |>.trans HX.out.2.1, (S6.bel.trans (h.mono S6.bel.size)).cell (p := ⟨b, off + j * 3 + 2, none⟩) hbl |>.trans HX.out.2.2⟩
  have HD0 : Hid (Below wg.heap.size wg wg.drew) := (Below.refl _ _).drew
  have HD1 : Hid (Below wg.heap.size wg (wg.alloc (.cells #[.int .i64 0, .int .i64 0, .slice none 0 0] 43)).drew) := (one_alloc _ _).drew
  have HAL : Hid (∀ V o, Below wg.heap.size wg V → Below wg.heap.size wg (V.alloc o)) := fun V o h => h.alloc h.size o
  have HSET : Hid (∀ V b u0 u1 u2, Below wg.heap.size wg V → wg.heap.size ≤ b → Below wg.heap.size wg (((V.setCell ⟨b, 0, none⟩ u0).setCell ⟨b, 1, none⟩ u1).setCell ⟨b, 2, none⟩ u2)) := fun V b u0 u1 u2 h hb => below_set3 h hb
  have HLE : Hid (wg.heap.size ≤ wg.heap.size) := Nat.le_refl _
  clear S6 M6
  go_upto_region 11 with fail
  go_cut [13, 14] from 61 to 71 (fun s9 s10 wx => ∃ vb, s9 = .pointer (some ⟨vb, 0, none⟩) ∧ s10 = .int .i64 EO ∧ Var3 wg wx vb (oi : Int))
  case first =>
    go_region_held3 (fun V => Below wg.heap.size wg V ∧ V.cell? ⟨b, off + j * 3, none⟩ = some (.int .i64 k1) ∧ V.cell? ⟨b, off + j * 3 + 1, none⟩ = some (.int .i64 n1) ∧ V.cell? ⟨b, off + j * 3 + 2, none⟩ = some (.slice a1 m1 d1))
      (first | with_reducible exact KS.out _ HD0.out | with_reducible exact KS.out _ HD1.out | with_reducible exact KS.out _ (by with_reducible assumption) | with_reducible exact KS.out _ (HAL.out _ _ (by with_reducible assumption)) | with_reducible exact KS.out _ (HSET.out _ _ _ _ _ (by with_reducible assumption) HLE.out) | with_reducible exact KS.out _ (HSET.out _ _ _ _ _ (by with_reducible assumption) (Below.size (by with_reducible assumption))))
      (first | (go_at_call 77; first | ((with_reducible refine (CA.out _ HD0.out).mono ?_); rintro e wh ⟨rfl, ga, hba⟩; have ZA : True := trivial) | ((with_reducible refine (CA.out _ HD1.out).mono ?_); rintro e wh ⟨rfl, ga, hba⟩; have ZA := (Zc.new wg (.int .i64 0) (.int .i64 0) (.slice none 0 0)).drew.next hba)) | (go_at_call 73; first | ((with_reducible refine (CB.out _ ga).mono ?_); rintro e wi ⟨rfl, gb, hbb⟩; first | (have ZB := ZA.next hbb; obtain ⟨-, n0', n1', n2', n3, n4, n5⟩ := ZA.next hbb) | (obtain ⟨-, n0', n1', n2', n3, n4, n5⟩ := Zc.new wi (.int .i64 0) (.int .i64 0) (.slice none 0 0))) | ((with_reducible refine (CB.out _ (HAL.out _ _ ga)).mono ?_); rintro e wi ⟨rfl, gb, hbb⟩; have ZB := (Zc.new wh (.int .i64 0) (.int .i64 0) (.slice none 0 0)).next hbb; obtain ⟨-, n0', n1', n2', n3, n4, n5⟩ := (Zc.new wh (.int .i64 0) (.int .i64 0) (.slice none 0 0)).next hbb)))
    all_goals
      go_wp2
      go_meet
    all_goals
      case rel =>
        first
          | exact ⟨_, rfl, rfl, var3_new _ gb⟩
          | exact ⟨_, rfl, rfl, var3_old _ ZB (Nat.le_refl _) gb⟩
          | exact ⟨_, rfl, rfl, var3_old _ ZB ga.size gb⟩
  case rest =>
  obtain ⟨ob, rfl, rfl, VO⟩ := hcut
  generalize wc = wk at *
  have S7 := HZ6.out.2.1.next VO.bel
  have M7 := HZ6.out.2.2.next VO.bel
  have Z7 := HZ6.out.1.next VO.bel
  have c0' := VO.z.c0
  have c1' := VO.z.c1
  have c2' := VO.z.c2
  have q0 := Z7.c0
  have q1 := Z7.c1
  have q2 := Z7.c2
  have hzz : (zi : Int) < 2 := by omega
  have hz0 : (0 : Int) ≤ (zi : Int) := by omega
  have hoz : (oi : Int) < 2 := by omega
  have ho0 : (0 : Int) ≤ (oi : Int) := by omega
  have m0 := M7.c0 zi hzi2
  have m1' := M7.c1 zi hzi2
  have m2' := M7.c2 zi hzi2
  have p0 := M7.c0 oi hoi2
  have p1 := M7.c1 oi hoi2
  have p2 := M7.c2 oi hoi2
  have u0 := M7.c0 0 (by omega)
  have u1 := M7.c1 0 (by omega)
  have u2 := M7.c2 0 (by omega)
  have u3 := M7.c0 1 (by omega)
  have u4 := M7.c1 1 (by omega)
  have u5 := M7.c2 1 (by omega)
  simp only [Nat.zero_mul, Nat.zero_add, Nat.one_mul] at u0 u1 u2 u3 u4 u5
  have g0 := M7.f 0
  have g1 := M7.f 1
  have g2 := M7.f 2
  have g3 := M7.f 3
  have g4 := M7.f 4
  have g5 := M7.f 5
  have HFIN : Hid (ScS n lo L g w0 w G T5 K ((((((wk.setCell ⟨mb, 0, none⟩ (.int .i64 0)).setCell ⟨mb, 1, none⟩ (.int .i64 (foldB op true (cs.take j) (zi : Int)))).setCell ⟨mb, 2, none⟩ (.slice none 0 0)).setCell ⟨mb, 3, none⟩ (.int .i64 0)).setCell ⟨mb, 4, none⟩ (.int .i64 (foldB op true (cs.take j) (oi : Int)))).setCell ⟨mb, 5, none⟩ (.slice none 0 0)).drew ∧ MadeS ((((((wk.setCell ⟨mb, 0, none⟩ (.int .i64 0)).setCell ⟨mb, 1, none⟩ (.int .i64 (foldB op true (cs.take j) (zi : Int)))).setCell ⟨mb, 2, none⟩ (.slice none 0 0)).setCell ⟨mb, 3, none⟩ (.int .i64 0)).setCell ⟨mb, 4, none⟩ (.int .i64 (foldB op true (cs.take j) (oi : Int)))).setCell ⟨mb, 5, none⟩ (.slice none 0 0)).drew mb (fun i => foldB op true (cs.take K) (i : Int)) ∧ ∀ i, i < K → okN op (cAt cs i)) := by
    refine ⟨S7.belowS (below_set6 (Below.refl mb _) (Nat.le_refl _)).drew hgl hmw, ((M7.set (foldB op true (cs.take j) (zi : Int)) (foldB op true (cs.take j) (oi : Int))).next (Below.refl _ _).drew).congr (fun i hi => ?_), fun i hi => ?_⟩
    · rw [← HJK.out]
      have : i = 0 ∨ i = 1 := by omega
      rcases this with rfl | rfl
      · exact HMZ.out.1.symm
      · exact HMZ.out.2.symm
    · have := HJK.out
      by_cases h : i = j
      · rw [h]; exact HS5.out.2.2.2
      · exact HS5.out.2.2.1 i (by omega)
  generalize foldB op true (cs.take j) (zi : Int) = FZ at *
  generalize foldB op true (cs.take j) (oi : Int) = FO at *
  have HG := hide (show L - 1 - K + (K + 1) = L ∧ L - 1 - K < L - 1 - j by have := HLT.out; have := HJK.out; omega)
  clear S7 M7 Z7 VO HTW1 HZ6 CA CB KS HD0 HD1 HAL HSET HLE HS5 HMZ
  generalize foldB op true (cs.take j) ((0 : Nat) : Int) = U0 at *
  generalize foldB op true (cs.take j) ((1 : Nat) : Int) = U1 at *
  go_wp2
  go_region
  all_goals
    go_wp2
    go_roundg (L - 1 - K)
    case rel => exact ⟨K, K + 1, _, HG.out.1, by go_num, rfl, HFIN.out⟩
    case measure => have := HG.out.2; have := HJK.out; omega
end Go.Proofs.YtlfacpclihmnnaaDoor
namespace Go.Proofs.YtlfacpclihmnnaaDoor
open Go.ChangeShapes Go.WideShapes Go.ChangeAt Go.RowKit
open Num (resV resE In64 sgnI absI)
set_option linter.unusedVariables false
set_option linter.unusedSimpArgs false
set_option maxRecDepth 100000
set_option maxHeartbeats 8000000 in
theorem scanned41 {n lo L cap : Nat} {cs : List Ce} {a : Option Addr} {op : Int} {t : Bool} {w0 w : World} (ho : isOp op = true) (hc : CellsO n lo w0 w cs a) (hb0 : Below w0.heap.size w0 w) (hL : cs.length = L) (h1 : 0 < L) (h16 : L ≤ 16384) (hlo : lo ≤ w.heap.size) (hin : ∀ i, i < L → In64 (cAt cs i).2.1) (T : Tab w) :
    Calls Tryd.prog 41 #[.agg #[.int .i64 op, .bool t], .slice a L cap] w fun e w' => GivesN n lo w0 L (rowP op t cs) w e w' := by
  have hr : 21 ≤ op ∧ op ≤ 32 := by simpa [isOp] using ho
  by_cases o21 : op = 21
  · subst o21
    cases t
    · have C45 := of45 21 false (w.alloc (.cells #[.int .i64 21, .bool false] 32))
      have CCX : Hid (∀ W, Below w.heap.size w W → Calls Tryd.prog 68 #[.slice a L cap, .func (.func 74) #[.agg #[.int .i64 21, .bool false]] #[]] W fun e w' => GivesN n lo w0 L (rowP 21 false cs) W e w') := fun W hW => onward74 (by decide) (hc.next hW) hL h1 h16 (Nat.le_trans hlo hW.size) hin (T.next hW)
      have HH0 := hide (one_alloc w (.cells #[.int .i64 21, .bool false] 32))
      clear hc hin T hb0
      generalize rowP 21 false cs = G at *
      unfold fnV at C45
      simp only [Bool.false_eq_true, if_false] at C45
      go_enter Tryd.func41, Tryd.ntmps41
      go_wp2_with fail
      refine C45.mono ?_
      rintro e w2 ⟨rfl, hb2⟩
      clear C45
      have HH := hide (HH0.out.trans (hb2.mono HH0.out.size))
      clear hb2 HH0
      go_wp2_with fail
      refine (CCX.out _ HH.out).mono ?_
      rintro e w3 ⟨r1, r2, hb3⟩
      have HB := hide (HH.out.trans (hb3.mono HH.out.size))
      by_cases h0 : firstUp (fun i => (G i).2) L = 0
      · obtain ⟨g, c', rfl, hco⟩ := r1 h0
        have HF : Hid (GivesN n lo w0 L G w (.returned (.tuple #[.slice (some ⟨g, 0, none⟩) L c', .int .i64 0])) w3) := ⟨fun _ => ⟨g, c', rfl, hco⟩, fun k => absurd h0 k, HB.out⟩
        clear r1 r2 hco hb3 CCX
        go_wp2
        exact bodyPost_ret (v := .tuple #[.slice (some ⟨g, 0, none⟩) L c', .int .i64 0]) (by simp [results, Tryd.results41, go_sem]) rfl HF.out
      · obtain rfl := r2 h0
        have HF : Hid (GivesN n lo w0 L G w (.returned (.tuple #[.slice none 0 0, .int .i64 (firstUp (fun i => (G i).2) L)])) w3) := ⟨fun k => absurd k h0, fun _ => rfl, HB.out⟩
        clear r1 r2 hb3 CCX
        generalize firstUp (fun i => (G i).2) L = EE at *
        go_wp2
        exact bodyPost_ret (v := .tuple #[.slice none 0 0, .int .i64 EE]) (by simp [results, Tryd.results41, go_sem]) rfl HF.out
    · have C45 := of45 21 true (w.alloc (.cells #[.int .i64 21, .bool true] 32))
      have CCX : Hid (∀ W, Below w.heap.size w W → Calls Tryd.prog 68 #[.slice a L cap, .func (.func 73) #[.agg #[.int .i64 21, .bool true]] #[]] W fun e w' => GivesN n lo w0 L (rowP 21 true cs) W e w') := fun W hW => onward73 (by decide) (hc.next hW) hL h1 h16 (Nat.le_trans hlo hW.size) hin (T.next hW)
      have HH0 := hide (one_alloc w (.cells #[.int .i64 21, .bool true] 32))
      clear hc hin T hb0
      generalize rowP 21 true cs = G at *
      unfold fnV at C45
      simp only [if_true] at C45
      go_enter Tryd.func41, Tryd.ntmps41
      go_wp2_with fail
      refine C45.mono ?_
      rintro e w2 ⟨rfl, hb2⟩
      clear C45
      have HH := hide (HH0.out.trans (hb2.mono HH0.out.size))
      clear hb2 HH0
      go_wp2_with fail
      refine (CCX.out _ HH.out).mono ?_
      rintro e w3 ⟨r1, r2, hb3⟩
      have HB := hide (HH.out.trans (hb3.mono HH.out.size))
      by_cases h0 : firstUp (fun i => (G i).2) L = 0
      · obtain ⟨g, c', rfl, hco⟩ := r1 h0
        have HF : Hid (GivesN n lo w0 L G w (.returned (.tuple #[.slice (some ⟨g, 0, none⟩) L c', .int .i64 0])) w3) := ⟨fun _ => ⟨g, c', rfl, hco⟩, fun k => absurd h0 k, HB.out⟩
        clear r1 r2 hco hb3 CCX
        go_wp2
        exact bodyPost_ret (v := .tuple #[.slice (some ⟨g, 0, none⟩) L c', .int .i64 0]) (by simp [results, Tryd.results41, go_sem]) rfl HF.out
      · obtain rfl := r2 h0
        have HF : Hid (GivesN n lo w0 L G w (.returned (.tuple #[.slice none 0 0, .int .i64 (firstUp (fun i => (G i).2) L)])) w3) := ⟨fun k => absurd k h0, fun _ => rfl, HB.out⟩
        clear r1 r2 hb3 CCX
        generalize firstUp (fun i => (G i).2) L = EE at *
        go_wp2
        exact bodyPost_ret (v := .tuple #[.slice none 0 0, .int .i64 EE]) (by simp [results, Tryd.results41, go_sem]) rfl HF.out
  by_cases o23 : op = 23
  · subst o23
    cases t
    · have C45 := of45 23 false (w.alloc (.cells #[.int .i64 23, .bool false] 32))
      have CCX : Hid (∀ W, Below w.heap.size w W → Calls Tryd.prog 68 #[.slice a L cap, .func (.func 74) #[.agg #[.int .i64 23, .bool false]] #[]] W fun e w' => GivesN n lo w0 L (rowP 23 false cs) W e w') := fun W hW => onward74 (by decide) (hc.next hW) hL h1 h16 (Nat.le_trans hlo hW.size) hin (T.next hW)
      have HH0 := hide (one_alloc w (.cells #[.int .i64 23, .bool false] 32))
      clear hc hin T hb0
      generalize rowP 23 false cs = G at *
      unfold fnV at C45
      simp only [Bool.false_eq_true, if_false] at C45
      go_enter Tryd.func41, Tryd.ntmps41
      go_wp2_with fail
      refine C45.mono ?_
      rintro e w2 ⟨rfl, hb2⟩
      clear C45
      have HH := hide (HH0.out.trans (hb2.mono HH0.out.size))
      clear hb2 HH0
      go_wp2_with fail
      refine (CCX.out _ HH.out).mono ?_
      rintro e w3 ⟨r1, r2, hb3⟩
      have HB := hide (HH.out.trans (hb3.mono HH.out.size))
      by_cases h0 : firstUp (fun i => (G i).2) L = 0
      · obtain ⟨g, c', rfl, hco⟩ := r1 h0
        have HF : Hid (GivesN n lo w0 L G w (.returned (.tuple #[.slice (some ⟨g, 0, none⟩) L c', .int .i64 0])) w3) := ⟨fun _ => ⟨g, c', rfl, hco⟩, fun k => absurd h0 k, HB.out⟩
        clear r1 r2 hco hb3 CCX
        go_wp2
        exact bodyPost_ret (v := .tuple #[.slice (some ⟨g, 0, none⟩) L c', .int .i64 0]) (by simp [results, Tryd.results41, go_sem]) rfl HF.out
      · obtain rfl := r2 h0
        have HF : Hid (GivesN n lo w0 L G w (.returned (.tuple #[.slice none 0 0, .int .i64 (firstUp (fun i => (G i).2) L)])) w3) := ⟨fun k => absurd k h0, fun _ => rfl, HB.out⟩
        clear r1 r2 hb3 CCX
        generalize firstUp (fun i => (G i).2) L = EE at *
        go_wp2
        exact bodyPost_ret (v := .tuple #[.slice none 0 0, .int .i64 EE]) (by simp [results, Tryd.results41, go_sem]) rfl HF.out
    · have C45 := of45 23 true (w.alloc (.cells #[.int .i64 23, .bool true] 32))
      have CCX : Hid (∀ W, Below w.heap.size w W → Calls Tryd.prog 68 #[.slice a L cap, .func (.func 73) #[.agg #[.int .i64 23, .bool true]] #[]] W fun e w' => GivesN n lo w0 L (rowP 23 true cs) W e w') := fun W hW => onward73 (by decide) (hc.next hW) hL h1 h16 (Nat.le_trans hlo hW.size) hin (T.next hW)
      have HH0 := hide (one_alloc w (.cells #[.int .i64 23, .bool true] 32))
      clear hc hin T hb0
      generalize rowP 23 true cs = G at *
      unfold fnV at C45
      simp only [if_true] at C45
      go_enter Tryd.func41, Tryd.ntmps41
      go_wp2_with fail
      refine C45.mono ?_
      rintro e w2 ⟨rfl, hb2⟩
      clear C45
      have HH := hide (HH0.out.trans (hb2.mono HH0.out.size))
      clear hb2 HH0
      go_wp2_with fail
      refine (CCX.out _ HH.out).mono ?_
      rintro e w3 ⟨r1, r2, hb3⟩
      have HB := hide (HH.out.trans (hb3.mono HH.out.size))
      by_cases h0 : firstUp (fun i => (G i).2) L = 0
      · obtain ⟨g, c', rfl, hco⟩ := r1 h0
        have HF : Hid (GivesN n lo w0 L G w (.returned (.tuple #[.slice (some ⟨g, 0, none⟩) L c', .int .i64 0])) w3) := ⟨fun _ => ⟨g, c', rfl, hco⟩, fun k => absurd h0 k, HB.out⟩
        clear r1 r2 hco hb3 CCX
        go_wp2
        exact bodyPost_ret (v := .tuple #[.slice (some ⟨g, 0, none⟩) L c', .int .i64 0]) (by simp [results, Tryd.results41, go_sem]) rfl HF.out
      · obtain rfl := r2 h0
        have HF : Hid (GivesN n lo w0 L G w (.returned (.tuple #[.slice none 0 0, .int .i64 (firstUp (fun i => (G i).2) L)])) w3) := ⟨fun k => absurd k h0, fun _ => rfl, HB.out⟩
        clear r1 r2 hb3 CCX
        generalize firstUp (fun i => (G i).2) L = EE at *
        go_wp2
        exact bodyPost_ret (v := .tuple #[.slice none 0 0, .int .i64 EE]) (by simp [results, Tryd.results41, go_sem]) rfl HF.out
  by_cases o24 : op = 24
  · subst o24
    cases t
    · have C45 := of45 24 false (w.alloc (.cells #[.int .i64 24, .bool false] 32))
      have CCX : Hid (∀ W, Below w.heap.size w W → Calls Tryd.prog 68 #[.slice a L cap, .func (.func 74) #[.agg #[.int .i64 24, .bool false]] #[]] W fun e w' => GivesN n lo w0 L (rowP 24 false cs) W e w') := fun W hW => onward74 (by decide) (hc.next hW) hL h1 h16 (Nat.le_trans hlo hW.size) hin (T.next hW)
      have HH0 := hide (one_alloc w (.cells #[.int .i64 24, .bool false] 32))
      clear hc hin T hb0
      generalize rowP 24 false cs = G at *
      unfold fnV at C45
      simp only [Bool.false_eq_true, if_false] at C45
      go_enter Tryd.func41, Tryd.ntmps41
      go_wp2_with fail
      refine C45.mono ?_
      rintro e w2 ⟨rfl, hb2⟩
      clear C45
      have HH := hide (HH0.out.trans (hb2.mono HH0.out.size))
      clear hb2 HH0
      go_wp2_with fail
      refine (CCX.out _ HH.out).mono ?_
      rintro e w3 ⟨r1, r2, hb3⟩
      have HB := hide (HH.out.trans (hb3.mono HH.out.size))
      by_cases h0 : firstUp (fun i => (G i).2) L = 0
      · obtain ⟨g, c', rfl, hco⟩ := r1 h0
        have HF : Hid (GivesN n lo w0 L G w (.returned (.tuple #[.slice (some ⟨g, 0, none⟩) L c', .int .i64 0])) w3) := ⟨fun _ => ⟨g, c', rfl, hco⟩, fun k => absurd h0 k, HB.out⟩
        clear r1 r2 hco hb3 CCX
        go_wp2
        exact bodyPost_ret (v := .tuple #[.slice (some ⟨g, 0, none⟩) L c', .int .i64 0]) (by simp [results, Tryd.results41, go_sem]) rfl HF.out
      · obtain rfl := r2 h0
        have HF : Hid (GivesN n lo w0 L G w (.returned (.tuple #[.slice none 0 0, .int .i64 (firstUp (fun i => (G i).2) L)])) w3) := ⟨fun k => absurd k h0, fun _ => rfl, HB.out⟩
        clear r1 r2 hb3 CCX
        generalize firstUp (fun i => (G i).2) L = EE at *
        go_wp2
        exact bodyPost_ret (v := .tuple #[.slice none 0 0, .int .i64 EE]) (by simp [results, Tryd.results41, go_sem]) rfl HF.out
    · have C45 := of45 24 true (w.alloc (.cells #[.int .i64 24, .bool true] 32))
      have CCX : Hid (∀ W, Below w.heap.size w W → Calls Tryd.prog 68 #[.slice a L cap, .func (.func 73) #[.agg #[.int .i64 24, .bool true]] #[]] W fun e w' => GivesN n lo w0 L (rowP 24 true cs) W e w') := fun W hW => onward73 (by decide) (hc.next hW) hL h1 h16 (Nat.le_trans hlo hW.size) hin (T.next hW)
      have HH0 := hide (one_alloc w (.cells #[.int .i64 24, .bool true] 32))
      clear hc hin T hb0
      generalize rowP 24 true cs = G at *
      unfold fnV at C45
      simp only [if_true] at C45
      go_enter Tryd.func41, Tryd.ntmps41
      go_wp2_with fail
      refine C45.mono ?_
      rintro e w2 ⟨rfl, hb2⟩
      clear C45
      have HH := hide (HH0.out.trans (hb2.mono HH0.out.size))
      clear hb2 HH0
      go_wp2_with fail
      refine (CCX.out _ HH.out).mono ?_
      rintro e w3 ⟨r1, r2, hb3⟩
      have HB := hide (HH.out.trans (hb3.mono HH.out.size))
      by_cases h0 : firstUp (fun i => (G i).2) L = 0
      · obtain ⟨g, c', rfl, hco⟩ := r1 h0
        have HF : Hid (GivesN n lo w0 L G w (.returned (.tuple #[.slice (some ⟨g, 0, none⟩) L c', .int .i64 0])) w3) := ⟨fun _ => ⟨g, c', rfl, hco⟩, fun k => absurd h0 k, HB.out⟩
        clear r1 r2 hco hb3 CCX
        go_wp2
        exact bodyPost_ret (v := .tuple #[.slice (some ⟨g, 0, none⟩) L c', .int .i64 0]) (by simp [results, Tryd.results41, go_sem]) rfl HF.out
      · obtain rfl := r2 h0
        have HF : Hid (GivesN n lo w0 L G w (.returned (.tuple #[.slice none 0 0, .int .i64 (firstUp (fun i => (G i).2) L)])) w3) := ⟨fun k => absurd k h0, fun _ => rfl, HB.out⟩
        clear r1 r2 hb3 CCX
        generalize firstUp (fun i => (G i).2) L = EE at *
        go_wp2
        exact bodyPost_ret (v := .tuple #[.slice none 0 0, .int .i64 EE]) (by simp [results, Tryd.results41, go_sem]) rfl HF.out
  by_cases o25 : op = 25
  · subst o25
    cases t
    · have C45 := of45 25 false (w.alloc (.cells #[.int .i64 25, .bool false] 32))
      have CCX : Hid (∀ W, Below w.heap.size w W → Calls Tryd.prog 68 #[.slice a L cap, .func (.func 74) #[.agg #[.int .i64 25, .bool false]] #[]] W fun e w' => GivesN n lo w0 L (rowP 25 false cs) W e w') := fun W hW => onward74 (by decide) (hc.next hW) hL h1 h16 (Nat.le_trans hlo hW.size) hin (T.next hW)
      have HH0 := hide (one_alloc w (.cells #[.int .i64 25, .bool false] 32))
      clear hc hin T hb0
      generalize rowP 25 false cs = G at *
      unfold fnV at C45
      simp only [Bool.false_eq_true, if_false] at C45
      go_enter Tryd.func41, Tryd.ntmps41
      go_wp2_with fail
      refine C45.mono ?_
      rintro e w2 ⟨rfl, hb2⟩
      clear C45
      have HH := hide (HH0.out.trans (hb2.mono HH0.out.size))
      clear hb2 HH0
      go_wp2_with fail
      refine (CCX.out _ HH.out).mono ?_
      rintro e w3 ⟨r1, r2, hb3⟩
      have HB := hide (HH.out.trans (hb3.mono HH.out.size))
      by_cases h0 : firstUp (fun i => (G i).2) L = 0
      · obtain ⟨g, c', rfl, hco⟩ := r1 h0
        have HF : Hid (GivesN n lo w0 L G w (.returned (.tuple #[.slice (some ⟨g, 0, none⟩) L c', .int .i64 0])) w3) := ⟨fun _ => ⟨g, c', rfl, hco⟩, fun k => absurd h0 k, HB.out⟩
        clear r1 r2 hco hb3 CCX
        go_wp2
        exact bodyPost_ret (v := .tuple #[.slice (some ⟨g, 0, none⟩) L c', .int .i64 0]) (by simp [results, Tryd.results41, go_sem]) rfl HF.out
      · obtain rfl := r2 h0
        have HF : Hid (GivesN n lo w0 L G w (.returned (.tuple #[.slice none 0 0, .int .i64 (firstUp (fun i => (G i).2) L)])) w3) := ⟨fun k => absurd k h0, fun _ => rfl, HB.out⟩
        clear r1 r2 hb3 CCX
        generalize firstUp (fun i => (G i).2) L = EE at *
        go_wp2
        exact bodyPost_ret (v := .tuple #[.slice none 0 0, .int .i64 EE]) (by simp [results, Tryd.results41, go_sem]) rfl HF.out
    · have C45 := of45 25 true (w.alloc (.cells #[.int .i64 25, .bool true] 32))
      have CCX : Hid (∀ W, Below w.heap.size w W → Calls Tryd.prog 68 #[.slice a L cap, .func (.func 73) #[.agg #[.int .i64 25, .bool true]] #[]] W fun e w' => GivesN n lo w0 L (rowP 25 true cs) W e w') := fun W hW => onward73 (by decide) (hc.next hW) hL h1 h16 (Nat.le_trans hlo hW.size) hin (T.next hW)
      have HH0 := hide (one_alloc w (.cells #[.int .i64 25, .bool true] 32))
      clear hc hin T hb0
      generalize rowP 25 true cs = G at *
      unfold fnV at C45
      simp only [if_true] at C45
      go_enter Tryd.func41, Tryd.ntmps41
      go_wp2_with fail
      refine C45.mono ?_
      rintro e w2 ⟨rfl, hb2⟩
      clear C45
      have HH := hide (HH0.out.trans (hb2.mono HH0.out.size))
      clear hb2 HH0
      go_wp2_with fail
      refine (CCX.out _ HH.out).mono ?_
      rintro e w3 ⟨r1, r2, hb3⟩
      have HB := hide (HH.out.trans (hb3.mono HH.out.size))
      by_cases h0 : firstUp (fun i => (G i).2) L = 0
      · obtain ⟨g, c', rfl, hco⟩ := r1 h0
        have HF : Hid (GivesN n lo w0 L G w (.returned (.tuple #[.slice (some ⟨g, 0, none⟩) L c', .int .i64 0])) w3) := ⟨fun _ => ⟨g, c', rfl, hco⟩, fun k => absurd h0 k, HB.out⟩
        clear r1 r2 hco hb3 CCX
        go_wp2
        exact bodyPost_ret (v := .tuple #[.slice (some ⟨g, 0, none⟩) L c', .int .i64 0]) (by simp [results, Tryd.results41, go_sem]) rfl HF.out
      · obtain rfl := r2 h0
        have HF : Hid (GivesN n lo w0 L G w (.returned (.tuple #[.slice none 0 0, .int .i64 (firstUp (fun i => (G i).2) L)])) w3) := ⟨fun k => absurd k h0, fun _ => rfl, HB.out⟩
        clear r1 r2 hb3 CCX
        generalize firstUp (fun i => (G i).2) L = EE at *
        go_wp2
        exact bodyPost_ret (v := .tuple #[.slice none 0 0, .int .i64 EE]) (by simp [results, Tryd.results41, go_sem]) rfl HF.out
  by_cases o22 : op = 22
  · subst o22
    cases t
    · have HH := hide (one_alloc w (.cells #[.int .i64 22, .bool false] 32))
      have CCX : Hid (∀ W, Below w.heap.size w W → Calls Tryd.prog 69 #[.slice a L cap, .func (.func 70) #[.agg #[.int .i64 22, .bool false]] #[]] W fun e w' => GivesN n lo w0 L (rowP 22 false cs) W e w') := fun W hW => anew69 (by decide) (hc.next hW) (hb0.trans (hW.mono hb0.size)) hL h1 h16 (Nat.le_trans hlo hW.size) hin
      clear hc hin T hb0
      generalize rowP 22 false cs = G at *
      go_enter Tryd.func41, Tryd.ntmps41
      go_wp2_with fail
      refine (CCX.out _ HH.out).mono ?_
      rintro e w3 ⟨r1, r2, hb3⟩
      have HB := hide (HH.out.trans (hb3.mono HH.out.size))
      by_cases h0 : firstUp (fun i => (G i).2) L = 0
      · obtain ⟨g, c', rfl, hco⟩ := r1 h0
        have HF : Hid (GivesN n lo w0 L G w (.returned (.tuple #[.slice (some ⟨g, 0, none⟩) L c', .int .i64 0])) w3) := ⟨fun _ => ⟨g, c', rfl, hco⟩, fun k => absurd h0 k, HB.out⟩
        clear r1 r2 hco hb3 CCX
        go_wp2
        exact bodyPost_ret (v := .tuple #[.slice (some ⟨g, 0, none⟩) L c', .int .i64 0]) (by simp [results, Tryd.results41, go_sem]) rfl HF.out
      · obtain rfl := r2 h0
        have HF : Hid (GivesN n lo w0 L G w (.returned (.tuple #[.slice none 0 0, .int .i64 (firstUp (fun i => (G i).2) L)])) w3) := ⟨fun k => absurd k h0, fun _ => rfl, HB.out⟩
        clear r1 r2 hb3 CCX
        generalize firstUp (fun i => (G i).2) L = EE at *
        go_wp2
        exact bodyPost_ret (v := .tuple #[.slice none 0 0, .int .i64 EE]) (by simp [results, Tryd.results41, go_sem]) rfl HF.out
    · have HH := hide (one_alloc w (.cells #[.int .i64 22, .bool true] 32))
      have CCX : Hid (∀ W, Below w.heap.size w W → Calls Tryd.prog 69 #[.slice a L cap, .func (.func 70) #[.agg #[.int .i64 22, .bool true]] #[]] W fun e w' => GivesN n lo w0 L (rowP 22 true cs) W e w') := fun W hW => anew69 (by decide) (hc.next hW) (hb0.trans (hW.mono hb0.size)) hL h1 h16 (Nat.le_trans hlo hW.size) hin
      clear hc hin T hb0
      generalize rowP 22 true cs = G at *
      go_enter Tryd.func41, Tryd.ntmps41
      go_wp2_with fail
      refine (CCX.out _ HH.out).mono ?_
      rintro e w3 ⟨r1, r2, hb3⟩
      have HB := hide (HH.out.trans (hb3.mono HH.out.size))
      by_cases h0 : firstUp (fun i => (G i).2) L = 0
      · obtain ⟨g, c', rfl, hco⟩ := r1 h0
        have HF : Hid (GivesN n lo w0 L G w (.returned (.tuple #[.slice (some ⟨g, 0, none⟩) L c', .int .i64 0])) w3) := ⟨fun _ => ⟨g, c', rfl, hco⟩, fun k => absurd h0 k, HB.out⟩
        clear r1 r2 hco hb3 CCX
        go_wp2
        exact bodyPost_ret (v := .tuple #[.slice (some ⟨g, 0, none⟩) L c', .int .i64 0]) (by simp [results, Tryd.results41, go_sem]) rfl HF.out
      · obtain rfl := r2 h0
        have HF : Hid (GivesN n lo w0 L G w (.returned (.tuple #[.slice none 0 0, .int .i64 (firstUp (fun i => (G i).2) L)])) w3) := ⟨fun k => absurd k h0, fun _ => rfl, HB.out⟩
        clear r1 r2 hb3 CCX
        generalize firstUp (fun i => (G i).2) L = EE at *
        go_wp2
        exact bodyPost_ret (v := .tuple #[.slice none 0 0, .int .i64 EE]) (by simp [results, Tryd.results41, go_sem]) rfl HF.out
  by_cases o26 : op = 26
  · subst o26
    cases t
    · have HH := hide (one_alloc w (.cells #[.int .i64 26, .bool false] 32))
      have CCX : Hid (∀ W, Below w.heap.size w W → Calls Tryd.prog 69 #[.slice a L cap, .func (.func 70) #[.agg #[.int .i64 26, .bool false]] #[]] W fun e w' => GivesN n lo w0 L (rowP 26 false cs) W e w') := fun W hW => anew69 (by decide) (hc.next hW) (hb0.trans (hW.mono hb0.size)) hL h1 h16 (Nat.le_trans hlo hW.size) hin
      clear hc hin T hb0
      generalize rowP 26 false cs = G at *
      go_enter Tryd.func41, Tryd.ntmps41
      go_wp2_with fail
      refine (CCX.out _ HH.out).mono ?_
      rintro e w3 ⟨r1, r2, hb3⟩
      have HB := hide (HH.out.trans (hb3.mono HH.out.size))
      by_cases h0 : firstUp (fun i => (G i).2) L = 0
      · obtain ⟨g, c', rfl, hco⟩ := r1 h0
        have HF : Hid (GivesN n lo w0 L G w (.returned (.tuple #[.slice (some ⟨g, 0, none⟩) L c', .int .i64 0])) w3) := ⟨fun _ => ⟨g, c', rfl, hco⟩, fun k => absurd h0 k, HB.out⟩
        clear r1 r2 hco hb3 CCX
        go_wp2
        exact bodyPost_ret (v := .tuple #[.slice (some ⟨g, 0, none⟩) L c', .int .i64 0]) (by simp [results, Tryd.results41, go_sem]) rfl HF.out
      · obtain rfl := r2 h0
        have HF : Hid (GivesN n lo w0 L G w (.returned (.tuple #[.slice none 0 0, .int .i64 (firstUp (fun i => (G i).2) L)])) w3) := ⟨fun k => absurd k h0, fun _ => rfl, HB.out⟩
        clear r1 r2 hb3 CCX
        generalize firstUp (fun i => (G i).2) L = EE at *
        go_wp2
        exact bodyPost_ret (v := .tuple #[.slice none 0 0, .int .i64 EE]) (by simp [results, Tryd.results41, go_sem]) rfl HF.out
    · have HH := hide (one_alloc w (.cells #[.int .i64 26, .bool true] 32))
      have CCX : Hid (∀ W, Below w.heap.size w W → Calls Tryd.prog 69 #[.slice a L cap, .func (.func 70) #[.agg #[.int .i64 26, .bool true]] #[]] W fun e w' => GivesN n lo w0 L (rowP 26 true cs) W e w') := fun W hW => anew69 (by decide) (hc.next hW) (hb0.trans (hW.mono hb0.size)) hL h1 h16 (Nat.le_trans hlo hW.size) hin
      clear hc hin T hb0
      generalize rowP 26 true cs = G at *
      go_enter Tryd.func41, Tryd.ntmps41
      go_wp2_with fail
      refine (CCX.out _ HH.out).mono ?_
      rintro e w3 ⟨r1, r2, hb3⟩
      have HB := hide (HH.out.trans (hb3.mono HH.out.size))
      by_cases h0 : firstUp (fun i => (G i).2) L = 0
      · obtain ⟨g, c', rfl, hco⟩ := r1 h0
        have HF : Hid (GivesN n lo w0 L G w (.returned (.tuple #[.slice (some ⟨g, 0, none⟩) L c', .int .i64 0])) w3) := ⟨fun _ => ⟨g, c', rfl, hco⟩, fun k => absurd h0 k, HB.out⟩
        clear r1 r2 hco hb3 CCX
        go_wp2
        exact bodyPost_ret (v := .tuple #[.slice (some ⟨g, 0, none⟩) L c', .int .i64 0]) (by simp [results, Tryd.results41, go_sem]) rfl HF.out
      · obtain rfl := r2 h0
        have HF : Hid (GivesN n lo w0 L G w (.returned (.tuple #[.slice none 0 0, .int .i64 (firstUp (fun i => (G i).2) L)])) w3) := ⟨fun k => absurd k h0, fun _ => rfl, HB.out⟩
        clear r1 r2 hb3 CCX
        generalize firstUp (fun i => (G i).2) L = EE at *
        go_wp2
        exact bodyPost_ret (v := .tuple #[.slice none 0 0, .int .i64 EE]) (by simp [results, Tryd.results41, go_sem]) rfl HF.out
  have e21 : (op == 21) = false := beq_eq_false_iff_ne.2 o21
  have e23 : (op == 23) = false := beq_eq_false_iff_ne.2 o23
  have e24 : (op == 24) = false := beq_eq_false_iff_ne.2 o24
  have e25 : (op == 25) = false := beq_eq_false_iff_ne.2 o25
  have e22 : (op == 22) = false := beq_eq_false_iff_ne.2 o22
  have e26 : (op == 26) = false := beq_eq_false_iff_ne.2 o26
  cases t
  · have C45 := of45 op false (w.alloc (.cells #[.int .i64 op, .bool false] 32))
    have CCX : Hid (∀ W, Below w.heap.size w W → Calls Tryd.prog 71 #[.slice a L cap, .func (.func 74) #[.agg #[.int .i64 op, .bool false]] #[]] W fun e w' => GivesN n lo w0 L (rowP op false cs) W e w') := fun W hW => truths74 (by omega) (by omega) (hc.next hW) hL h1 h16 (Nat.le_trans hlo hW.size) hin (T.next hW)
    have HH0 := hide (one_alloc w (.cells #[.int .i64 op, .bool false] 32))
    clear hc hin T hb0
    generalize rowP op false cs = G at *
    unfold fnV at C45
    simp only [Bool.false_eq_true, if_false] at C45
    go_enter Tryd.func41, Tryd.ntmps41
    go_wp2_with fail
    refine C45.mono ?_
    rintro e w2 ⟨rfl, hb2⟩
    clear C45
    have HH := hide (HH0.out.trans (hb2.mono HH0.out.size))
    clear hb2 HH0
    go_wp2_with fail
    refine (CCX.out _ HH.out).mono ?_
    rintro e w3 ⟨r1, r2, hb3⟩
    have HB := hide (HH.out.trans (hb3.mono HH.out.size))
    by_cases h0 : firstUp (fun i => (G i).2) L = 0
    · obtain ⟨g, c', rfl, hco⟩ := r1 h0
      have HF : Hid (GivesN n lo w0 L G w (.returned (.tuple #[.slice (some ⟨g, 0, none⟩) L c', .int .i64 0])) w3) := ⟨fun _ => ⟨g, c', rfl, hco⟩, fun k => absurd h0 k, HB.out⟩
      clear r1 r2 hco hb3 CCX
      go_wp2
      exact bodyPost_ret (v := .tuple #[.slice (some ⟨g, 0, none⟩) L c', .int .i64 0]) (by simp [results, Tryd.results41, go_sem]) rfl HF.out
    · obtain rfl := r2 h0
      have HF : Hid (GivesN n lo w0 L G w (.returned (.tuple #[.slice none 0 0, .int .i64 (firstUp (fun i => (G i).2) L)])) w3) := ⟨fun k => absurd k h0, fun _ => rfl, HB.out⟩
      clear r1 r2 hb3 CCX
      generalize firstUp (fun i => (G i).2) L = EE at *
      go_wp2
      exact bodyPost_ret (v := .tuple #[.slice none 0 0, .int .i64 EE]) (by simp [results, Tryd.results41, go_sem]) rfl HF.out
  · have C45 := of45 op true (w.alloc (.cells #[.int .i64 op, .bool true] 32))
    have CCX : Hid (∀ W, Below w.heap.size w W → Calls Tryd.prog 71 #[.slice a L cap, .func (.func 73) #[.agg #[.int .i64 op, .bool true]] #[]] W fun e w' => GivesN n lo w0 L (rowP op true cs) W e w') := fun W hW => truths73 (by omega) (by omega) (hc.next hW) hL h1 h16 (Nat.le_trans hlo hW.size) hin (T.next hW)
    have HH0 := hide (one_alloc w (.cells #[.int .i64 op, .bool true] 32))
    clear hc hin T hb0
    generalize rowP op true cs = G at *
    unfold fnV at C45
    simp only [if_true] at C45
    go_enter Tryd.func41, Tryd.ntmps41
    go_wp2_with fail
    refine C45.mono ?_
    rintro e w2 ⟨rfl, hb2⟩
    clear C45
    have HH := hide (HH0.out.trans (hb2.mono HH0.out.size))
    clear hb2 HH0
    go_wp2_with fail
    refine (CCX.out _ HH.out).mono ?_
    rintro e w3 ⟨r1, r2, hb3⟩
    have HB := hide (HH.out.trans (hb3.mono HH.out.size))
    by_cases h0 : firstUp (fun i => (G i).2) L = 0
    · obtain ⟨g, c', rfl, hco⟩ := r1 h0
      have HF : Hid (GivesN n lo w0 L G w (.returned (.tuple #[.slice (some ⟨g, 0, none⟩) L c', .int .i64 0])) w3) := ⟨fun _ => ⟨g, c', rfl, hco⟩, fun k => absurd h0 k, HB.out⟩
      clear r1 r2 hco hb3 CCX
      go_wp2
      exact bodyPost_ret (v := .tuple #[.slice (some ⟨g, 0, none⟩) L c', .int .i64 0]) (by simp [results, Tryd.results41, go_sem]) rfl HF.out
    · obtain rfl := r2 h0
      have HF : Hid (GivesN n lo w0 L G w (.returned (.tuple #[.slice none 0 0, .int .i64 (firstUp (fun i => (G i).2) L)])) w3) := ⟨fun k => absurd k h0, fun _ => rfl, HB.out⟩
      clear r1 r2 hb3 CCX
      generalize firstUp (fun i => (G i).2) L = EE at *
      go_wp2
      exact bodyPost_ret (v := .tuple #[.slice none 0 0, .int .i64 EE]) (by simp [results, Tryd.results41, go_sem]) rfl HF.out
end Go.Proofs.YtlfacpclihmnnaaDoor
namespace Go.Proofs.YtlfacpclihmnnaaDoor
open Go.ChangeShapes Go.WideShapes Go.ChangeAt Go.RowKit
open Num (resV resE In64 sgnI absI)
set_option linter.unusedVariables false
set_option linter.unusedSimpArgs false
theorem prodL_app (l m : List Int) : prodL (l ++ m) = prodL l * prodL m := by
  induction l with
  | nil => simp [prodL]
  | cons z l ih => simp only [List.cons_append, prodL, ih, Int.mul_assoc]
theorem prodL_out (last : Bool) (s : List Int) (h : 0 < s.length) : prodL s = prodL (outS last s) * lgI last s := by
  cases last with
  | false =>
    cases s with
    | nil => simp at h
    | cons z r =>
      show z * prodL r = prodL r * z
      exact Int.mul_comm _ _
  | true =>
    have e : s = s.take (s.length - 1) ++ [gI s (s.length - 1)] := by
      have h1 := List.take_append_drop (s.length - 1) s
      have h2 : s.drop (s.length - 1) = [gI s (s.length - 1)] := by
        rw [List.drop_eq_getElem_cons (by omega), show s.length - 1 + 1 = s.length by omega, List.drop_length]
        simp [gI, show s.length - 1 < s.length by omega]
      rw [h2] at h1
      exact h1.symm
    have e2 : prodL s = prodL (s.take (s.length - 1) ++ [gI s (s.length - 1)]) := by rw [← e]
    rw [e2, prodL_app]
    simp [prodL, outS, lgI]
theorem lgI_nonneg {last : Bool} {s : List Int} (h : ∀ z ∈ s, 0 ≤ z) (h1 : 0 < s.length) : 0 ≤ lgI last s := by
  unfold lgI
  cases last
  · simp only [gI]
    have : s[0]? = some s[0] := List.getElem?_eq_getElem h1
    simp only [this, Option.getD_some]
    exact h _ (List.getElem_mem _)
  · simp only [gI]
    have : s[s.length - 1]? = some (s[s.length - 1]'(by omega)) := List.getElem?_eq_getElem (by omega)
    simp only [this, Option.getD_some]
    exact h _ (List.getElem_mem _)
/-- How long an array's lines are, how far their cells stand from each other, how far the lines. -/
def lgN (last : Bool) (s : List Int) : Nat := (lgI last s).toNat
def stN (last : Bool) (m : Nat) : Nat := if last then 1 else m
def nxN (last : Bool) (s : List Int) : Nat := if last then (lgI last s).toNat else 1
theorem lines_in {last : Bool} {s : List Int} {m C : Nat} (h1 : 0 < s.length) (hs : sizeE s = 0) (hC : sizeV s = (C : Int)) (ho : sizeE (outS last s) = 0) (hm : sizeV (outS last s) = (m : Int)) (h0 : 0 < m) :
    lgN last s ≤ 16384 ∧ ∀ i k, i < m → k < lgN last s → i * nxN last s + k * stN last m < C := by
  have hnn := (fine_cases hs).2.1
  have hl0 := lgI_nonneg (last := last) hnn h1
  have hp := prodL_out last s h1
  rw [← sizeV_prod hs, ← sizeV_prod ho, hC, hm] at hp
  have hC16 := (sizeV_le hs).2
  rw [hC] at hC16
  obtain ⟨g, hg⟩ : ∃ g : Nat, lgI last s = (g : Int) := ⟨(lgI last s).toNat, by omega⟩
  have hgn : lgN last s = g := by unfold lgN; rw [hg]; simp
  rw [hg] at hp
  have hCg : C = m * g := by exact_mod_cast hp
  have hle : g ≤ C := by rw [hCg]; exact Nat.le_mul_of_pos_left g h0
  rw [hgn]
  refine ⟨by omega, fun i k hi hk => ?_⟩
  cases last with
  | true =>
    have e1 : nxN true s = g := by unfold nxN; rw [hg]; simp
    have e2 : stN true m = 1 := rfl
    rw [e1, e2, hCg, Nat.mul_one]
    calc i * g + k < i * g + g := by omega
      _ = (i + 1) * g := by rw [Nat.add_mul, Nat.one_mul]
      _ ≤ m * g := Nat.mul_le_mul_right g (by omega)
  | false =>
    have e1 : nxN false s = 1 := rfl
    have e2 : stN false m = m := rfl
    rw [e1, e2, hCg, Nat.mul_one]
    calc i + k * m < m + k * m := by omega
      _ = (k + 1) * m := by rw [Nat.add_mul, Nat.one_mul, Nat.add_comm]
      _ ≤ g * m := Nat.mul_le_mul_right m (by omega)
      _ = m * g := Nat.mul_comm _ _
end Go.Proofs.YtlfacpclihmnnaaDoor
