/-
  The contract of the statements' own look whether an array is not more than is waited for: what is light is thin: no more than so many boxes within one another; for all arrays.
  An array is the same as itself, and the arrays that Atom and Nums make may be: the plain mathematics of it; and a slice of int64 that came in, as a row.
  The contract of layer 3's copy of a cell, given that of the array in its box: the same cell, its box in memory of its own; for all cells that may be.
  The contract of layer 3's Copy: the same array in memory of its own; for all arrays that may be.
  Layer 5's plain mathematics: steps along axes, places turned round, shapes that may be, arrays made of others' cells; no program is named.
  The contracts of layer 5's strides and of the library's Reverse, over rows of the call's own.
  Layer 5's answers as plain data, and what a call's own memory holds while it goes on: the boxed argument, the answer's place.
  The contract of layer 5's Reshape: any array laid in any shape.
  The contract of layer 5's first: the first item, of an array whose slices are no longer than their rows.
  The contracts of the document's Tally, back and Numbers of layer 5.
  The contract of layer 5's gather: the cells that the steps lead to, in the order of the places.
  Rows that append has put together, in a field of a variable: numbers, cells. No program's function is named.
  Parts of slices as letters, append of whatever row behind a row of the call's own, rows that append has put together and that may be written. The contracts of the document's Item, count and boxes.
  Layer 8: a number as a cell; the function of two cells, straight or exchanged; what a line of no cells comes to.
  Layer 8: the numbers with which a line begins (both as mathematics and as the program's contract).
  Layer 8: a line of cells folded from the right, as mathematics; a cell's place in memory; ofTwo.
-/
import Derived.Test.YtlfacpclihmnnaaDoorM1
import Derived.WalkKit
import Derived.Test.YtlfacpclihmnnaaDoorChecked
import GoSem.Claim
import GoSem.ClaimJoined
import GoSem.ClaimMapViews
import Derived.JoinedTies
import Derived.KernelRfl
import Derived.ProofKit
import Derived.Below
import Derived.Deep.OwnRows
import Derived.Deep.QuietTactic
import Derived.BigQuiet
import Derived.Deep.RegionWith
import Derived.Laws.MakeOwn
import Derived.Deep.RegionHeld3
import Derived.OpenShut
import Derived.Lib.Mul64
import Derived.Laws.Bits64b
import Derived.ChangeOld
import Derived.SizedLaws
import Derived.Deep.Slices
import Derived.Deep.Strs
import Derived.Deep.LoopGhost
import Derived.Laws.IdiomCopy
import Derived.Deep.Cut
import Derived.Deep.RegionLaw
import Derived.Laws.AppendOwnNone
import Derived.BigFrame
import Derived.Laws.OwnMore
import Derived.OwnWalk
import Derived.Lib.SliceRun
import Derived.Deep.CutRange
import Derived.Laws.EntriesVeiled
import GoSem.ClaimSeven
import Derived.LaidByTextLater
import Derived.SevenTiedAt
import Derived.LaidSub
import Derived.LaidOnce
import Derived.Deep.DeepHandedRow
import Derived.Lib.LaidTab
namespace Go.Proofs.YtlfacpclihmnnaaDoor
open Go.ChangeShapes Go.WideShapes Go.ChangeAt Go.RowKit
set_option linter.unusedVariables false
/-- No more than d boxes within one another, whatever array of a box is gone into. -/
def Thin : Nat → Ar → Prop
  | 0, x => ∀ i, i < x.cells.length → ∀ k, k < (cAt x.cells i).2.2.length → False
  | d + 1, x => ∀ i, i < x.cells.length → ∀ k, k < (cAt x.cells i).2.2.length → Thin d (bAt (cAt x.cells i).2.2 k)
/-- The same, of one array of a box. -/
def ThinK (d : Nat) (y : Ar) : Prop := match d with
  | 0 => False
  | d + 1 => Thin d y
theorem thin_iff (d : Nat) (x : Ar) : Thin d x ↔ ∀ i, i < x.cells.length → ∀ k, k < (cAt x.cells i).2.2.length → ThinK d (bAt (cAt x.cells i).2.2 k) := by
  cases d <;> rfl
/-- The arrays of a cell's box, in whatever world is later. -/
theorem boxes_at {n lo : Nat} {w : World} {x : Ar} {a2 : Option Addr} (hc : CellsIn n lo w x.cells a2) (i : Nat) (hi : i < x.cells.length) :
    ∃ b off ab cb, a2 = some ⟨b, off, none⟩ ∧ (cAt x.cells i).2.2.length ≤ 5864062014805 ∧ (∀ wr, Below w.heap.size w wr → wr.cell? ⟨b, off + i * 3 + 2, none⟩ = some (.slice ab (cAt x.cells i).2.2.length cb)) ∧
      ∀ k, k < (cAt x.cells i).2.2.length → ∃ bb ob u0 u1, ab = some ⟨bb, ob, none⟩ ∧ ∀ wr, Below w.heap.size w wr → wr.cell? ⟨bb, ob + k * 2, none⟩ = some u0 ∧ wr.cell? ⟨bb, ob + k * 2 + 1, none⟩ = some u1 ∧ ArIn n lo wr (bAt (cAt x.cells i).2.2 k) (.agg #[u0, u1]) := by
  rcases hc with hc | ⟨b, off, ha, hlo, hb, hc⟩
  · rw [hc] at hi; simp at hi
  obtain ⟨v0, v1, v2, e0, e1, e2, rfl, rfl, ab, cb, rfl, hl, hx⟩ := hc i hi
  refine ⟨b, off, ab, cb, ha, hl, fun wr hw => (hw.cell (p := ⟨b, off + i * 3 + 2, none⟩) hb).trans e2, ?_⟩
  intro k hk
  rcases hx with hx | ⟨bb, ob, rfl, hlo', hbb, hx⟩
  · rw [hx] at hk; simp at hk
  obtain ⟨u0, u1, g0, g1, g2⟩ := hx k hk
  exact ⟨bb, ob, u0, u1, rfl, fun wr hw => ⟨(hw.cell (p := ⟨bb, ob + k * 2, none⟩) hbb).trans g0, (hw.cell (p := ⟨bb, ob + k * 2 + 1, none⟩) hbb).trans g1, g2.next hw⟩⟩
/-- What the weighing of an array no deeper than d promises. -/
def WeighC (d : Nat) : Prop := ∀ n x lo va w (M : Int), ArIn n lo w x va → 0 ≤ M → M ≤ 4000 → Calls Tryd.prog 55 #[va, .int .i64 M, .int .i64 (d : Int)] w fun e w' => (∃ r : Int, e = .returned (.int .i64 r) ∧ 0 ≤ r ∧ r ≤ 147000000000000 + 5000 * (d : Int) ∧ (r ≤ M → Thin d x)) ∧ Below w.heap.size w w'
set_option maxHeartbeats 4000000 in
theorem weigh_step (d : Nat) (hd : d ≤ 16) (IH : ∀ d', d = d' + 1 → WeighC d') : WeighC d := by
  intro n x lo va w M hx hM0 hM
  cases n with
  | zero => exact hx.elim
  | succ n =>
  obtain ⟨a1, c1, a2, c2, rfl, R, hl, hc⟩ := hx
  have hlR := R.1
  have HT : Hid ((∀ i, i < x.cells.length → ∀ k, k < (cAt x.cells i).2.2.length → ThinK d (bAt (cAt x.cells i).2.2 k)) → Thin d x) := (thin_iff d x).2
  have hb0 := one_alloc w (.cells #[.slice a1 x.shape.length c1, .slice a2 x.cells.length c2] 25)
  have q := cell_new0 w #[.slice a1 x.shape.length c1, .slice a2 x.cells.length c2] 25 1 _ rfl
  have HB := hide (boxes_at hc)
  /- A world later on: the memory that came in, and the array's own cells. -/
  have HQ := hide (And.intro hb0 (And.intro q (show w.heap.size < (w.alloc (.cells #[.slice a1 x.shape.length c1, .slice a2 x.cells.length c2] 25)).heap.size by simp)))
  clear R hc hb0 q
  generalize hNL : (fun i => (cAt x.cells i).2.2.length) = NL at *
  generalize hY : (fun i k => bAt (cAt x.cells i).2.2 k) = Y at *
  have HB' : Hid (∀ i, i < x.cells.length → ∃ b off ab cb, a2 = some ⟨b, off, none⟩ ∧ NL i ≤ 5864062014805 ∧ (∀ wr, Below w.heap.size w wr → wr.cell? ⟨b, off + i * 3 + 2, none⟩ = some (.slice ab (NL i) cb)) ∧
      ∀ k, k < NL i → ∃ bb ob u0 u1, ab = some ⟨bb, ob, none⟩ ∧ ∀ wr, Below w.heap.size w wr → wr.cell? ⟨bb, ob + k * 2, none⟩ = some u0 ∧ wr.cell? ⟨bb, ob + k * 2 + 1, none⟩ = some u1 ∧ ArIn n lo wr (Y i k) (.agg #[u0, u1])) := by
    subst hNL hY
    exact HB.out
  have HT' : Hid ((∀ i, i < x.cells.length → ∀ k, k < NL i → ThinK d (Y i k)) → Thin d x) := by
    subst hNL hY
    exact HT.out
  clear HB HT hNL hY
  generalize x.shape.length = SA at *
  generalize x.cells.length = CA at *
  go_enter Tryd.func55, Tryd.ntmps55
  go_wp2
  go_loopg [7, 8] CA (fun g nv i wr => ∃ (j : Nat) (N : Int), g + j = CA ∧ i = .int .i64 (j : Int) ∧ nv = .int .i64 N ∧ 0 ≤ N ∧ N ≤ 147000000000000 + 5000 * (d : Int) ∧ (N ≤ M → ∀ i, i < j → ∀ k, k < NL i → ThinK d (Y i k)) ∧ Below w.heap.size w wr ∧ wr.cell? ⟨w.heap.size, 1, none⟩ = some (.slice a2 CA c2) ∧ w.heap.size < wr.heap.size)
  case atStart => exact ⟨0, (CA : Int) + (SA : Int), rfl, rfl, by go_num, by omega, by omega, by intro _ i hi; omega, HQ.out.1, HQ.out.2.1, HQ.out.2.2⟩
  case round =>
    clear HQ
    obtain ⟨j, N, hj, rfl, rfl, hN0, hN1, hthin, hnx, hcl, hsz⟩ := hrel
    have HTH := hide hthin
    have HSZ := hide hsz
    clear hthin hsz
    by_cases hlt : j < CA
    · by_cases hNM : N ≤ M
      · have HOUT := hide (HTH.out hNM)
        clear HTH
        obtain ⟨b, off, ab, cb, rfl, hnl, hbox, hboxes⟩ := HB'.out j hlt
        have HBOX := hide hbox
        have HBXS := hide hboxes
        have HS1 : Hid (NL j = NL j) := rfl
        clear hbox hboxes HB'
        obtain ⟨L, hL⟩ : ∃ L, NL j = L := ⟨_, rfl⟩
        have HLL := hide hL
        rw [hL] at hnl HBOX HBXS
        clear hL HS1
        go_wp2
        go_loopg [7, 9] L (fun g nv kv wr => ∃ (k : Nat) (N' : Int), g + k = L ∧ kv = .int .i64 (k : Int) ∧ nv = .int .i64 N' ∧ 0 ≤ N' ∧ N' ≤ 147000000000000 + 5000 * (d : Int) ∧ (N' ≤ M → ∀ k', k' < k → ThinK d (Y j k')) ∧ Below w.heap.size w wr ∧ wr.cell? ⟨w.heap.size, 1, none⟩ = some (.slice (some ⟨b, off, none⟩) CA c2) ∧ w.heap.size < wr.heap.size)
        case atStart => exact ⟨0, N, rfl, rfl, rfl, hN0, hN1, by intro _ k' hk'; omega, hnx, hcl, HSZ.out⟩
        case round =>
          clear hnx hcl HSZ hN0 hN1 hNM
          obtain ⟨k, N', hk, rfl, rfl, hN0, hN1, hthin, hnx, hcl, hsz⟩ := hrel
          have HTH := hide hthin
          have HSZ := hide hsz
          have hbx := HBOX.out _ hnx
          clear hthin hsz
          by_cases hkl : k < L
          · by_cases hNM : N' ≤ M
            · by_cases hd0 : d = 0
              · subst hd0
                clear HBXS HBOX
                go_wp2
                go_ret
                exact ⟨⟨M + 1, by go_num, by omega, by omega, fun h => absurd h (by omega)⟩, hnx⟩
              · obtain ⟨d', rfl⟩ : ∃ d', d = d' + 1 := ⟨d - 1, by omega⟩
                obtain ⟨bb, ob, u0, u1, rfl, hcs⟩ := HBXS.out k hkl
                obtain ⟨g0, g1, g2⟩ := hcs _ hnx
                have C : Hid (∀ D : Int, D = (d' : Int) → Calls Tryd.prog 55 #[.agg #[u0, u1], .int .i64 (M - N'), .int .i64 D] wr fun e w' => (∃ r : Int, e = .returned (.int .i64 r) ∧ 0 ≤ r ∧ r ≤ 147000000000000 + 5000 * (d' : Int) ∧ (r ≤ M - N' → Thin d' (Y j k))) ∧ Below wr.heap.size wr w') := by
                  rintro D rfl
                  exact IH d' rfl n _ lo _ wr (M - N') g2 (by omega) (by omega)
                have hd1 : ((d' + 1 : Nat) : Int) ≠ 0 := by omega
                clear hcs g2 HBXS hd0
                go_wp2_with fail
                refine (C.out _ (by omega)).mono ?_
                rintro e w1 ⟨⟨r, rfl, hr0, hr1, hrt⟩, hb1⟩
                have HRT := hide hrt
                clear hrt C
                go_wp2
                go_roundg (L - (k + 1))
                case rel =>
                  refine ⟨k + 1, N' + 1 + r, by omega, by go_num, by go_num, by omega, by omega, ?_, hnx.trans (hb1.mono hnx.size), (hb1.cell (p := ⟨w.heap.size, 1, none⟩) HSZ.out).trans hcl, Nat.lt_of_lt_of_le HSZ.out hb1.size⟩
                  intro hle k' hk'
                  rcases Nat.lt_succ_iff_lt_or_eq.1 hk' with h | rfl
                  · exact HTH.out hNM k' h
                  · exact HRT.out (by omega)
                case measure => omega
            · clear HBXS HBOX
              go_wp2
              go_roundg (CA - (j + 1))
              case rel => exact ⟨j + 1, N', by omega, by go_num, rfl, hN0, hN1, fun h => absurd h (by omega), hnx, hcl, HSZ.out⟩
              case measure => omega
          · have hke : k = L := by omega
            subst hke
            clear HBXS HBOX
            go_wp2
            go_roundg (CA - (j + 1))
            case rel =>
              refine ⟨j + 1, N', by omega, by go_num, rfl, hN0, hN1, ?_, hnx, hcl, HSZ.out⟩
              intro hle i hi k' hk'
              rcases Nat.lt_succ_iff_lt_or_eq.1 hi with h | rfl
              · exact HOUT.out i h k' hk'
              · exact HTH.out hle k' (by rw [HLL.out] at hk'; exact hk')
            case measure => omega
      · go_wp2
        go_ret
        exact ⟨⟨N, rfl, hN0, hN1, fun h => absurd h (by omega)⟩, hnx⟩
    · have hje : j = CA := by omega
      subst hje
      have HFIN : Hid (N ≤ M → Thin d x) := fun h => HT'.out (HTH.out h)
      clear HB' HTH HT'
      go_wp2
      go_ret
      exact ⟨⟨N, rfl, hN0, hN1, HFIN.out⟩, hnx⟩
theorem weigh_any (d : Nat) (hd : d ≤ 16) : WeighC d := by
  induction d with
  | zero => exact weigh_step 0 hd fun d' h => absurd h (by omega)
  | succ d ih =>
    refine weigh_step (d + 1) hd fun d' h => ?_
    have : d' = d := by omega
    subst this
    exact ih (by omega)
end Go.Proofs.YtlfacpclihmnnaaDoor
namespace Go.Proofs.YtlfacpclihmnnaaDoor
open Go.ChangeShapes Go.WideShapes Go.ChangeAt Go.RowKit
set_option linter.unusedVariables false
set_option maxRecDepth 100000
theorem firstUp_all {f : Nat → Int} {m : Nat} (h : ∀ i, i < m → f i = 0) : firstUp f m = 0 := by
  induction m with
  | zero => rfl
  | succ m ih => simp only [firstUp]; rw [ih fun i hi => h i (by omega), if_pos rfl]; exact h m (by omega)
theorem cmpC_self {f : Ar → Ar → Int} (hf : ∀ x, f x x = 0) (c : Ce) : cmpC f c c = 0 := by
  unfold cmpC
  simp [cmp3_self, hf]
theorem cmpA_self (n : Nat) (x : Ar) : cmpA n x x = 0 := by
  induction n generalizing x with
  | zero => rfl
  | succ n ih =>
    simp only [cmpA]
    rw [if_neg (by simp [cmp3_self]), if_neg (by
      have : firstUp (axF x x) x.shape.length = 0 := firstUp_all fun i _ => cmp3_self _
      simp [this]), if_neg (by
      have : firstUp (ceF (cmpA n) x x) (min x.cells.length x.cells.length) = 0 := firstUp_all fun i _ => cmpC_self ih _
      exact fun h => h this)]
    exact cmp3_self _
theorem chk_nums (l : List Int) (hl : l.length ≤ 16384) : chkA 8 (numsA l) = 0 := by
  have hn : ¬ hasNeg [(l.length : Int)] := by
    rintro ⟨z, hz, h⟩
    simp at hz
    omega
  have h3 : ¬ hasLong [(l.length : Int)] := by
    rintro ⟨z, hz, h⟩
    simp at hz
    omega
  have h12 : sizeE [(l.length : Int)] = 0 ∧ sizeV [(l.length : Int)] = (l.length : Int) := by
    by_cases h0 : hasZero [(l.length : Int)]
    · have hz := h0
      obtain ⟨z, hz, h⟩ := hz
      simp at hz
      have := size_zero (l := [(l.length : Int)]) (by simp) hn h0
      exact ⟨this.2, by rw [this.1]; omega⟩
    · have hp : prodL [(l.length : Int)] = (l.length : Int) := by simp [prodL]
      have := size_ok (l := [(l.length : Int)]) (by simp) hn h0 (by rw [hp]; omega)
      exact ⟨this.2, by rw [this.1, hp]⟩
  show chkB (chkA 7) (numsA l) = 0
  unfold chkB
  have e1 : (numsA l).shape = [(l.length : Int)] := rfl
  have e2 : (numsA l).cells = numCs 0 l := rfl
  rw [e1, e2, numCs_len, if_neg (by simp [h12.1]), if_neg (by simp [h12.2]), if_neg h3]
  refine firstUp_all fun i hi => ?_
  unfold chkF
  rw [e2, numCs_at 0 l i hi]
  simp [chkC]
end Go.Proofs.YtlfacpclihmnnaaDoor
namespace Go.Proofs.YtlfacpclihmnnaaDoor
open Go.ChangeShapes Go.WideShapes Go.ChangeAt Go.RowKit
set_option linter.unusedVariables false
theorem info25 : (Tryd.prog.info? 25).map (fun i => (i.zero, i.size, i.bytes)) = some (some (.agg #[.slice none 0 0, .slice none 0 0]), 2, 48) := by kernel_rfl
theorem make_one (w : World) : (Instr.makeSlice 41 (.int .i64 1) (.int .i64 1)).run Tryd.prog w = .ok (.slice (some ⟨w.heap.size, 0, none⟩) 1 1) (w.alloc (.cells #[.slice none 0 0, .slice none 0 0] 25)) := by
  obtain ⟨i, hi, hzz⟩ := Option.map_eq_some_iff.1 info25
  simp only [Prod.mk.injEq] at hzz
  obtain ⟨hz, hs, hb⟩ := hzz
  have hr := run_make (P := Tryd.prog) w 41 25 i _ Tryd.underlying41 hi hz .i64 .i64 1 1 (by omega) (Int.le_refl _) (by rw [hb]; omega) (by omega)
  simp only [hs] at hr
  rw [hr]
  have e : madeCells (Value.agg #[.slice none 0 0, .slice none 0 0]).cells ((1 : Int).toNat * 2) = #[.slice none 0 0, .slice none 0 0] := by
    apply Array.ext
    · simp [madeCells]
    · intro i h1 h2
      have : i = 0 ∨ i = 1 := by simp at h2; omega
      rcases this with rfl | rfl <;> simp [madeCells, Value.cells]
  rw [e]
  rfl
/-- What the copy of a cell hands back. -/
def GivesC (n : Nat) (c : Ce) (w : World) (e : Ending) (w' : World) : Prop := (∃ a cap, e = .returned (.agg #[.int .i64 c.1, .int .i64 c.2.1, .slice a c.2.2.length cap]) ∧ CeIn (ArIn n w.heap.size w') w.heap.size w' c (.int .i64 c.1) (.int .i64 c.2.1) (.slice a c.2.2.length cap)) ∧ BelowS w.heap.size w w'
set_option maxHeartbeats 2000000 in
theorem copyCell_none (n : Nat) (k N : Int) (ab : Option Addr) (cb : Nat) (w : World) :
    Calls Tryd.prog 58 #[.agg #[.int .i64 k, .int .i64 N, .slice ab 0 cb]] w fun e w' => GivesC n (k, N, []) w e w' := by
  go_enter Tryd.func58, Tryd.ntmps58
  go_wp2
  refine bodyPost_ret (v := .agg #[.int .i64 k, .int .i64 N, .slice none 0 0]) (by simp [results, Tryd.results58, go_sem]) rfl ⟨⟨none, 0, rfl, rfl, rfl, none, 0, rfl, by simp, Or.inl rfl⟩, ?_⟩
  exact (two_allocsS _ _ _).trans ((one_allocS _ _).mono (by simp; omega))
set_option maxHeartbeats 4000000 in
theorem copyCell_one (n : Nat) (k N : Int) (y : Ar) (bb ob cb : Nat) (u0 u1 : Value) (lo : Nat) (w : World) (hb : bb < w.heap.size) (g0 : w.cell? ⟨bb, ob, none⟩ = some u0) (g1 : w.cell? ⟨bb, ob + 1, none⟩ = some u1) (hy : ArIn n lo w y (.agg #[u0, u1]))
    (IH : ∀ lo vb w, ArIn n lo w y vb → Calls Tryd.prog 26 #[vb] w fun e w' => GivesS n y w e w') :
    Calls Tryd.prog 58 #[.agg #[.int .i64 k, .int .i64 N, .slice (some ⟨bb, ob, none⟩) 1 cb]] w fun e w' => GivesC n (k, N, [y]) w e w' := by
  cases n with
  | zero => exact hy.elim
  | succ n =>
  have hy' := hy
  obtain ⟨a1, k1, a2, k2, hv, -⟩ := hy'
  simp only [Value.agg.injEq, Array.mk.injEq, List.cons.injEq, and_true] at hv
  obtain ⟨rfl, rfl⟩ := hv
  generalize hSA : y.shape.length = SA at *
  generalize hCA : y.cells.length = CA at *
  have mk := make_one
  obtain ⟨W4, e4⟩ : ∃ W4, W4 = (((w.alloc (.cells #[.int .i64 k, .int .i64 N, .slice (some ⟨bb, ob, none⟩) 1 cb] 43)).alloc (.cells #[.int .i64 0, .int .i64 0, .slice none 0 0] 43)).alloc (.cells #[.int .i64 k, .int .i64 N, .slice (some ⟨w.heap.size + 1 + 1 + 1, 0, none⟩) 1 1] 43)).alloc (.cells #[.slice none 0 0, .slice none 0 0] 25) := ⟨_, rfl⟩
  have B4 : BelowS w.heap.size w W4 := by rw [e4]; exact (two_allocsS _ _ _).trans ((two_allocsS _ _ _).mono (by simp; omega))
  have s4 : W4.heap.size = w.heap.size + 4 := by rw [e4]; simp
  have s2 := size_two w (.cells #[.int .i64 k, .int .i64 N, .slice (some ⟨bb, ob, none⟩) 1 cb] 43) (.cells #[.int .i64 0, .int .i64 0, .slice none 0 0] 43)
  have r0 : ∀ i v, #[Value.int .i64 0, .int .i64 0, .slice none 0 0][i]? = some v → W4.cell? ⟨w.heap.size + 1, i, none⟩ = some v := by
    intro i v hi
    rw [e4]
    exact ((two_allocsS _ _ _).cell (p := ⟨w.heap.size + 1, i, none⟩) (by rw [s2]; show w.heap.size + 1 < _; omega)).trans (cell_new2 w _ 43 (0, 0) _ i v hi)
  have r1 : ∀ i v, #[Value.int .i64 k, .int .i64 N, .slice (some ⟨w.heap.size + 1 + 1 + 1, 0, none⟩) 1 1][i]? = some v → W4.cell? ⟨w.heap.size + 1 + 1, i, none⟩ = some v := by
    intro i v hi
    rw [e4]
    have := cell_new1 ((w.alloc (.cells #[.int .i64 k, .int .i64 N, .slice (some ⟨bb, ob, none⟩) 1 cb] 43)).alloc (.cells #[.int .i64 0, .int .i64 0, .slice none 0 0] 43)) #[Value.int .i64 k, .int .i64 N, .slice (some ⟨w.heap.size + 1 + 1 + 1, 0, none⟩) 1 1] 43 (0, 0) (.cells #[.slice none 0 0, .slice none 0 0] 25) i v hi
    rw [s2] at this
    exact this
  have r2 : ∀ i v, #[Value.slice none 0 0, .slice none 0 0][i]? = some v → W4.cell? ⟨w.heap.size + 1 + 1 + 1, i, none⟩ = some v := by
    intro i v hi
    rw [e4]
    have := cell_new2 ((w.alloc (.cells #[.int .i64 k, .int .i64 N, .slice (some ⟨bb, ob, none⟩) 1 cb] 43)).alloc (.cells #[.int .i64 0, .int .i64 0, .slice none 0 0] 43)) #[Value.slice none 0 0, .slice none 0 0] 25 (0, 0) (.cells #[.int .i64 k, .int .i64 N, .slice (some ⟨w.heap.size + 1 + 1 + 1, 0, none⟩) 1 1] 43) i v hi
    rw [s2] at this
    exact this
  have f0 : ∀ i, W4.frozen? ⟨w.heap.size + 1, i, none⟩ = false := by
    intro i
    rw [e4]
    have := frozen_new (w.alloc (.cells #[.int .i64 k, .int .i64 N, .slice (some ⟨bb, ob, none⟩) 1 cb] 43)) #[.int .i64 0, .int .i64 0, .slice none 0 0] 43 i
    have s1 : (w.alloc (.cells #[.int .i64 k, .int .i64 N, .slice (some ⟨bb, ob, none⟩) 1 cb] 43)).heap.size = w.heap.size + 1 := by simp
    rw [s1] at this
    exact ((two_allocsS _ _ _).frozen (p := ⟨w.heap.size + 1, i, none⟩) (by rw [s2]; show w.heap.size + 1 < _; omega)).trans this
  have f2 : ∀ i, W4.frozen? ⟨w.heap.size + 1 + 1 + 1, i, none⟩ = false := by
    intro i
    rw [e4]
    have := frozen_new (((w.alloc (.cells #[.int .i64 k, .int .i64 N, .slice (some ⟨bb, ob, none⟩) 1 cb] 43)).alloc (.cells #[.int .i64 0, .int .i64 0, .slice none 0 0] 43)).alloc (.cells #[.int .i64 k, .int .i64 N, .slice (some ⟨w.heap.size + 1 + 1 + 1, 0, none⟩) 1 1] 43)) #[.slice none 0 0, .slice none 0 0] 25 i
    have s3 : (((w.alloc (.cells #[.int .i64 k, .int .i64 N, .slice (some ⟨bb, ob, none⟩) 1 cb] 43)).alloc (.cells #[.int .i64 0, .int .i64 0, .slice none 0 0] 43)).alloc (.cells #[.int .i64 k, .int .i64 N, .slice (some ⟨w.heap.size + 1 + 1 + 1, 0, none⟩) 1 1] 43)).heap.size = w.heap.size + 1 + 1 + 1 := by simp
    rw [s3] at this
    exact this
  have h0 : W4.cell? ⟨bb, ob, none⟩ = some (.slice a1 SA k1) := (B4.cell (p := ⟨bb, ob, none⟩) hb).trans g0
  have h1 : W4.cell? ⟨bb, ob + 1, none⟩ = some (.slice a2 CA k2) := (B4.cell (p := ⟨bb, ob + 1, none⟩) hb).trans g1
  have C : Hid (Calls Tryd.prog 26 #[.agg #[.slice a1 SA k1, .slice a2 CA k2]] (W4.alloc (.cells #[.slice a1 SA k1, .slice a2 CA k2] 25)).drew fun e w' => (∃ p1 pc1 p2 pc2, e = .returned (.agg #[.slice p1 SA pc1, .slice p2 CA pc2]) ∧ ArIn (n + 1) W4.heap.size w' y (.agg #[.slice p1 SA pc1, .slice p2 CA pc2])) ∧ BelowS W4.heap.size W4 w' ∧ W4.heap.size + 1 ≤ w'.heap.size ∧ w'.cell? ⟨W4.heap.size, 0, none⟩ = some (.slice a1 SA k1) ∧ w'.cell? ⟨W4.heap.size, 1, none⟩ = some (.slice a2 CA k2)) := by
    have b := (one_allocS W4 (.cells #[.slice a1 SA k1, .slice a2 CA k2] 25)).drew
    have hs : ((W4.alloc (.cells #[.slice a1 SA k1, .slice a2 CA k2] 25)).drew).heap.size = W4.heap.size + 1 := by
      have : (W4.alloc (.cells #[.slice a1 SA k1, .slice a2 CA k2] 25)).heap.size = W4.heap.size + 1 := by simp
      exact this
    refine (IH lo _ _ (hy.next (B4.trans (b.mono B4.size)).b)).mono ?_
    rintro e w' ⟨⟨v, rfl, hv⟩, hb'⟩
    rw [hs] at hv hb'
    have hv' := hv
    obtain ⟨p1, pc1, p2, pc2, rfl, -⟩ := hv'
    rw [hSA, hCA] at hv ⊢
    refine ⟨⟨p1, pc1, p2, pc2, rfl, hv.mono (by omega) (Below.refl _ _)⟩, b.trans (hb'.mono (by omega)), by have := hb'.size; rw [hs] at this; exact this, ?_, ?_⟩
    · exact (hb'.cell (p := ⟨W4.heap.size, 0, none⟩) (by show W4.heap.size < _; omega)).trans (cell_new0 W4 _ 25 0 _ rfl)
    · exact (hb'.cell (p := ⟨W4.heap.size, 1, none⟩) (by show W4.heap.size < _; omega)).trans (cell_new0 W4 _ 25 1 _ rfl)
  have HF : Hid (∀ w1, BelowS W4.heap.size W4 w1 → (w1.cell? ⟨w.heap.size + 1 + 1 + 1, 0, none⟩ = some (.slice none 0 0) ∧ w1.cell? ⟨w.heap.size + 1 + 1 + 1, 1, none⟩ = some (.slice none 0 0) ∧ w1.frozen? ⟨w.heap.size + 1 + 1 + 1, 0, none⟩ = false ∧ w1.frozen? ⟨w.heap.size + 1 + 1 + 1, 1, none⟩ = false) ∧ (∀ i v, #[Value.int .i64 k, .int .i64 N, .slice (some ⟨w.heap.size + 1 + 1 + 1, 0, none⟩) 1 1][i]? = some v → w1.cell? ⟨w.heap.size + 1 + 1, i, none⟩ = some v) ∧ (∀ i v, #[Value.int .i64 0, .int .i64 0, .slice none 0 0][i]? = some v → w1.cell? ⟨w.heap.size + 1, i, none⟩ = some v) ∧ ∀ i, w1.frozen? ⟨w.heap.size + 1, i, none⟩ = false) := by
    intro w1 h
    have tr : ∀ b i v, b < w.heap.size + 4 → W4.cell? ⟨b, i, none⟩ = some v → w1.cell? ⟨b, i, none⟩ = some v := fun b i v hb hh => (h.cell (p := ⟨b, i, none⟩) (by rw [s4]; exact hb)).trans hh
    have tf : ∀ b i, b < w.heap.size + 4 → W4.frozen? ⟨b, i, none⟩ = false → w1.frozen? ⟨b, i, none⟩ = false := fun b i hb hh => (h.frozen (p := ⟨b, i, none⟩) (by rw [s4]; exact hb)).trans hh
    exact ⟨⟨tr _ _ _ (by omega) (r2 0 _ rfl), tr _ _ _ (by omega) (r2 1 _ rfl), tf _ _ (by omega) (f2 0), tf _ _ (by omega) (f2 1)⟩, fun i v hi => tr _ _ _ (by omega) (r1 i v hi), fun i v hi => tr _ _ _ (by omega) (r0 i v hi), fun i => tf _ _ (by omega) (f0 i)⟩
  have HB4 := hide B4
  have HS4 := hide s4
  have hs2 : W4.cell? ⟨w.heap.size + 1 + 1, 2, none⟩ = some (.slice (some ⟨w.heap.size + 1 + 1 + 1, 0, none⟩) 1 1) := r1 2 _ rfl
  clear r0 r1 r2 f0 f2 B4 s4 s2 IH hy g0 g1 hSA hCA
  go_enter Tryd.func58, Tryd.ntmps58
  go_wp2
  rw [← e4]
  clear e4 mk
  go_loopw [24] (fun i wr => (i = .int .i64 0 ∧ wr = W4) ∨ (i = .int .i64 1 ∧ ∃ w1 p1 pc1 p2 pc2, wr = (w1.setCell ⟨w.heap.size + 1 + 1 + 1, 0, none⟩ (.slice p1 SA pc1)).setCell ⟨w.heap.size + 1 + 1 + 1, 1, none⟩ (.slice p2 CA pc2) ∧ BelowS W4.heap.size W4 w1 ∧ ArIn (n + 1) W4.heap.size w1 y (.agg #[.slice p1 SA pc1, .slice p2 CA pc2]))) (fun i _ => 1 - (intOf i).toNat)
  case atStart => exact Or.inl ⟨rfl, rfl⟩
  case round =>
    rcases hrel with ⟨rfl, rfl⟩ | ⟨rfl, w1, p1, pc1, p2, pc2, rfl, hb1, hP⟩
    · have KS : Hid (∀ w1 : World, BelowS wr.heap.size wr w1 → w1.cell? ⟨wr.heap.size, 0, none⟩ = some (.slice a1 SA k1) → w1.cell? ⟨wr.heap.size, 1, none⟩ = some (.slice a2 CA k2) → (w1.cell? ⟨w.heap.size + 1 + 1, 2, none⟩ = some (.slice (some ⟨w.heap.size + 1 + 1 + 1, 0, none⟩) 1 1) ∧ w1.cell? ⟨wr.heap.size, 0, none⟩ = some (.slice a1 SA k1) ∧ w1.cell? ⟨wr.heap.size, 1, none⟩ = some (.slice a2 CA k2))) := fun w1 h x y => ⟨(HF.out w1 h).2.1 2 _ rfl, x, y⟩
      have D0 : Hid (BelowS wr.heap.size wr (wr.alloc (.cells #[.slice a1 SA k1, .slice a2 CA k2] 25)).drew ∧ (wr.alloc (.cells #[.slice a1 SA k1, .slice a2 CA k2] 25)).drew.cell? ⟨wr.heap.size, 0, none⟩ = some (.slice a1 SA k1) ∧ (wr.alloc (.cells #[.slice a1 SA k1, .slice a2 CA k2] 25)).drew.cell? ⟨wr.heap.size, 1, none⟩ = some (.slice a2 CA k2)) := ⟨(one_allocS _ _).drew, cell_new0 wr _ 25 0 _ rfl, cell_new0 wr _ 25 1 _ rfl⟩
      have KT : Hid (∀ (w1 : World) (x y : Value), (w1.cell? ⟨w.heap.size + 1 + 1, 2, none⟩ = some (.slice (some ⟨w.heap.size + 1 + 1 + 1, 0, none⟩) 1 1) ∧ w1.cell? ⟨wr.heap.size, 0, none⟩ = some (.slice a1 SA k1) ∧ w1.cell? ⟨wr.heap.size, 1, none⟩ = some (.slice a2 CA k2)) → (((w1.setCell ⟨w.heap.size + 1 + 1 + 1, 0, none⟩ x).setCell ⟨w.heap.size + 1 + 1 + 1, 1, none⟩ y).cell? ⟨w.heap.size + 1 + 1, 2, none⟩ = some (.slice (some ⟨w.heap.size + 1 + 1 + 1, 0, none⟩) 1 1) ∧ ((w1.setCell ⟨w.heap.size + 1 + 1 + 1, 0, none⟩ x).setCell ⟨w.heap.size + 1 + 1 + 1, 1, none⟩ y).cell? ⟨wr.heap.size, 0, none⟩ = some (.slice a1 SA k1) ∧ ((w1.setCell ⟨w.heap.size + 1 + 1 + 1, 0, none⟩ x).setCell ⟨w.heap.size + 1 + 1 + 1, 1, none⟩ y).cell? ⟨wr.heap.size, 1, none⟩ = some (.slice a2 CA k2))) := by
        rintro w1 x y ⟨e1, e2, e3⟩
        have ne := HS4.out
        exact ⟨cell_apart (p := ⟨w.heap.size + 1 + 1, 2, none⟩) (q := ⟨w.heap.size + 1 + 1 + 1, 1, none⟩) (by show w.heap.size + 1 + 1 ≠ w.heap.size + 1 + 1 + 1; omega) _ (cell_apart (p := ⟨w.heap.size + 1 + 1, 2, none⟩) (q := ⟨w.heap.size + 1 + 1 + 1, 0, none⟩) (by show w.heap.size + 1 + 1 ≠ w.heap.size + 1 + 1 + 1; omega) _ e1),
          cell_apart (p := ⟨wr.heap.size, 0, none⟩) (q := ⟨w.heap.size + 1 + 1 + 1, 1, none⟩) (by show wr.heap.size ≠ w.heap.size + 1 + 1 + 1; omega) _ (cell_apart (p := ⟨wr.heap.size, 0, none⟩) (q := ⟨w.heap.size + 1 + 1 + 1, 0, none⟩) (by show wr.heap.size ≠ w.heap.size + 1 + 1 + 1; omega) _ e2),
          cell_apart (p := ⟨wr.heap.size, 1, none⟩) (q := ⟨w.heap.size + 1 + 1 + 1, 1, none⟩) (by show wr.heap.size ≠ w.heap.size + 1 + 1 + 1; omega) _ (cell_apart (p := ⟨wr.heap.size, 1, none⟩) (q := ⟨w.heap.size + 1 + 1 + 1, 0, none⟩) (by show wr.heap.size ≠ w.heap.size + 1 + 1 + 1; omega) _ e3)⟩
      go_wp2
      go_region_held3 (fun W => W.cell? ⟨w.heap.size + 1 + 1, 2, none⟩ = some (.slice (some ⟨w.heap.size + 1 + 1 + 1, 0, none⟩) 1 1) ∧ W.cell? ⟨wr.heap.size, 0, none⟩ = some (.slice a1 SA k1) ∧ W.cell? ⟨wr.heap.size, 1, none⟩ = some (.slice a2 CA k2))
        (first | exact KS.out _ D0.out.1 D0.out.2.1 D0.out.2.2 | exact KS.out _ (by assumption) (by assumption) (by assumption) | exact KT.out _ _ _ (by assumption))
        (first
          | (go_at_call 26; refine C.out.mono ?_; rintro e w1 ⟨⟨p1, pc1, p2, pc2, rfl, hP⟩, hb1, hz1, hq0, hq1⟩; obtain ⟨⟨t0, t1, t2, t3⟩, -⟩ := HF.out _ hb1))
      go_wp2
      go_roundw
      case rel => exact Or.inr ⟨by go_num, w1, p1, pc1, p2, pc2, rfl, hb1, hP⟩
      case measure => simp [intOf]
    · obtain ⟨⟨t0, t1, t2, t3⟩, tc, td, tf⟩ := HF.out _ hb1
      have ne1 : (⟨w.heap.size + 1 + 1, 0, none⟩ : Addr).block ≠ (⟨w.heap.size + 1 + 1 + 1, 0, none⟩ : Addr).block := by show w.heap.size + 1 + 1 ≠ w.heap.size + 1 + 1 + 1; omega
      have AP : ∀ (b i : Nat) (v : Value), b ≠ w.heap.size + 1 + 1 + 1 → w1.cell? ⟨b, i, none⟩ = some v → ((w1.setCell ⟨w.heap.size + 1 + 1 + 1, 0, none⟩ (.slice p1 SA pc1)).setCell ⟨w.heap.size + 1 + 1 + 1, 1, none⟩ (.slice p2 CA pc2)).cell? ⟨b, i, none⟩ = some v := fun b i v hne hv => cell_apart (p := ⟨b, i, none⟩) (q := ⟨w.heap.size + 1 + 1 + 1, 1, none⟩) hne _ (cell_apart (p := ⟨b, i, none⟩) (q := ⟨w.heap.size + 1 + 1 + 1, 0, none⟩) hne _ hv)
      have x0 := AP (w.heap.size + 1 + 1) 0 _ (by omega) (tc 0 _ rfl)
      have x1 := AP (w.heap.size + 1 + 1) 1 _ (by omega) (tc 1 _ rfl)
      have x2 := AP (w.heap.size + 1 + 1) 2 _ (by omega) (tc 2 _ rfl)
      have y0 := AP (w.heap.size + 1) 0 _ (by omega) (td 0 _ rfl)
      have y1 := AP (w.heap.size + 1) 1 _ (by omega) (td 1 _ rfl)
      have y2 := AP (w.heap.size + 1) 2 _ (by omega) (td 2 _ rfl)
      have z : ∀ i, ((w1.setCell ⟨w.heap.size + 1 + 1 + 1, 0, none⟩ (.slice p1 SA pc1)).setCell ⟨w.heap.size + 1 + 1 + 1, 1, none⟩ (.slice p2 CA pc2)).frozen? ⟨w.heap.size + 1, i, none⟩ = false := fun i => by simpa using tf i
      have z0 := z 0
      have z1 := z 1
      have z2 := z 2
      have hT := set_two t0 t1 (.slice p1 SA pc1) (.slice p2 CA pc2)
      have q0 : ((w1.setCell ⟨w.heap.size + 1 + 1 + 1, 0, none⟩ (.slice p1 SA pc1)).setCell ⟨w.heap.size + 1 + 1 + 1, 1, none⟩ (.slice p2 CA pc2)).cell? ⟨w.heap.size + 1 + 1 + 1, 0, none⟩ = some (.slice p1 SA pc1) := by
        rw [World.cell?_setCell_other _ _ _ _ (by simp)]; exact hT.1
      have HK : Hid (Keeps (w.heap.size + 4) w1 ((w1.setCell ⟨w.heap.size + 1 + 1 + 1, 0, none⟩ (.slice p1 SA pc1)).setCell ⟨w.heap.size + 1 + 1 + 1, 1, none⟩ (.slice p2 CA pc2))) := ((Keeps.refl _ _).setCell (p := ⟨w.heap.size + 1 + 1 + 1, 0, none⟩) (by show w.heap.size + 1 + 1 + 1 < _; omega) _).setCell (p := ⟨w.heap.size + 1 + 1 + 1, 1, none⟩) (by show w.heap.size + 1 + 1 + 1 < _; omega) _
      have HBW : Hid (BelowS w.heap.size w ((w1.setCell ⟨w.heap.size + 1 + 1 + 1, 0, none⟩ (.slice p1 SA pc1)).setCell ⟨w.heap.size + 1 + 1 + 1, 1, none⟩ (.slice p2 CA pc2))) := ((HB4.out.trans (hb1.mono HB4.out.size)).setCell (p := ⟨w.heap.size + 1 + 1 + 1, 0, none⟩) (by show w.heap.size ≤ w.heap.size + 1 + 1 + 1; omega) _).setCell (p := ⟨w.heap.size + 1 + 1 + 1, 1, none⟩) (by show w.heap.size ≤ w.heap.size + 1 + 1 + 1; omega) _
      have HSZ : Hid (w.heap.size + 4 ≤ w1.heap.size) := by have := hb1.size; rw [HS4.out] at this; exact this
      have HP := hide hP
      have HQ := hide (And.intro q0 hT.2)
      generalize ew : (w1.setCell ⟨w.heap.size + 1 + 1 + 1, 0, none⟩ (.slice p1 SA pc1)).setCell ⟨w.heap.size + 1 + 1 + 1, 1, none⟩ (.slice p2 CA pc2) = wr at *
      have HFIN : Hid (∀ a b c, GivesC (n + 1) (k, N, [y]) w (.returned (.agg #[.int .i64 k, .int .i64 N, .slice (some ⟨w.heap.size + 1 + 1 + 1, 0, none⟩) 1 1])) (((wr.setCell ⟨w.heap.size + 1, 0, none⟩ a).setCell ⟨w.heap.size + 1, 1, none⟩ b).setCell ⟨w.heap.size + 1, 2, none⟩ c)) := by
        intro a b c
        have hk2 : Keeps (w.heap.size + 2) wr (((wr.setCell ⟨w.heap.size + 1, 0, none⟩ a).setCell ⟨w.heap.size + 1, 1, none⟩ b).setCell ⟨w.heap.size + 1, 2, none⟩ c) := (((Keeps.refl _ _).setCell (p := ⟨w.heap.size + 1, 0, none⟩) (by show w.heap.size + 1 < _; omega) _).setCell (p := ⟨w.heap.size + 1, 1, none⟩) (by show w.heap.size + 1 < _; omega) _).setCell (p := ⟨w.heap.size + 1, 2, none⟩) (by show w.heap.size + 1 < _; omega) _
        have hbw : BelowS w.heap.size w (((wr.setCell ⟨w.heap.size + 1, 0, none⟩ a).setCell ⟨w.heap.size + 1, 1, none⟩ b).setCell ⟨w.heap.size + 1, 2, none⟩ c) := ((HBW.out.setCell (p := ⟨w.heap.size + 1, 0, none⟩) (by show w.heap.size ≤ w.heap.size + 1; omega) _).setCell (p := ⟨w.heap.size + 1, 1, none⟩) (by show w.heap.size ≤ w.heap.size + 1; omega) _).setCell (p := ⟨w.heap.size + 1, 2, none⟩) (by show w.heap.size ≤ w.heap.size + 1; omega) _
        have hsz := HSZ.out
        have hszr := HK.out.1
        refine ⟨⟨_, _, rfl, rfl, rfl, _, _, rfl, by simp, Or.inr ⟨w.heap.size + 1 + 1 + 1, 0, rfl, by omega, Nat.lt_of_lt_of_le (by omega) hk2.1, ?_⟩⟩, hbw⟩
        intro j hj
        have hj0 : j = 0 := by simpa using hj
        subst hj0
        refine ⟨_, _, (hk2.cell (p := ⟨w.heap.size + 1 + 1 + 1, 0 + 0 * 2, none⟩) (by show w.heap.size + 2 ≤ w.heap.size + 1 + 1 + 1; omega) (by show w.heap.size + 1 + 1 + 1 < _; omega)).trans HQ.out.1, (hk2.cell (p := ⟨w.heap.size + 1 + 1 + 1, 0 + 0 * 2 + 1, none⟩) (by show w.heap.size + 2 ≤ w.heap.size + 1 + 1 + 1; omega) (by show w.heap.size + 1 + 1 + 1 < _; omega)).trans HQ.out.2, ?_⟩
        have h4 := HP.out
        rw [HS4.out] at h4
        have h5 : ArIn (n + 1) (w.heap.size + 4) wr y (.agg #[.slice p1 SA pc1, .slice p2 CA pc2]) := h4.keeps HK.out
        exact ((h5.mono (lo' := w.heap.size + 2) (by omega) (Below.refl _ _)).keeps hk2).mono (by omega) (Below.refl _ _)
      have HR : Hid ((wr.setCell ⟨w.heap.size + 1, 0, none⟩ (.int .i64 k)).cell? ⟨w.heap.size + 1, 0, none⟩ = some (.int .i64 k) ∧ ((wr.setCell ⟨w.heap.size + 1, 0, none⟩ (.int .i64 k)).setCell ⟨w.heap.size + 1, 1, none⟩ (.int .i64 N)).cell? ⟨w.heap.size + 1, 1, none⟩ = some (.int .i64 N) ∧ (((wr.setCell ⟨w.heap.size + 1, 0, none⟩ (.int .i64 k)).setCell ⟨w.heap.size + 1, 1, none⟩ (.int .i64 N)).setCell ⟨w.heap.size + 1, 2, none⟩ (.slice (some ⟨w.heap.size + 1 + 1 + 1, 0, none⟩) 1 1)).cell? ⟨w.heap.size + 1, 2, none⟩ = some (.slice (some ⟨w.heap.size + 1 + 1 + 1, 0, none⟩) 1 1)) := by
        have t := set_two y0 y1 (.int .i64 k) (.int .i64 N)
        refine ⟨t.1, t.2, World.cell?_setCell_same' _ _ _ ?_⟩
        rw [World.cell?_setCell_other _ _ _ _ (by simp), World.cell?_setCell_other _ _ _ _ (by simp), y2]
        rfl
      clear AP tc td tf z hT q0 hP hb1 t0 t1 t2 t3 HK HBW HSZ HP HQ HF HB4 HS4 C h0 h1 hs2 ne1 ew
      go_wp2
      exact bodyPost_ret (v := .agg #[.int .i64 k, .int .i64 N, .slice (some ⟨w.heap.size + 1 + 1 + 1, 0, none⟩) 1 1]) (by simp [results, Tryd.results58, go_sem, HR.out.1, HR.out.2.1, HR.out.2.2]) rfl (HFIN.out _ _ _)
/-- What the copy of an array that may be promises. -/
def CopyC (n : Nat) : Prop := ∀ r x lo va w, chkA r x = 0 → ArIn n lo w x va → Calls Tryd.prog 26 #[va] w fun e w' => GivesS n x w e w'
theorem copyCell_any (n : Nat) (IH : CopyC n) (f : Ar → Int) (hf : ∀ y, f y = 0 → ∃ r, chkA r y = 0) (c : Ce) (hc : chkC f c = 0) (lo : Nat) (w : World) (v0 v1 v2 : Value) (h : CeIn (ArIn n lo w) lo w c v0 v1 v2) :
    Calls Tryd.prog 58 #[.agg #[v0, v1, v2]] w fun e w' => GivesC n c w e w' := by
  obtain ⟨rfl, rfl, a, cap, rfl, hl, hx⟩ := h
  obtain ⟨k, N, box⟩ := c
  simp only at hl hx hc ⊢
  unfold chkC at hc
  by_cases h1 : k = 2 ∧ N = 0 ∧ box.length = 1
  · rw [if_pos h1] at hc
    obtain ⟨-, -, hb1⟩ := h1
    rcases hx with hx | ⟨b, off, rfl, hlo, hb, hx⟩
    · subst hx; simp at hb1
    · obtain ⟨u0, u1, e0, e1, e2⟩ := hx 0 (by omega)
      simp only [Nat.zero_mul, Nat.add_zero] at e0 e1
      obtain ⟨r, hr⟩ := hf _ hc
      have hbox : box = [bAt box 0] := by
        match box, hb1 with
        | [y], _ => rfl
      have := copyCell_one n k N (bAt box 0) b off cap u0 u1 lo w hb e0 e1 e2 fun lo vb w hy => IH r _ lo vb w hr hy
      rw [hbox]
      exact this
  · rw [if_neg h1] at hc
    by_cases h2 : box.length = 0 ∧ (k = 0 ∨ k = 1 ∧ Good N)
    · have hb : box = [] := List.eq_nil_of_length_eq_zero h2.1
      subst hb
      exact copyCell_none n k N a cap w
    · simp only at hc
      rw [if_neg h2] at hc
      omega
end Go.Proofs.YtlfacpclihmnnaaDoor
namespace Go.Proofs.YtlfacpclihmnnaaDoor
open Go.ChangeShapes Go.WideShapes Go.ChangeAt Go.RowKit
set_option linter.unusedVariables false
theorem firstUp_none {f : Nat → Int} {m : Nat} (h : firstUp f m = 0) : ∀ i, i < m → f i = 0 := fun i hi => by
  rw [← firstUp_step (firstUp_zero h i (by omega))]
  exact firstUp_zero h (i + 1) hi
/-- What is known of an array that may be. -/
theorem chk_ok {r : Nat} {x : Ar} (h : chkA r x = 0) : ∃ f : Ar → Int, (∀ y, f y = 0 → ∃ r, chkA r y = 0) ∧ x.shape.length ≤ 8 ∧ x.cells.length ≤ 16384 ∧ ∀ i, i < x.cells.length → chkC f (cAt x.cells i) = 0 := by
  have key : ∀ f : Ar → Int, chkB f x = 0 → x.shape.length ≤ 8 ∧ x.cells.length ≤ 16384 ∧ ∀ i, i < x.cells.length → chkC f (cAt x.cells i) = 0 := by
    intro f hb
    unfold chkB at hb
    by_cases h1 : sizeE x.shape = 0
    · rw [if_neg (fun k => k h1)] at hb
      by_cases h2 : sizeV x.shape = x.cells.length
      · rw [if_neg (fun k => k h2)] at hb
        by_cases h3 : hasLong x.shape
        · rw [if_pos h3] at hb; omega
        · rw [if_neg h3] at hb
          obtain ⟨s1, s2, s3⟩ := sizeE_ok h1
          refine ⟨by omega, ?_, firstUp_none hb⟩
          rcases s3 with s3 | ⟨s3, s4⟩
          · have := (size_zero s1 s2 s3).1
            omega
          · have := (size_ok s1 s2 s3 (by omega)).1
            omega
      · rw [if_pos h2] at hb; omega
    · rw [if_pos h1] at hb; exact absurd hb h1
  cases r with
  | zero => exact ⟨fun _ => 15, fun y hy => absurd (show (15 : Int) = 0 from hy) (by decide), key _ h⟩
  | succ r => exact ⟨chkA r, fun y hy => ⟨r, hy⟩, key _ h⟩
theorem setCells_block (b : Nat) (vs : List Value) (o : Nat) (w : World) : (w.setCells b o vs).heap.size = w.heap.size ∧ ∀ k, k ≠ b → (w.setCells b o vs).heap[k]? = w.heap[k]? := by
  induction vs generalizing o w with
  | nil => exact ⟨rfl, fun _ _ => rfl⟩
  | cons v vs ih =>
    obtain ⟨h1, h2⟩ := ih (o + 1) (w.setCell ⟨b, o, none⟩ v)
    refine ⟨by show (((w.setCell ⟨b, o, none⟩ v).setCells b (o + 1) vs)).heap.size = _; rw [h1]; simp, fun k hk => ?_⟩
    show (((w.setCell ⟨b, o, none⟩ v).setCells b (o + 1) vs)).heap[k]? = _
    rw [h2 k hk]
    exact BelowS.heap_setCell w _ v k hk
theorem below_setCells {B : Nat} {a : World} (b : Nat) (hB : B ≤ b) (vs : List Value) (o : Nat) (w : World) (h : BelowS B a w) : BelowS B a (w.setCells b o vs) := by
  induction vs generalizing o w with
  | nil => exact h
  | cons v vs ih => exact ih (o + 1) _ (h.setCell (p := ⟨b, o, none⟩) hB v)
/-- copy into a row of the call's own, whatever the source. -/
theorem run_copy_any {P : Program} {w : World} (ty : TypeId) (hu : P.underlying 22 = some (.slice 3)) (hsz : (P.info? 3).map (·.size) = some 1)
    (b L dCap : Nat) (sp : Option Addr) (sCap : Nat) (cs : List Value) (hn : cs.length = L)
    (hsrc : 0 < cs.length → ∃ ad, sp = some ad ∧ ∀ j v, cs[j]? = some v → w.cell? (ad.add j) = some v) (hc : ∀ j, j < cs.length → (w.cell? ⟨b, 0 + j, none⟩).isSome = true) (hf : ∀ j, j < cs.length → w.frozen? ⟨b, 0 + j, none⟩ = false) (h1 : ∀ v ∈ cs, v.oneCell' = true) :
    (Builtin.copy_ #[22, 22] ty #[.slice (some ⟨b, 0, none⟩) L dCap, .slice sp L sCap]).run P w = .ok (goInt L) (w.setCells b 0 cs) := by
  subst hn
  by_cases h0 : cs.length = 0
  · have hcs : cs = [] := List.eq_nil_of_length_eq_zero h0
    subst hcs
    exact run_copy_none (P := P) w 22 22 ty 3 (some ⟨b, 0, none⟩) sp 0 dCap 0 sCap hu hsz rfl
  · obtain ⟨ad, rfl, hsr⟩ := hsrc (by omega)
    exact run_copy_cells (P := P) w 22 22 ty 3 b 0 cs.length dCap ad cs.length sCap cs hu hsz (Nat.min_self _).symm hsr hc hf h1
theorem size3 : (Tryd.prog.info? 3).map (·.size) = some 1 := by kernel_rfl
theorem alloc3 (W : World) (o1 o2 o3 : Obj) : (((W.alloc o1).alloc o2).alloc o3).drew.heap[W.heap.size]? = some o1 ∧ (((W.alloc o1).alloc o2).alloc o3).drew.heap[W.heap.size + 1]? = some o2 ∧ (((W.alloc o1).alloc o2).alloc o3).drew.heap[W.heap.size + 2]? = some o3 ∧ (((W.alloc o1).alloc o2).alloc o3).drew.heap.size = W.heap.size + 3 ∧ (softO o1 → softO o2 → softO o3 → BelowS W.heap.size W (((W.alloc o1).alloc o2).alloc o3).drew) := by
  have hh : (((W.alloc o1).alloc o2).alloc o3).drew.heap = ((W.heap.push o1).push o2).push o3 := rfl
  rw [hh]
  have z1 : (W.heap.push o1).size = W.heap.size + 1 := by simp
  have z2 : ((W.heap.push o1).push o2).size = W.heap.size + 2 := by simp
  refine ⟨?_, ?_, ?_, by simp, ?_⟩
  · rw [Array.getElem?_push, z2, if_neg (by omega), Array.getElem?_push, z1, if_neg (by omega), Array.getElem?_push, if_pos rfl]
  · rw [Array.getElem?_push, z2, if_neg (by omega), Array.getElem?_push, z1, if_pos rfl]
  · rw [Array.getElem?_push, z2, if_pos rfl]
  exact fun h1 h2 h3 => ((((BelowS.refl _ _).alloc (Nat.le_refl _) _ h1).alloc (by simp) _ h2).alloc (by simp; omega) _ h3).drew
/-- Where Copy stands when its memory is made: the shape's row, the cells' row, the answer, in whatever order they were made. -/
def Pre (w W2 : World) (SA CA bs bc bo : Nat) (W : World) : Prop :=
  W.heap.size = w.heap.size + 5 ∧ BelowS (w.heap.size + 2) W2 W ∧ ((w.heap.size + 2 ≤ bs ∧ bs < w.heap.size + 5) ∧ (w.heap.size + 2 ≤ bc ∧ bc < w.heap.size + 5) ∧ (w.heap.size + 2 ≤ bo ∧ bo < w.heap.size + 5) ∧ bs ≠ bc ∧ bs ≠ bo ∧ bc ≠ bo) ∧
  W.heap[bs]? = some (.cells (madeCells #[.int .i64 0] SA) 3) ∧ W.heap[bc]? = some (.cells (madeCells #[.int .i64 0, .int .i64 0, .slice none 0 0] (CA * 3)) 43) ∧ W.heap[bo]? = some (.cells #[.slice (some ⟨bs, 0, none⟩) SA SA, .slice (some ⟨bc, 0, none⟩) CA CA] 25)
/-- The copied cells so far, one more stored behind them. -/
theorem fam_step {n L : Nat} {wr w1 : World} {cs : List Ce} {bc CA j : Nat} {F : Nat → Value} (hL : bc < L) (hw : Below wr.heap.size wr w1) (hbw : bc < wr.heap.size) (hr : wr.rowIs bc 43 (CA * 3) F)
    (hF : ∀ i, i < j → CeIn (ArIn n L wr) L wr (cAt cs i) (F (i * 3)) (F (i * 3 + 1)) (F (i * 3 + 2))) (v0 v1 v2 : Value) (hnew : CeIn (ArIn n L w1) L w1 (cAt cs j) v0 v1 v2) :
    ∃ F', (((w1.setCell ⟨bc, j * 3, none⟩ v0).setCell ⟨bc, j * 3 + 1, none⟩ v1).setCell ⟨bc, j * 3 + 2, none⟩ v2).rowIs bc 43 (CA * 3) F' ∧
      ∀ i, i < j + 1 → CeIn (ArIn n L (((w1.setCell ⟨bc, j * 3, none⟩ v0).setCell ⟨bc, j * 3 + 1, none⟩ v1).setCell ⟨bc, j * 3 + 2, none⟩ v2)) L (((w1.setCell ⟨bc, j * 3, none⟩ v0).setCell ⟨bc, j * 3 + 1, none⟩ v1).setCell ⟨bc, j * 3 + 2, none⟩ v2) (cAt cs i) (F' (i * 3)) (F' (i * 3 + 1)) (F' (i * 3 + 2)) := by
  have r1 : w1.rowIs bc 43 (CA * 3) F := hr.of_block (hw.block bc hbw)
  have hk : Keeps L w1 (((w1.setCell ⟨bc, j * 3, none⟩ v0).setCell ⟨bc, j * 3 + 1, none⟩ v1).setCell ⟨bc, j * 3 + 2, none⟩ v2) := (((Keeps.refl _ _).setCell (p := ⟨bc, j * 3, none⟩) hL v0).setCell (p := ⟨bc, j * 3 + 1, none⟩) hL v1).setCell (p := ⟨bc, j * 3 + 2, none⟩) hL v2
  refine ⟨_, ((r1.set (j * 3) v0).set (j * 3 + 1) v1).set (j * 3 + 2) v2, ?_⟩
  intro i hi
  rcases Nat.lt_succ_iff_lt_or_eq.1 hi with h | rfl
  · have := ((hF i h).mono (Nat.le_refl _) hw fun x v hx => hx.next hw).keeps hk fun x v hx => hx.keeps hk
    have e0 : (if i * 3 = j * 3 + 2 then v2 else if i * 3 = j * 3 + 1 then v1 else if i * 3 = j * 3 then v0 else F (i * 3)) = F (i * 3) := by rw [if_neg (by omega), if_neg (by omega), if_neg (by omega)]
    have e1 : (if i * 3 + 1 = j * 3 + 2 then v2 else if i * 3 + 1 = j * 3 + 1 then v1 else if i * 3 + 1 = j * 3 then v0 else F (i * 3 + 1)) = F (i * 3 + 1) := by rw [if_neg (by omega), if_neg (by omega), if_neg (by omega)]
    have e2 : (if i * 3 + 2 = j * 3 + 2 then v2 else if i * 3 + 2 = j * 3 + 1 then v1 else if i * 3 + 2 = j * 3 then v0 else F (i * 3 + 2)) = F (i * 3 + 2) := by rw [if_neg (by omega), if_neg (by omega), if_neg (by omega)]
    rw [e0, e1, e2]
    exact this
  · have := hnew.keeps hk fun x v hx => hx.keeps hk
    have e0 : (if i * 3 = i * 3 + 2 then v2 else if i * 3 = i * 3 + 1 then v1 else if i * 3 = i * 3 then v0 else F (i * 3)) = v0 := by rw [if_neg (by omega), if_neg (by omega), if_pos rfl]
    have e1 : (if i * 3 + 1 = i * 3 + 2 then v2 else if i * 3 + 1 = i * 3 + 1 then v1 else if i * 3 + 1 = i * 3 then v0 else F (i * 3 + 1)) = v1 := by rw [if_neg (by omega), if_pos rfl]
    have e2 : (if i * 3 + 2 = i * 3 + 2 then v2 else if i * 3 + 2 = i * 3 + 1 then v1 else if i * 3 + 2 = i * 3 then v0 else F (i * 3 + 2)) = v2 := by rw [if_pos rfl]
    rw [e0, e1, e2]
    exact this
/-- The shape's row lies in a block of its own: the cells stay what they are whatever is written there. -/
def Apart (n lo : Nat) (w : World) (x : Ar) (v : Value) : Prop := ∃ bs bc, v = .agg #[.slice (some ⟨bs, 0, none⟩) x.shape.length x.shape.length, .slice (some ⟨bc, 0, none⟩) x.cells.length x.cells.length] ∧ lo ≤ bs ∧ bs < w.heap.size ∧ (∀ i, i < x.shape.length → w.cell? ⟨bs, i, none⟩ = some (.int .i64 (x.shape[i]?.getD 0))) ∧
  ∀ w' : World, w.heap.size ≤ w'.heap.size → (∀ k, k < w.heap.size → k ≠ bs → w'.heap[k]? = w.heap[k]?) → CellsIn n lo w' x.cells (some ⟨bc, 0, none⟩)
def GivesT (n : Nat) (x : Ar) (w : World) (e : Ending) (w' : World) : Prop := (∃ v, e = .returned v ∧ ArIn (n + 1) w.heap.size w' x v ∧ Apart n w.heap.size w' x v) ∧ BelowS w.heap.size w w'
set_option maxHeartbeats 8000000 in
theorem copy_own (n : Nat) (IH : CopyC n) : ∀ r x lo va w, chkA r x = 0 → ArIn (n + 1) lo w x va → Calls Tryd.prog 26 #[va] w fun e w' => GivesT n x w e w' := by
  intro r x lo va w hchk hx
  obtain ⟨a1, c1, a2, c2, rfl, R, hl, hc⟩ := hx
  obtain ⟨f, hf, hS8, hC16, hcs⟩ := chk_ok hchk
  have mk1 := run_make_row' (P := Tryd.prog) 22 3 (.int .i64 0) 8 Tryd.underlying22 int3 rfl .i64 .i64 x.shape.length (by omega) (by omega)
  have mk2 := make_cells x.cells.length hl
  obtain ⟨W2, e2⟩ : ∃ W2, W2 = (w.alloc (.cells #[.slice a1 x.shape.length c1, .slice a2 x.cells.length c2] 25)).alloc (.cells #[.slice none 0 0, .slice none 0 0] 25) := ⟨_, rfl⟩
  have B2 : BelowS w.heap.size w W2 := by rw [e2]; exact two_allocsS _ _ _
  have s2 : W2.heap.size = w.heap.size + 2 := by rw [e2]; exact size_two _ _ _
  have q0 : W2.cell? ⟨w.heap.size, 0, none⟩ = some (.slice a1 x.shape.length c1) := by rw [e2]; exact cell_new1 w _ 25 (0, 0) _ 0 _ rfl
  have q1 : W2.cell? ⟨w.heap.size, 1, none⟩ = some (.slice a2 x.cells.length c2) := by rw [e2]; exact cell_new1 w _ 25 (0, 0) _ 1 _ rfl
  have p0 : W2.cell? ⟨w.heap.size + 1, 0, none⟩ = some (.slice none 0 0) := by rw [e2]; exact cell_new2 w _ 25 (0, 0) _ 0 _ rfl
  have p1 : W2.cell? ⟨w.heap.size + 1, 1, none⟩ = some (.slice none 0 0) := by rw [e2]; exact cell_new2 w _ 25 (0, 0) _ 1 _ rfl
  have pf : ∀ i, W2.frozen? ⟨w.heap.size + 1, i, none⟩ = false := by
    intro i
    have := frozen_new (w.alloc (.cells #[.slice a1 x.shape.length c1, .slice a2 x.cells.length c2] 25)) #[.slice none 0 0, .slice none 0 0] 25 i
    have s1 : (w.alloc (.cells #[.slice a1 x.shape.length c1, .slice a2 x.cells.length c2] 25)).heap.size = w.heap.size + 1 := by simp
    rw [s1] at this
    rw [e2]
    exact this
  have HX : Hid (Row lo w a1 x.shape) := R
  have HCS : Hid (∀ i, i < x.cells.length → ∃ b off z0 z1 ab nb cb, a2 = some ⟨b, off, none⟩ ∧ ∀ wr, BelowS w.heap.size w wr → (wr.cell? ⟨b, off + i * 3, none⟩ = some (.int .i64 z0) ∧ wr.cell? ⟨b, off + i * 3 + 1, none⟩ = some (.int .i64 z1) ∧ wr.cell? ⟨b, off + i * 3 + 2, none⟩ = some (.slice ab nb cb)) ∧ Calls Tryd.prog 58 #[.agg #[.int .i64 z0, .int .i64 z1, .slice ab nb cb]] wr fun e w' => (∃ a' cap', e = .returned (.agg #[.int .i64 z0, .int .i64 z1, .slice a' nb cap']) ∧ CeIn (ArIn n wr.heap.size w') wr.heap.size w' (cAt x.cells i) (.int .i64 z0) (.int .i64 z1) (.slice a' nb cap')) ∧ BelowS wr.heap.size wr w') := by
    intro i hi
    obtain ⟨b, off, z0, z1, ab, nb, cb, ha, h⟩ := cells_at hc i hi
    refine ⟨b, off, z0, z1, ab, nb, cb, ha, fun wr hw => ?_⟩
    obtain ⟨g0, g1, g2, g3⟩ := h wr hw.b
    refine ⟨⟨g0, g1, g2⟩, (copyCell_any n IH f hf _ (hcs i hi) lo wr _ _ _ g3).mono ?_⟩
    obtain ⟨h0, h1, a', cap', h2, -⟩ := g3
    simp only [Value.int.injEq, true_and, Value.slice.injEq] at h0 h1 h2
    obtain ⟨-, rfl, -⟩ := h2
    subst h0 h1
    exact fun e w' h => h
  have HL := hide R.1
  clear R hc IH hcs hchk hf
  have HAR : Hid (∀ (W : World) (a1' a2' : Option Addr) (k1 k2 : Nat), Row w.heap.size W a1' x.shape → CellsIn n w.heap.size W x.cells a2' → ArIn (n + 1) w.heap.size W x (.agg #[.slice a1' x.shape.length k1, .slice a2' x.cells.length k2])) := fun W a1' a2' k1 k2 hr hcc => arIn_mk hr hl hcc rfl rfl
  generalize hSA : x.shape.length = SA at *
  generalize hCA : x.cells.length = CA at *
  go_enter Tryd.func26, Tryd.ntmps26
  go_wp2
  go_cut [3] from 6 (fun s3 wx => ∃ bs bc bo, s3 = .pointer (some ⟨bo, 0, none⟩) ∧ Pre w W2 SA CA bs bc bo wx)
  case first =>
    have AL := fun o1 o2 o3 => alloc3 W2 o1 o2 o3
    rw [s2] at AL
    have HAL := hide AL
    clear AL
    go_region
    all_goals
      go_wp2
      go_meet
    all_goals
      case rel =>
        rw [← e2]
        obtain ⟨A, B, C, D, E⟩ := HAL.out _ _ _
        first
          | exact ⟨w.heap.size + 2, w.heap.size + 3, w.heap.size + 4, rfl, D, E rfl rfl rfl, by omega, A, B, C⟩
          | exact ⟨w.heap.size + 2, w.heap.size + 4, w.heap.size + 3, rfl, D, E rfl rfl rfl, by omega, A, C, B⟩
          | exact ⟨w.heap.size + 3, w.heap.size + 2, w.heap.size + 4, rfl, D, E rfl rfl rfl, by omega, B, A, C⟩
          | exact ⟨w.heap.size + 4, w.heap.size + 2, w.heap.size + 3, rfl, D, E rfl rfl rfl, by omega, C, A, B⟩
          | exact ⟨w.heap.size + 3, w.heap.size + 4, w.heap.size + 2, rfl, D, E rfl rfl rfl, by omega, B, C, A⟩
          | exact ⟨w.heap.size + 4, w.heap.size + 3, w.heap.size + 2, rfl, D, E rfl rfl rfl, by omega, C, B, A⟩
  case rest =>
    obtain ⟨bs, bc, bo, rfl, hz, E, ⟨⟨i1, i2⟩, ⟨i3, i4⟩, ⟨i5, i6⟩, i7, i8, i9⟩, hbs, hbc, hbo⟩ := hcut
    have cellof : ∀ (b i : Nat) (cs : Array Value) (t : TypeId) (v : Value), wc.heap[b]? = some (.cells cs t) → cs[i]? = some v → wc.cell? ⟨b, i, none⟩ = some v := by
      intro b i cs t v h hi
      unfold World.cell?
      simp only [h, hi]
      rfl
    have Q0 : wc.cell? ⟨w.heap.size, 0, none⟩ = some (.slice a1 SA c1) := (E.cell (p := ⟨w.heap.size, 0, none⟩) (by show w.heap.size < _; omega)).trans q0
    have O0 : wc.cell? ⟨bo, 0, none⟩ = some (.slice (some ⟨bs, 0, none⟩) SA SA) := cellof _ _ _ _ _ hbo rfl
    have RB : wc.rowIs bs 3 SA (fun _ => .int .i64 0) := ⟨_, hbs, size_madeCells _ _, fun i hi => by simp [madeCells, hi, Nat.mod_one]⟩
    have BW : BelowS w.heap.size w wc := B2.trans (E.mono (by omega))
    have HSRC : Hid (0 < (x.shape.map (Value.int .i64)).length → ∃ ad, a1 = some ad ∧ ∀ j v, (x.shape.map (Value.int .i64))[j]? = some v → wc.cell? (ad.add j) = some v) := by
      intro h0
      rcases HX.out.2 with h | ⟨b, off, ha, hlo, hb, hcell⟩
      · rw [h] at h0; simp at h0
      · refine ⟨⟨b, off, none⟩, ha, fun j v hv => ?_⟩
        have hj : j < x.shape.length := by
          rcases Nat.lt_or_ge j x.shape.length with h' | h'
          · exact h'
          · simp [List.getElem?_eq_none h'] at hv
        have ea : (⟨b, off, none⟩ : Addr).add j = ⟨b, off + j, none⟩ := by
          unfold Addr.add
          split
          · subst_vars; rfl
          · rfl
        rw [ea]
        refine (BW.cell (p := ⟨b, off + j, none⟩) hb).trans ((hcell j hj).trans ?_)
        rw [List.getElem?_map, List.getElem?_eq_getElem hj] at hv
        rw [List.getElem?_eq_getElem hj]
        simpa using hv
    have hml : (x.shape.map (Value.int .i64)).length = SA := by rw [List.length_map]; exact hSA
    have HC1 : Hid (∀ j, j < (x.shape.map (Value.int .i64)).length → (wc.cell? ⟨bs, 0 + j, none⟩).isSome = true) := by
      intro j hj
      rw [Nat.zero_add, RB.cell (by omega)]; rfl
    have HF1 : Hid (∀ j, j < (x.shape.map (Value.int .i64)).length → wc.frozen? ⟨bs, 0 + j, none⟩ = false) := by
      intro j hj
      rw [Nat.zero_add]; exact RB.frozen j
    have HO1 : Hid (∀ v ∈ x.shape.map (Value.int .i64), v.oneCell' = true) := by
      intro v hv
      obtain ⟨z, _, rfl⟩ := List.mem_map.1 hv
      rfl
    have hrun := run_copy_any (P := Tryd.prog) (w := wc) 3 Tryd.underlying22 size3 bs SA SA a1 c1 (x.shape.map (Value.int .i64)) hml HSRC.out HC1.out HF1.out HO1.out
    have SB := setCells_block bs (x.shape.map (Value.int .i64)) 0 wc
    have SIN := World.cell?_setCells_in bs (x.shape.map (Value.int .i64)) 0 wc (fun j hj => HC1.out j hj)
    have BB := below_setCells bs (show w.heap.size ≤ bs by omega) (x.shape.map (Value.int .i64)) 0 wc BW
    have hROW : ∀ i, i < x.shape.length → (wc.setCells bs 0 (x.shape.map (Value.int .i64))).cell? ⟨bs, i, none⟩ = some (.int .i64 (x.shape[i]?.getD 0)) := by
      intro i hi
      have := SIN i (by simpa using hi)
      rw [Nat.zero_add] at this
      rw [this]
      simp [hi]
    generalize wc.setCells bs 0 (x.shape.map (Value.int .i64)) = w3 at hrun SB BB hROW
    have HROW := hide hROW
    have tr3 : ∀ b i v, b ≠ bs → wc.cell? ⟨b, i, none⟩ = some v → w3.cell? ⟨b, i, none⟩ = some v := fun b i v hne hv => by
      rw [World.cell?_of_block (w := wc) (SB.2 b hne)]; exact hv
    have tf3 : ∀ b i, b ≠ bs → wc.frozen? ⟨b, i, none⟩ = false → w3.frozen? ⟨b, i, none⟩ = false := fun b i hne hv => by
      rw [World.frozen?_of_block (w := wc) (SB.2 b hne)]; exact hv
    have Q1 : w3.cell? ⟨w.heap.size, 1, none⟩ = some (.slice a2 CA c2) := tr3 _ _ _ (by omega) ((E.cell (p := ⟨w.heap.size, 1, none⟩) (by show w.heap.size < _; omega)).trans q1)
    have O3 : w3.cell? ⟨bo, 0, none⟩ = some (.slice (some ⟨bs, 0, none⟩) SA SA) := tr3 _ _ _ (by omega) O0
    have O4 : w3.cell? ⟨bo, 1, none⟩ = some (.slice (some ⟨bc, 0, none⟩) CA CA) := tr3 _ _ _ (by omega) (cellof _ _ _ _ _ hbo rfl)
    have P3 : w3.cell? ⟨w.heap.size + 1, 0, none⟩ = some (.slice none 0 0) := tr3 _ _ _ (by omega) ((E.cell (p := ⟨w.heap.size + 1, 0, none⟩) (by show w.heap.size + 1 < _; omega)).trans p0)
    have P4 : w3.cell? ⟨w.heap.size + 1, 1, none⟩ = some (.slice none 0 0) := tr3 _ _ _ (by omega) ((E.cell (p := ⟨w.heap.size + 1, 1, none⟩) (by show w.heap.size + 1 < _; omega)).trans p1)
    have P5 : ∀ i, w3.frozen? ⟨w.heap.size + 1, i, none⟩ = false := fun i => tf3 _ _ (by omega) ((E.frozen (p := ⟨w.heap.size + 1, i, none⟩) (by show w.heap.size + 1 < _; omega)).trans (pf i))
    have hz3 : w3.heap.size = w.heap.size + 5 := SB.1.trans hz
    have RC : w3.rowIs bc 43 (CA * 3) zero3 := by
      have h0 : wc.rowIs bc 43 (CA * 3) zero3 := by
        obtain ⟨c, h1, h2, h3⟩ := rowIs_made3 wc (CA * 3)
        have e : c = madeCells #[.int .i64 0, .int .i64 0, .slice none 0 0] (CA * 3) := by
          have h4 : (wc.alloc (.cells (madeCells #[.int .i64 0, .int .i64 0, .slice none 0 0] (CA * 3)) 43)).heap[wc.heap.size]? = some (.cells (madeCells #[.int .i64 0, .int .i64 0, .slice none 0 0] (CA * 3)) 43) := by
            show (wc.heap.push _)[wc.heap.size]? = _
            simp
          rw [h4] at h1
          simp only [Option.some.injEq, Obj.cells.injEq, true_and] at h1
          exact h1.1.symm
        exact ⟨c, by rw [e]; exact hbc, h2, h3⟩
      exact h0.of_block (SB.2 bc (fun h => i7 h.symm))
    /- What a world in the loop still holds of the memory that was made before. -/
    have HKP : Hid (∀ wr : World, (∀ k, k < w.heap.size + 5 → k ≠ bc → wr.heap[k]? = w3.heap[k]?) → wr.cell? ⟨bo, 0, none⟩ = some (.slice (some ⟨bs, 0, none⟩) SA SA) ∧ wr.cell? ⟨bo, 1, none⟩ = some (.slice (some ⟨bc, 0, none⟩) CA CA) ∧ wr.cell? ⟨w.heap.size + 1, 0, none⟩ = some (.slice none 0 0) ∧ wr.cell? ⟨w.heap.size + 1, 1, none⟩ = some (.slice none 0 0) ∧ (∀ i, wr.frozen? ⟨w.heap.size + 1, i, none⟩ = false) ∧ ∀ i, i < x.shape.length → wr.cell? ⟨bs, i, none⟩ = some (.int .i64 (x.shape[i]?.getD 0))) := by
      intro wr h
      have t : ∀ b i v, b < w.heap.size + 5 → b ≠ bc → w3.cell? ⟨b, i, none⟩ = some v → wr.cell? ⟨b, i, none⟩ = some v := fun b i v h1 h2 h3 => by
        rw [World.cell?_of_block (w := w3) (h b h1 h2)]; exact h3
      exact ⟨t _ _ _ (by omega) (by omega) O3, t _ _ _ (by omega) (by omega) O4, t _ _ _ (by omega) (by omega) P3, t _ _ _ (by omega) (by omega) P4, fun i => by
        rw [World.frozen?_of_block (w := w3) (h (w.heap.size + 1) (by omega) (by omega))]; exact P5 i, fun i hi => t _ _ _ (by omega) (by omega) (HROW.out i hi)⟩
    have HBB := hide BB
    have HZ3 := hide hz3
    have HRC := hide RC
    have HLT : Hid (w.heap.size + 2 ≤ bs ∧ w.heap.size + 2 ≤ bc ∧ bs < w.heap.size + 5 ∧ bc < w.heap.size + 5 ∧ bo < w.heap.size + 5 ∧ bs ≠ bc ∧ bo ≠ bc ∧ w.heap.size + 2 ≤ bo) := ⟨i1, i3, i2, i4, i6, i7, fun h => i9 h.symm, i5⟩
    clear cellof RB BW HSRC hml HC1 HF1 HO1 SB SIN BB hROW tr3 tf3 O3 O4 P3 P4 P5 hz3 RC HROW HX E hbs hbc hbo q0 q1 p0 p1 pf B2 s2 e2 mk1 mk2 hz
    go_wp2
    go_loopw [23] (fun i wr => ∃ j : Nat, j ≤ CA ∧ i = .int .i64 (j : Int) ∧ BelowS w.heap.size w wr ∧ w.heap.size + 5 ≤ wr.heap.size ∧ (∀ k, k < w.heap.size + 5 → k ≠ bc → wr.heap[k]? = w3.heap[k]?) ∧ ∃ F, wr.rowIs bc 43 (CA * 3) F ∧ ∀ i, i < j → CeIn (ArIn n (w.heap.size + 5) wr) (w.heap.size + 5) wr (cAt x.cells i) (F (i * 3)) (F (i * 3 + 1)) (F (i * 3 + 2))) (fun i _ => CA - (intOf i).toNat)
    case atStart => exact ⟨0, Nat.zero_le _, rfl, HBB.out, by rw [HZ3.out]; exact Nat.le_refl _, fun _ _ _ => rfl, zero3, HRC.out, fun i hi => absurd hi (by omega)⟩
    case round =>
      obtain ⟨j, hj, rfl, hnx, hsz, hkeep, F, hr, hF⟩ := hrel
      obtain ⟨t0, t1, t2, t3, t4, t5⟩ := HKP.out wr hkeep
      by_cases hlt : j < CA
      · obtain ⟨b, off, z0, z1, ab, nb, cb, rfl, hcs⟩ := HCS.out j hlt
        obtain ⟨⟨k0, k1, k2⟩, -⟩ := hcs wr hnx
        have hal := hnx.alloc hnx.size (.cells #[.int .i64 z0, .int .i64 z1, .slice ab nb cb] 43)
        have hsa : ((wr.alloc (.cells #[.int .i64 z0, .int .i64 z1, .slice ab nb cb] 43)).drew).heap.size = wr.heap.size + 1 := by
          have : (wr.alloc (.cells #[.int .i64 z0, .int .i64 z1, .slice ab nb cb] 43)).heap.size = wr.heap.size + 1 := by simp
          exact this
        have C : Hid (Calls Tryd.prog 58 #[.agg #[.int .i64 z0, .int .i64 z1, .slice ab nb cb]] (wr.alloc (.cells #[.int .i64 z0, .int .i64 z1, .slice ab nb cb] 43)).drew fun e w' => (∃ a' cap', e = .returned (.agg #[.int .i64 z0, .int .i64 z1, .slice a' nb cap']) ∧ CeIn (ArIn n (w.heap.size + 5) w') (w.heap.size + 5) w' (cAt x.cells j) (.int .i64 z0) (.int .i64 z1) (.slice a' nb cap')) ∧ BelowS wr.heap.size wr w' ∧ w'.cell? ⟨wr.heap.size, 0, none⟩ = some (.int .i64 z0) ∧ w'.cell? ⟨wr.heap.size, 1, none⟩ = some (.int .i64 z1) ∧ w'.cell? ⟨wr.heap.size, 2, none⟩ = some (.slice ab nb cb)) := by
          refine ((hcs _ hal.drew).2).mono ?_
          rintro e w' ⟨⟨a', cap', he, hce⟩, hb'⟩
          rw [hsa] at hce hb'
          have tr : ∀ i v, #[Value.int .i64 z0, .int .i64 z1, .slice ab nb cb][i]? = some v → w'.cell? ⟨wr.heap.size, i, none⟩ = some v := fun i v hi => (hb'.cell (p := ⟨wr.heap.size, i, none⟩) (by show wr.heap.size < _; omega)).trans (cell_new0 wr _ 43 i v hi)
          exact ⟨⟨a', cap', he, hce.mono (by omega) (Below.refl _ _) fun x v hx => hx.mono (by omega) (Below.refl _ _)⟩, ((one_allocS wr _).drew).trans (hb'.mono (by omega)), tr 0 _ rfl, tr 1 _ rfl, tr 2 _ rfl⟩
        have hbcw : bc < wr.heap.size := by have := HLT.out; omega
        have HD : Hid (∀ w1 : World, BelowS wr.heap.size wr w1 → w1.cell? ⟨bc, j * 3, none⟩ = some (F (j * 3)) ∧ w1.cell? ⟨bc, j * 3 + 1, none⟩ = some (F (j * 3 + 1)) ∧ w1.cell? ⟨bc, j * 3 + 2, none⟩ = some (F (j * 3 + 2)) ∧ w1.frozen? ⟨bc, j * 3, none⟩ = false ∧ w1.frozen? ⟨bc, j * 3 + 1, none⟩ = false ∧ w1.frozen? ⟨bc, j * 3 + 2, none⟩ = false) := by
          intro w1 h
          have r1 : w1.rowIs bc 43 (CA * 3) F := hr.of_block (h.block bc hbcw)
          exact ⟨r1.cell (by omega), r1.cell (by omega), r1.cell (by omega), r1.frozen _, r1.frozen _, r1.frozen _⟩
        have KS : Hid (∀ w1 : World, BelowS wr.heap.size wr w1 → w1.cell? ⟨wr.heap.size, 0, none⟩ = some (.int .i64 z0) → w1.cell? ⟨wr.heap.size, 1, none⟩ = some (.int .i64 z1) → w1.cell? ⟨wr.heap.size, 2, none⟩ = some (.slice ab nb cb) → (w1.cell? ⟨bo, 1, none⟩ = some (.slice (some ⟨bc, 0, none⟩) CA CA) ∧ w1.cell? ⟨wr.heap.size, 0, none⟩ = some (.int .i64 z0) ∧ w1.cell? ⟨wr.heap.size, 1, none⟩ = some (.int .i64 z1) ∧ w1.cell? ⟨wr.heap.size, 2, none⟩ = some (.slice ab nb cb))) := fun w1 h x0 x1 x2 => ⟨(h.cell (p := ⟨bo, 1, none⟩) (by have := HLT.out; show bo < _; omega)).trans t1, x0, x1, x2⟩
        have D0 : Hid (BelowS wr.heap.size wr (wr.alloc (.cells #[.int .i64 z0, .int .i64 z1, .slice ab nb cb] 43)).drew ∧ (wr.alloc (.cells #[.int .i64 z0, .int .i64 z1, .slice ab nb cb] 43)).drew.cell? ⟨wr.heap.size, 0, none⟩ = some (.int .i64 z0) ∧ (wr.alloc (.cells #[.int .i64 z0, .int .i64 z1, .slice ab nb cb] 43)).drew.cell? ⟨wr.heap.size, 1, none⟩ = some (.int .i64 z1) ∧ (wr.alloc (.cells #[.int .i64 z0, .int .i64 z1, .slice ab nb cb] 43)).drew.cell? ⟨wr.heap.size, 2, none⟩ = some (.slice ab nb cb)) := ⟨(one_allocS _ _).drew, cell_new0 wr _ 43 0 _ rfl, cell_new0 wr _ 43 1 _ rfl, cell_new0 wr _ 43 2 _ rfl⟩
        have KT : Hid (∀ (w1 : World) (v0 v1 v2 : Value), (w1.cell? ⟨bo, 1, none⟩ = some (.slice (some ⟨bc, 0, none⟩) CA CA) ∧ w1.cell? ⟨wr.heap.size, 0, none⟩ = some (.int .i64 z0) ∧ w1.cell? ⟨wr.heap.size, 1, none⟩ = some (.int .i64 z1) ∧ w1.cell? ⟨wr.heap.size, 2, none⟩ = some (.slice ab nb cb)) → ((((w1.setCell ⟨bc, j * 3, none⟩ v0).setCell ⟨bc, j * 3 + 1, none⟩ v1).setCell ⟨bc, j * 3 + 2, none⟩ v2).cell? ⟨bo, 1, none⟩ = some (.slice (some ⟨bc, 0, none⟩) CA CA) ∧ (((w1.setCell ⟨bc, j * 3, none⟩ v0).setCell ⟨bc, j * 3 + 1, none⟩ v1).setCell ⟨bc, j * 3 + 2, none⟩ v2).cell? ⟨wr.heap.size, 0, none⟩ = some (.int .i64 z0) ∧ (((w1.setCell ⟨bc, j * 3, none⟩ v0).setCell ⟨bc, j * 3 + 1, none⟩ v1).setCell ⟨bc, j * 3 + 2, none⟩ v2).cell? ⟨wr.heap.size, 1, none⟩ = some (.int .i64 z1) ∧ (((w1.setCell ⟨bc, j * 3, none⟩ v0).setCell ⟨bc, j * 3 + 1, none⟩ v1).setCell ⟨bc, j * 3 + 2, none⟩ v2).cell? ⟨wr.heap.size, 2, none⟩ = some (.slice ab nb cb))) := by
          rintro w1 v0 v1 v2 ⟨g0, g1, g2, g3⟩
          have ap : ∀ (b i : Nat) (v : Value), b ≠ bc → w1.cell? ⟨b, i, none⟩ = some v → (((w1.setCell ⟨bc, j * 3, none⟩ v0).setCell ⟨bc, j * 3 + 1, none⟩ v1).setCell ⟨bc, j * 3 + 2, none⟩ v2).cell? ⟨b, i, none⟩ = some v := fun b i v hne hv => cell_apart (p := ⟨b, i, none⟩) (q := ⟨bc, j * 3 + 2, none⟩) hne _ (cell_apart (p := ⟨b, i, none⟩) (q := ⟨bc, j * 3 + 1, none⟩) hne _ (cell_apart (p := ⟨b, i, none⟩) (q := ⟨bc, j * 3, none⟩) hne _ hv))
          have hl := HLT.out
          exact ⟨ap _ _ _ (by omega) g0, ap _ _ _ (by omega) g1, ap _ _ _ (by omega) g2, ap _ _ _ (by omega) g3⟩
        have HEND : Hid (∀ w1 v0 v1 v2, BelowS wr.heap.size wr w1 → CeIn (ArIn n (w.heap.size + 5) w1) (w.heap.size + 5) w1 (cAt x.cells j) v0 v1 v2 → BelowS w.heap.size w (((w1.setCell ⟨bc, j * 3, none⟩ v0).setCell ⟨bc, j * 3 + 1, none⟩ v1).setCell ⟨bc, j * 3 + 2, none⟩ v2) ∧ w.heap.size + 5 ≤ (((w1.setCell ⟨bc, j * 3, none⟩ v0).setCell ⟨bc, j * 3 + 1, none⟩ v1).setCell ⟨bc, j * 3 + 2, none⟩ v2).heap.size ∧ (∀ k, k < w.heap.size + 5 → k ≠ bc → (((w1.setCell ⟨bc, j * 3, none⟩ v0).setCell ⟨bc, j * 3 + 1, none⟩ v1).setCell ⟨bc, j * 3 + 2, none⟩ v2).heap[k]? = w3.heap[k]?) ∧ ∃ F', (((w1.setCell ⟨bc, j * 3, none⟩ v0).setCell ⟨bc, j * 3 + 1, none⟩ v1).setCell ⟨bc, j * 3 + 2, none⟩ v2).rowIs bc 43 (CA * 3) F' ∧ ∀ i, i < j + 1 → CeIn (ArIn n (w.heap.size + 5) (((w1.setCell ⟨bc, j * 3, none⟩ v0).setCell ⟨bc, j * 3 + 1, none⟩ v1).setCell ⟨bc, j * 3 + 2, none⟩ v2)) (w.heap.size + 5) (((w1.setCell ⟨bc, j * 3, none⟩ v0).setCell ⟨bc, j * 3 + 1, none⟩ v1).setCell ⟨bc, j * 3 + 2, none⟩ v2) (cAt x.cells i) (F' (i * 3)) (F' (i * 3 + 1)) (F' (i * 3 + 2))) := by
          intro w1 v0 v1 v2 hb hnew
          have hl := HLT.out
          have hlo : w.heap.size ≤ bc := by omega
          refine ⟨(((hnx.trans (hb.mono hnx.size)).setCell (p := ⟨bc, j * 3, none⟩) hlo v0).setCell (p := ⟨bc, j * 3 + 1, none⟩) hlo v1).setCell (p := ⟨bc, j * 3 + 2, none⟩) hlo v2, ?_, ?_, fam_step (by omega) hb.b hbcw hr hF v0 v1 v2 hnew⟩
          · have : (((w1.setCell ⟨bc, j * 3, none⟩ v0).setCell ⟨bc, j * 3 + 1, none⟩ v1).setCell ⟨bc, j * 3 + 2, none⟩ v2).heap.size = w1.heap.size := by simp
            rw [this]; exact Nat.le_trans hsz hb.size
          · intro k h1 h2
            rw [BelowS.heap_setCell _ _ _ _ h2, BelowS.heap_setCell _ _ _ _ h2, BelowS.heap_setCell _ _ _ _ h2, hb.block k (by omega)]
            exact hkeep k h1 h2
        clear hcs hal hsa hr hF hkeep t0 t2 t3 t4 t5
        go_wp2
        go_region_held3 (fun W => W.cell? ⟨bo, 1, none⟩ = some (.slice (some ⟨bc, 0, none⟩) CA CA) ∧ W.cell? ⟨wr.heap.size, 0, none⟩ = some (.int .i64 z0) ∧ W.cell? ⟨wr.heap.size, 1, none⟩ = some (.int .i64 z1) ∧ W.cell? ⟨wr.heap.size, 2, none⟩ = some (.slice ab nb cb))
          (first | exact KS.out _ D0.out.1 D0.out.2.1 D0.out.2.2.1 D0.out.2.2.2 | exact KS.out _ (by assumption) (by assumption) (by assumption) (by assumption) | exact KT.out _ _ _ _ (by assumption))
          (first
            | (go_at_call 58; refine C.out.mono ?_; rintro e w1 ⟨⟨a', cap', rfl, hce⟩, hb1, hq0, hq1, hq2⟩; obtain ⟨y0, y1, y2, y3, y4, y5⟩ := HD.out _ hb1))
        have HFIN := hide (HEND.out w1 _ _ _ hb1 hce)
        clear HEND KT KS D0 HD C y0 y1 y2 y3 y4 y5 hq0 hq1 hq2 hce hb1
        go_wp2
        go_roundw
        case rel => exact ⟨j + 1, by omega, by go_num, HFIN.out⟩
        case measure => simp [intOf]; omega
      · have hje : j = CA := by omega
        subst hje
        have HFIN : Hid (∀ u v, GivesT n x w (.returned (.agg #[.slice (some ⟨bs, 0, none⟩) SA SA, .slice (some ⟨bc, 0, none⟩) j j])) ((wr.setCell ⟨w.heap.size + 1, 0, none⟩ u).setCell ⟨w.heap.size + 1, 1, none⟩ v)) := by
          intro u v
          have hl := HLT.out
          have hk : Keeps (w.heap.size + 2) wr ((wr.setCell ⟨w.heap.size + 1, 0, none⟩ u).setCell ⟨w.heap.size + 1, 1, none⟩ v) := ((Keeps.refl _ _).setCell (p := ⟨w.heap.size + 1, 0, none⟩) (by show w.heap.size + 1 < _; omega) u).setCell (p := ⟨w.heap.size + 1, 1, none⟩) (by show w.heap.size + 1 < _; omega) v
          refine ⟨⟨_, rfl, HAR.out _ _ _ _ _ ?_ ?_, ?_⟩, (hnx.setCell (p := ⟨w.heap.size + 1, 0, none⟩) (by show w.heap.size ≤ w.heap.size + 1; omega) u).setCell (p := ⟨w.heap.size + 1, 1, none⟩) (by show w.heap.size ≤ w.heap.size + 1; omega) v⟩
          · have hrow : Row (w.heap.size + 2) wr (some ⟨bs, 0, none⟩) x.shape := ⟨by rw [hSA]; exact HL.out, Or.inr ⟨bs, 0, rfl, by omega, by omega, fun i hi => by rw [Nat.zero_add]; exact t5 i hi⟩⟩
            exact (hrow.keeps hk).low (by omega)
          · have hcc : CellsIn n (w.heap.size + 2) wr x.cells (some ⟨bc, 0, none⟩) := by
              refine Or.inr ⟨bc, 0, rfl, by omega, by omega, fun i hi => ?_⟩
              rw [hCA] at hi
              rw [Nat.zero_add]
              exact ⟨_, _, _, hr.cell (by omega), hr.cell (by omega), hr.cell (by omega), (hF i hi).mono (by omega) (Below.refl _ _) fun x v hx => hx.mono (by omega) (Below.refl _ _)⟩
            exact (hcc.keeps hk).mono (by omega) (Below.refl _ _)
          · refine ⟨bs, bc, by rw [hSA, hCA], by omega, by have := hk.1; omega, fun i hi => ?_, fun w' hsz' hoff => ?_⟩
            · exact (hk.cell (p := ⟨bs, i, none⟩) (by show w.heap.size + 2 ≤ bs; omega) (by show bs < _; omega)).trans (t5 i hi)
            · have hss : ((wr.setCell ⟨w.heap.size + 1, 0, none⟩ u).setCell ⟨w.heap.size + 1, 1, none⟩ v).heap.size = wr.heap.size := by simp
              have hs1 : wr.heap.size ≤ w'.heap.size := by rw [hss] at hsz'; exact hsz'
              have hof : ∀ k, k < wr.heap.size → k ≠ bs → k ≠ w.heap.size + 1 → w'.heap[k]? = wr.heap[k]? := fun k h0 h1 h2 => by
                rw [hoff k (by rw [hss]; exact h0) h1, BelowS.heap_setCell _ _ _ _ h2, BelowS.heap_setCell _ _ _ _ h2]
              have hr' : w'.rowIs bc 43 (j * 3) F := hr.of_block (hof bc (by omega) (by omega) (by omega))
              have hk' : Keeps (w.heap.size + 5) wr w' := ⟨by omega, fun b h1 h2 => hof b h2 (by omega) (by omega)⟩
              refine Or.inr ⟨bc, 0, rfl, by omega, by omega, fun i hi => ?_⟩
              rw [hCA] at hi
              rw [Nat.zero_add]
              exact ⟨_, _, _, hr'.cell (by omega), hr'.cell (by omega), hr'.cell (by omega), ((hF i hi).keeps hk' fun x v hx => hx.keeps hk').mono (by omega) (Below.refl _ _) fun x v hx => hx.mono (by omega) (Below.refl _ _)⟩
        have HT := hide (set_two t2 t3 (.slice (some ⟨bs, 0, none⟩) SA SA) (.slice (some ⟨bc, 0, none⟩) j j))
        have f0 := t4 0
        have f1 := t4 1
        clear hr hF hkeep t4 t5 HCS HKP
        go_wp2
        exact bodyPost_ret (v := .agg #[.slice (some ⟨bs, 0, none⟩) SA SA, .slice (some ⟨bc, 0, none⟩) j j]) (by simp [results, Tryd.results26, go_sem, HT.out.1, HT.out.2]) rfl (HFIN.out _ _)
theorem copy_step (n : Nat) (IH : CopyC n) : CopyC (n + 1) := fun r x lo va w h hx => (copy_own n IH r x lo va w h hx).mono fun e w' ⟨⟨v, he, hv, _⟩, hb⟩ => ⟨⟨v, he, hv⟩, hb⟩
theorem copy_any (n : Nat) : CopyC n := by
  induction n with
  | zero => intro r x lo va w _ hx; exact hx.elim
  | succ n ih => exact copy_step n ih
/-- Copy, with what is known of where its answer lies. -/
theorem copy_at (n : Nat) : ∀ r x lo va w, chkA r x = 0 → ArIn (n + 1) lo w x va → Calls Tryd.prog 26 #[va] w fun e w' => GivesT n x w e w' := copy_own n (copy_any n)
end Go.Proofs.YtlfacpclihmnnaaDoor
namespace Go.Proofs.YtlfacpclihmnnaaDoor
open Go.ChangeShapes Go.WideShapes Go.ChangeAt Go.RowKit
set_option linter.unusedVariables false
set_option maxRecDepth 100000
def gI (l : List Int) (i : Nat) : Int := l[i]?.getD 0
theorem gI_set (l : List Int) (k i : Nat) (v : Int) (hk : k < l.length) : gI (l.set k v) i = if i = k then v else gI l i := by
  unfold gI
  rw [List.getElem?_set]
  by_cases h : k = i
  · subst h; simp [hk]
  · have h' : ¬ i = k := fun h' => h h'.symm
    rw [if_neg h, if_neg h']
theorem gI_ext {l m : List Int} (h : l.length = m.length) (h2 : ∀ i, i < l.length → gI l i = gI m i) : l = m := by
  refine List.ext_getElem? fun i => ?_
  by_cases hi : i < l.length
  · have := h2 i hi
    unfold gI at this
    rw [List.getElem?_eq_getElem hi, List.getElem?_eq_getElem (by omega)] at this ⊢
    simpa using this
  · rw [List.getElem?_eq_none (by omega), List.getElem?_eq_none (by omega)]
theorem inAxes_gI (l d : List Int) : inAxes l d ↔ d.length = l.length ∧ ∀ i, i < l.length → 0 ≤ gI d i ∧ gI d i < gI l i := inAxes_iff l d
/-- A step along each axis. -/
def strL : List Int → List Int
  | [] => []
  | _ :: l => prodL l :: strL l
def dot : List Int → List Int → Int
  | s :: ss, a :: ta => s * a + dot ss ta
  | _, _ => 0
theorem strL_length (l : List Int) : (strL l).length = l.length := by
  induction l with
  | nil => rfl
  | cons s ss ih => simp [strL, ih]
theorem strL_at (l : List Int) (k : Nat) (hk : k < l.length) : gI (strL l) k = prodL (l.drop (k + 1)) := by
  induction l generalizing k with
  | nil => simp at hk
  | cons s ss ih =>
    cases k with
    | zero => simp [strL, gI]
    | succ k => simpa [strL, gI] using ih k (by simpa using hk)
theorem place_dot (l d : List Int) (h : d.length = l.length) : place l d = dot (strL l) d := by
  induction l generalizing d with
  | nil =>
    cases d with
    | nil => rfl
    | cons a ta => simp at h
  | cons s ss ih =>
    cases d with
    | nil => simp at h
    | cons a ta => simp only [place, strL, dot]; rw [ih ta (by simpa using h), Int.mul_comm]
theorem dot_set (s d : List Int) (k : Nat) (v : Int) (hs : k < s.length) (hd : k < d.length) : dot s (d.set k v) = dot s d + gI s k * (v - gI d k) := by
  induction s generalizing d k with
  | nil => simp at hs
  | cons x xs ih =>
    cases d with
    | nil => simp at hd
    | cons a ta =>
      cases k with
      | zero => simp only [List.set_cons_zero, dot, gI, List.getElem?_cons_zero, Option.getD_some, Int.mul_sub]; omega
      | succ k =>
        have := ih ta k (by simpa using hs) (by simpa using hd)
        simp only [List.set_cons_succ, dot, gI, List.getElem?_cons_succ] at this ⊢
        rw [this]; omega
theorem dot_neg (s d : List Int) (k : Nat) (hs : k < s.length) (hd : k < d.length) : dot (s.set k (-gI s k)) d = dot s d - 2 * (gI s k * gI d k) := by
  induction s generalizing d k with
  | nil => simp at hs
  | cons x xs ih =>
    cases d with
    | nil => simp at hd
    | cons a ta =>
      cases k with
      | zero => simp only [List.set_cons_zero, dot, gI, List.getElem?_cons_zero, Option.getD_some, Int.neg_mul]; omega
      | succ k =>
        have := ih ta k (by simpa using hs) (by simpa using hd)
        simp only [List.set_cons_succ, dot, gI, List.getElem?_cons_succ] at this ⊢
        rw [this]; omega
/-- A place turned round along an axis. -/
def turnL (l d : List Int) (k : Nat) : List Int := d.set k (gI l k - 1 - gI d k)
theorem turn_in {l d : List Int} (k : Nat) (hk : k < l.length) (h : inAxes l d) : inAxes l (turnL l d k) := by
  rw [inAxes_gI] at h ⊢
  refine ⟨by simp [turnL, h.1], fun i hi => ?_⟩
  unfold turnL
  rw [gI_set _ _ _ _ (by omega)]
  have := h.2 i hi
  by_cases hik : i = k
  · subst hik; rw [if_pos rfl]; omega
  · rw [if_neg hik]; exact this
theorem turn_turn {l d : List Int} (k : Nat) (hk : k < l.length) (h : d.length = l.length) : turnL l (turnL l d k) k = d := by
  refine gI_ext (by simp [turnL]) fun i hi => ?_
  have hd : k < d.length := by omega
  unfold turnL
  rw [gI_set _ _ _ _ (by simpa using hd), gI_set _ _ _ _ hd, gI_set _ _ _ _ hd, if_pos rfl]
  by_cases hik : i = k
  · subst hik; rw [if_pos rfl]; omega
  · rw [if_neg hik, if_neg hik]
/-- Turned steps lead to the turned place. -/
theorem turn_place {l d : List Int} (k : Nat) (hk : k < l.length) (h : d.length = l.length) : gI (strL l) k * (gI l k - 1) + dot ((strL l).set k (-gI (strL l) k)) d = place l (turnL l d k) := by
  have hs : k < (strL l).length := by rw [strL_length]; exact hk
  rw [place_dot l _ (by simp [turnL, h]), dot_neg _ _ _ hs (by omega)]
  unfold turnL
  rw [dot_set _ _ _ _ hs (by omega)]
  generalize gI (strL l) k = s
  generalize gI d k = x
  generalize dot (strL l) d = D
  have e : s * (gI l k - 1 - x - x) = s * (gI l k - 1) - s * x - s * x := by rw [Int.mul_sub, Int.mul_sub]
  rw [e]
  omega
/-- Shapes that may be. -/
theorem fine_cases {l : List Int} (h : sizeE l = 0) : l.length ≤ 8 ∧ (∀ z ∈ l, 0 ≤ z) ∧ ((hasZero l ∧ sizeV l = 0) ∨ ((∀ z ∈ l, 0 < z) ∧ prodL l ≤ 16384 ∧ sizeV l = prodL l)) := by
  obtain ⟨s1, s2, s3⟩ := sizeE_ok h
  refine ⟨by omega, fun z hz => ?_, ?_⟩
  · rcases Int.lt_or_le z 0 with hlt | hle
    · exact absurd ⟨z, hz, hlt⟩ s2
    · exact hle
  · rcases s3 with s3 | ⟨s3, s4⟩
    · exact Or.inl ⟨s3, (size_zero s1 s2 s3).1⟩
    · exact Or.inr ⟨all_pos s2 s3, by omega, (size_ok s1 s2 s3 (by omega)).1⟩
theorem prodL_zero {l : List Int} (h : hasZero l) : prodL l = 0 := by
  obtain ⟨z, hz, rfl⟩ := h
  induction l with
  | nil => simp at hz
  | cons s ss ih =>
    simp only [prodL]
    rcases List.mem_cons.1 hz with h | h
    · rw [← h]; simp
    · rw [ih h]; simp
theorem fine_mk {l : List Int} (h1 : l.length ≤ 8) (h2 : ∀ z ∈ l, 0 ≤ z) (h3 : hasZero l ∨ prodL l ≤ 16384) : sizeE l = 0 ∧ sizeV l = prodL l := by
  have hn : ¬ hasNeg l := by rintro ⟨z, hz, h⟩; have := h2 z hz; omega
  by_cases h0 : hasZero l
  · have := size_zero (by omega) hn h0
    refine ⟨this.2, ?_⟩
    rw [this.1]
    exact (prodL_zero h0).symm
  · rcases h3 with h3 | h3
    · exact absurd h3 h0
    · have := size_ok (by omega) hn h0 (by omega)
      exact ⟨this.2, this.1⟩
theorem sizeV_prod {l : List Int} (h : sizeE l = 0) : sizeV l = prodL l := by
  obtain ⟨h1, h2, h3⟩ := fine_cases h
  exact (fine_mk h1 h2 (h3.elim (fun h => Or.inl h.1) fun h => Or.inr h.2.1)).2
theorem sizeV_le {l : List Int} (h : sizeE l = 0) : 0 ≤ sizeV l ∧ sizeV l ≤ 16384 := by
  obtain ⟨h1, h2, h3⟩ := fine_cases h
  rcases h3 with ⟨-, h3⟩ | ⟨h3, h4, h5⟩
  · omega
  · have := prodL_pos h3; omega
theorem chkB_iff (f : Ar → Int) (x : Ar) : chkB f x = 0 ↔ sizeE x.shape = 0 ∧ sizeV x.shape = x.cells.length ∧ ¬ hasLong x.shape ∧ ∀ i, i < x.cells.length → chkC f (cAt x.cells i) = 0 := by
  unfold chkB
  constructor
  · intro h
    by_cases h1 : sizeE x.shape = 0
    · rw [if_neg (fun k => k h1)] at h
      by_cases h2 : sizeV x.shape = x.cells.length
      · rw [if_neg (fun k => k h2)] at h
        by_cases h3 : hasLong x.shape
        · rw [if_pos h3] at h; omega
        · rw [if_neg h3] at h; exact ⟨h1, h2, h3, firstUp_none h⟩
      · rw [if_pos h2] at h; omega
    · rw [if_pos h1] at h; exact absurd h h1
  · rintro ⟨h1, h2, h3, h4⟩
    rw [if_neg (fun k => k h1), if_neg (fun k => k h2), if_neg h3]
    exact firstUp_all h4
def inF : Nat → Ar → Int
  | 0, _ => 15
  | r + 1, y => chkA r y
theorem chkA_iff (r : Nat) (x : Ar) : chkA r x = 0 ↔ sizeE x.shape = 0 ∧ sizeV x.shape = x.cells.length ∧ ¬ hasLong x.shape ∧ ∀ i, i < x.cells.length → chkC (inF r) (cAt x.cells i) = 0 := by
  cases r with
  | zero => exact chkB_iff _ x
  | succ r => exact chkB_iff _ x
/-- Cells by their number. -/
def mkCs (m : Nat) (g : Nat → Ce) : List Ce := (List.range m).map g
theorem mkCs_len (m : Nat) (g : Nat → Ce) : (mkCs m g).length = m := by simp [mkCs]
theorem mkCs_at (m : Nat) (g : Nat → Ce) (i : Nat) (hi : i < m) : cAt (mkCs m g) i = g i := by simp [cAt, mkCs, hi]
theorem cs_ext {a b : List Ce} (h : a.length = b.length) (h2 : ∀ i, i < a.length → cAt a i = cAt b i) : a = b := by
  refine List.ext_getElem? fun i => ?_
  by_cases hi : i < a.length
  · have := h2 i hi
    unfold cAt at this
    rw [List.getElem?_eq_getElem hi, List.getElem?_eq_getElem (by omega)] at this ⊢
    simpa using this
  · rw [List.getElem?_eq_none (by omega), List.getElem?_eq_none (by omega)]
end Go.Proofs.YtlfacpclihmnnaaDoor
namespace Go.Proofs.YtlfacpclihmnnaaDoor
open Go.ChangeShapes Go.WideShapes Go.ChangeAt Go.RowKit
set_option linter.unusedVariables false
set_option maxRecDepth 100000
/-- A row of numbers in a block that may be written. -/
def Soft (w : World) (b : Nat) (l : List Int) : Prop := w.rowIs b 3 l.length (fun i => .int .i64 (gI l i))
theorem Soft.row {w : World} {b lo : Nat} {l : List Int} (h : Soft w b l) (hlo : lo ≤ b) (hl : l.length ≤ 140737488355328) : Row lo w (some ⟨b, 0, none⟩) l := by
  refine ⟨hl, ?_⟩
  by_cases h0 : l = []
  · exact Or.inl h0
  · have hp : 0 < l.length := List.length_pos_iff.2 h0
    have h' := h
    obtain ⟨c, h1, -⟩ := h'
    exact Or.inr ⟨b, 0, rfl, hlo, lt_of_block h1, fun i hi => by rw [Nat.zero_add]; exact World.rowIs.cell (i := i) h hi⟩
theorem Soft.set {w : World} {b : Nat} {l : List Int} (h : Soft w b l) (k : Nat) (v : Int) : Soft (w.setCell ⟨b, k, none⟩ (.int .i64 v)) b (l.set k v) := by
  have := World.rowIs.set h k (.int .i64 v)
  unfold Soft
  rw [List.length_set]
  refine this.congr fun i hi => ?_
  by_cases hk : k < l.length
  · rw [gI_set _ _ _ _ hk]; split <;> rfl
  · have e : l.set k v = l := List.set_eq_of_length_le (by omega)
    rw [e, if_neg (by omega)]
theorem Soft.below {w w1 : World} {b : Nat} {l : List Int} (h : Soft w b l) (hb : Below w.heap.size w w1) : Soft w1 b l := by
  obtain ⟨c, h1, h2⟩ := h
  exact ⟨c, (hb.block b (lt_of_block h1)).trans h1, h2⟩
theorem Soft.lt {w : World} {b : Nat} {l : List Int} (h : Soft w b l) : b < w.heap.size := by
  obtain ⟨c, h1, h2⟩ := h
  exact lt_of_block h1
/-- The worlds in a loop that writes into two rows: nothing else has turned. -/
structure Two (W : World) (b1 b2 : Nat) (wr : World) : Prop where
  io : Below 0 W wr
  size : wr.heap.size = W.heap.size
  keep : ∀ k, k ≠ b1 → k ≠ b2 → wr.heap[k]? = W.heap[k]?
theorem Two.refl (W : World) (b1 b2 : Nat) : Two W b1 b2 W := ⟨Below.refl _ _, rfl, fun _ _ _ => rfl⟩
theorem Two.drew {W wr : World} {b1 b2 : Nat} (h : Two W b1 b2 wr) : Two W b1 b2 wr.drew := ⟨h.io.drew, h.size, h.keep⟩
theorem Two.cell {W wr : World} {b1 b2 : Nat} (h : Two W b1 b2 wr) {b i : Nat} {v : Value} (h1 : b ≠ b1) (h2 : b ≠ b2) (hc : W.cell? ⟨b, i, none⟩ = some v) : wr.cell? ⟨b, i, none⟩ = some v := by
  rw [World.cell?_of_block (w := W) (h.keep b h1 h2)]; exact hc
theorem Two.frozen {W wr : World} {b1 b2 : Nat} (h : Two W b1 b2 wr) {b i : Nat} (h1 : b ≠ b1) (h2 : b ≠ b2) (hc : W.frozen? ⟨b, i, none⟩ = false) : wr.frozen? ⟨b, i, none⟩ = false := by
  rw [World.frozen?_of_block (w := W) (h.keep b h1 h2)]; exact hc
theorem Two.belowB {W wr : World} {b1 b2 B : Nat} (h : Two W b1 b2 wr) (h1 : B ≤ b1) (h2 : B ≤ b2) : Below B W wr := ⟨h.io.os, h.io.tape, h.io.output, h.io.size, fun k hk => h.keep k (by omega) (by omega)⟩
theorem Two.below {W wr w : World} {b1 b2 : Nat} (h : Two W b1 b2 wr) (hb : Below w.heap.size w W) (h1 : w.heap.size ≤ b1) (h2 : w.heap.size ≤ b2) : Below w.heap.size w wr := hb.trans (h.belowB h1 h2)
/-- A row of numbers that may be written, by its cells. -/
def SoftC (w : World) (b : Nat) (l : List Int) : Prop := ∀ i, i < l.length → w.cell? ⟨b, i, none⟩ = some (.int .i64 (gI l i)) ∧ w.frozen? ⟨b, i, none⟩ = false
theorem Soft.cells {w : World} {b : Nat} {l : List Int} (h : Soft w b l) : SoftC w b l := fun i hi => ⟨World.rowIs.cell (i := i) h hi, World.rowIs.frozen h i⟩
theorem SoftC.set {w : World} {b : Nat} {l : List Int} (h : SoftC w b l) (k : Nat) (hk : k < l.length) (v : Int) : SoftC (w.setCell ⟨b, k, none⟩ (.int .i64 v)) b (l.set k v) := by
  intro i hi
  rw [List.length_set] at hi
  obtain ⟨h1, h2⟩ := h i hi
  refine ⟨?_, by simpa using h2⟩
  rw [gI_set _ _ _ _ hk]
  by_cases hik : i = k
  · subst hik
    rw [if_pos rfl]
    exact World.cell?_setCell_same' _ _ _ (by rw [h1]; rfl)
  · rw [if_neg hik, World.cell?_setCell_other _ _ _ _ (by simp)]
    exact h1
theorem SoftC.row {w : World} {b lo : Nat} {l : List Int} (h : SoftC w b l) (hb : b < w.heap.size) (hlo : lo ≤ b) (hl : l.length ≤ 140737488355328) : Row lo w (some ⟨b, 0, none⟩) l :=
  ⟨hl, Or.inr ⟨b, 0, rfl, hlo, hb, fun i hi => by rw [Nat.zero_add]; exact (h i hi).1⟩⟩
end Go.Proofs.YtlfacpclihmnnaaDoor
namespace Go.Proofs.YtlfacpclihmnnaaDoor
open Go.ChangeShapes Go.WideShapes Go.ChangeAt Go.RowKit
set_option linter.unusedVariables false
set_option maxRecDepth 100000
def zeroA : Ar := .mk [] []
theorem zeroA_in (n lo : Nat) (w : World) : ArIn (n + 1) lo w zeroA (.agg #[.slice none 0 0, .slice none 0 0]) := arIn_mk (x := zeroA) (row_nil _ _ _) (by simp [zeroA, Ar.cells]) (Or.inl rfl) rfl rfl
def Gives2 (n lo : Nat) (x : Ar) (E : Int) (w : World) (e : Ending) (w' : World) : Prop := (∃ v, e = .returned (.tuple #[v, .int .i64 E]) ∧ ArIn n lo w' x v) ∧ Below w.heap.size w w'
theorem gives2_of {n lo : Nat} {x : Ar} {E : Int} {w w' : World} {v : Value} {R : Ar × Int} (hR : R = (x, E)) (hx : ArIn n lo w' x v) (hb : Below w.heap.size w w') : Gives2 n lo R.1 R.2 w (.returned (.tuple #[v, .int .i64 E])) w' := by
  subst hR
  exact ⟨⟨_, rfl, hx⟩, hb⟩
/-- A world in which the boxed argument (block s) and the answer's place (block s + 1) still lie as they were made. -/
structure In2 (w : World) (v0 v1 : Value) (W : World) : Prop where
  bel : Below w.heap.size w W
  size : w.heap.size + 2 ≤ W.heap.size
  q0 : W.cell? ⟨w.heap.size, 0, none⟩ = some v0
  q1 : W.cell? ⟨w.heap.size, 1, none⟩ = some v1
  p0 : W.cell? ⟨w.heap.size + 1, 0, none⟩ = some (.slice none 0 0)
  p1 : W.cell? ⟨w.heap.size + 1, 1, none⟩ = some (.slice none 0 0)
  f0 : W.frozen? ⟨w.heap.size + 1, 0, none⟩ = false
  f1 : W.frozen? ⟨w.heap.size + 1, 1, none⟩ = false
theorem frozen_new1 (w : World) (c : Array Value) (t : TypeId) (o : Obj) (i : Nat) : ((w.alloc o).alloc (.cells c t)).frozen? ⟨w.heap.size + 1, i, none⟩ = false := by
  have := frozen_new (w.alloc o) c t i
  have s1 : (w.alloc o).heap.size = w.heap.size + 1 := by simp
  rw [s1] at this
  exact this
theorem in2_new (w : World) (v0 v1 : Value) : In2 w v0 v1 ((w.alloc (.cells #[v0, v1] 25)).alloc (.cells #[.slice none 0 0, .slice none 0 0] 25)) :=
  ⟨two_allocs _ _ _, by simp, cell_new1 w _ 25 (0, 0) _ 0 _ rfl, cell_new1 w _ 25 (0, 0) _ 1 _ rfl, cell_new2 w _ 25 (0, 0) _ 0 _ rfl, cell_new2 w _ 25 (0, 0) _ 1 _ rfl, frozen_new1 _ _ _ _ _, frozen_new1 _ _ _ _ _⟩
theorem In2.next {w W W' : World} {v0 v1 : Value} (h : In2 w v0 v1 W) (hb : Below W.heap.size W W') : In2 w v0 v1 W' := by
  have s := h.size
  refine ⟨h.bel.trans (hb.mono h.bel.size), Nat.le_trans s hb.size, ?_, ?_, ?_, ?_, ?_, ?_⟩
  · exact (hb.cell (p := ⟨w.heap.size, 0, none⟩) (by show w.heap.size < _; omega)).trans h.q0
  · exact (hb.cell (p := ⟨w.heap.size, 1, none⟩) (by show w.heap.size < _; omega)).trans h.q1
  · exact (hb.cell (p := ⟨w.heap.size + 1, 0, none⟩) (by show w.heap.size + 1 < _; omega)).trans h.p0
  · exact (hb.cell (p := ⟨w.heap.size + 1, 1, none⟩) (by show w.heap.size + 1 < _; omega)).trans h.p1
  · exact (hb.frozen (p := ⟨w.heap.size + 1, 0, none⟩) (by show w.heap.size + 1 < _; omega)).trans h.f0
  · exact (hb.frozen (p := ⟨w.heap.size + 1, 1, none⟩) (by show w.heap.size + 1 < _; omega)).trans h.f1
theorem In2.drew {w W : World} {v0 v1 : Value} (h : In2 w v0 v1 W) : In2 w v0 v1 W.drew := h.next (Below.refl _ _).drew
theorem In2.alloc {w W : World} {v0 v1 : Value} (h : In2 w v0 v1 W) (o : Obj) : In2 w v0 v1 (W.alloc o) := h.next (one_alloc _ _)
/-- A store behind the answer's place. -/
theorem In2.set {w W : World} {v0 v1 : Value} (h : In2 w v0 v1 W) {b i : Nat} (hb : w.heap.size + 2 ≤ b) (v : Value) : In2 w v0 v1 (W.setCell ⟨b, i, none⟩ v) := by
  have s := h.size
  have hk : Below (w.heap.size + 2) W (W.setCell ⟨b, i, none⟩ v) := (Below.refl _ _).setCell (p := ⟨b, i, none⟩) hb v
  refine ⟨h.bel.setCell (p := ⟨b, i, none⟩) (by show w.heap.size ≤ b; omega) v, Nat.le_trans s hk.size, ?_, ?_, ?_, ?_, ?_, ?_⟩
  · exact (hk.cell (p := ⟨w.heap.size, 0, none⟩) (by show w.heap.size < _; omega)).trans h.q0
  · exact (hk.cell (p := ⟨w.heap.size, 1, none⟩) (by show w.heap.size < _; omega)).trans h.q1
  · exact (hk.cell (p := ⟨w.heap.size + 1, 0, none⟩) (by show w.heap.size + 1 < _; omega)).trans h.p0
  · exact (hk.cell (p := ⟨w.heap.size + 1, 1, none⟩) (by show w.heap.size + 1 < _; omega)).trans h.p1
  · exact (hk.frozen (p := ⟨w.heap.size + 1, 0, none⟩) (by show w.heap.size + 1 < _; omega)).trans h.f0
  · exact (hk.frozen (p := ⟨w.heap.size + 1, 1, none⟩) (by show w.heap.size + 1 < _; omega)).trans h.f1
theorem In2.belowS {w W W' : World} {v0 v1 : Value} {B : Nat} (h : In2 w v0 v1 W) (hb : Below B W W') (hB : w.heap.size + 2 ≤ B) : In2 w v0 v1 W' := by
  have s := h.size
  have hk := hb.mono hB
  refine ⟨h.bel.trans (hb.mono (by omega)), Nat.le_trans s hk.size, ?_, ?_, ?_, ?_, ?_, ?_⟩
  · exact (hk.cell (p := ⟨w.heap.size, 0, none⟩) (by show w.heap.size < _; omega)).trans h.q0
  · exact (hk.cell (p := ⟨w.heap.size, 1, none⟩) (by show w.heap.size < _; omega)).trans h.q1
  · exact (hk.cell (p := ⟨w.heap.size + 1, 0, none⟩) (by show w.heap.size + 1 < _; omega)).trans h.p0
  · exact (hk.cell (p := ⟨w.heap.size + 1, 1, none⟩) (by show w.heap.size + 1 < _; omega)).trans h.p1
  · exact (hk.frozen (p := ⟨w.heap.size + 1, 0, none⟩) (by show w.heap.size + 1 < _; omega)).trans h.f0
  · exact (hk.frozen (p := ⟨w.heap.size + 1, 1, none⟩) (by show w.heap.size + 1 < _; omega)).trans h.f1
/-- The answer laid into its place: what is read there, and what was told stays. -/
theorem In2.put {w W : World} {v0 v1 : Value} (h : In2 w v0 v1 W) (u v : Value) : ((W.setCell ⟨w.heap.size + 1, 0, none⟩ u).cell? ⟨w.heap.size + 1, 0, none⟩ = some u ∧ ((W.setCell ⟨w.heap.size + 1, 0, none⟩ u).setCell ⟨w.heap.size + 1, 1, none⟩ v).cell? ⟨w.heap.size + 1, 1, none⟩ = some v) := set_two h.p0 h.p1 u v
theorem In2.fin {w W : World} {v0 v1 : Value} (h : In2 w v0 v1 W) (u v : Value) : Below w.heap.size w ((W.setCell ⟨w.heap.size + 1, 0, none⟩ u).setCell ⟨w.heap.size + 1, 1, none⟩ v) :=
  (h.bel.setCell (p := ⟨w.heap.size + 1, 0, none⟩) (by show w.heap.size ≤ w.heap.size + 1; omega) u).setCell (p := ⟨w.heap.size + 1, 1, none⟩) (by show w.heap.size ≤ w.heap.size + 1; omega) v
theorem In2.give {w W : World} {v0 v1 : Value} (h : In2 w v0 v1 W) {n lo : Nat} {x : Ar} {va : Value} (hx : ArIn n lo W x va) (hlo : w.heap.size + 2 ≤ lo) (u v : Value) : ArIn n w.heap.size ((W.setCell ⟨w.heap.size + 1, 0, none⟩ u).setCell ⟨w.heap.size + 1, 1, none⟩ v) x va := by
  have hk : Keeps (w.heap.size + 2) W ((W.setCell ⟨w.heap.size + 1, 0, none⟩ u).setCell ⟨w.heap.size + 1, 1, none⟩ v) := ((Keeps.refl _ _).setCell (p := ⟨w.heap.size + 1, 0, none⟩) (by show w.heap.size + 1 < _; omega) u).setCell (p := ⟨w.heap.size + 1, 1, none⟩) (by show w.heap.size + 1 < _; omega) v
  exact ((hx.mono hlo (Below.refl _ _)).keeps hk).mono (by omega) (Below.refl _ _)
end Go.Proofs.YtlfacpclihmnnaaDoor
namespace Go.Proofs.YtlfacpclihmnnaaDoor
open Go.ChangeShapes Go.WideShapes Go.ChangeAt Go.RowKit
set_option linter.unusedVariables false
set_option maxRecDepth 100000
/-- Two boxed arguments (blocks s and s + 1) and the answer's place (block s + 2). -/
structure In3 (w : World) (v0 v1 u0 u1 : Value) (W : World) : Prop where
  bel : Below w.heap.size w W
  size : w.heap.size + 3 ≤ W.heap.size
  q0 : W.cell? ⟨w.heap.size, 0, none⟩ = some v0
  q1 : W.cell? ⟨w.heap.size, 1, none⟩ = some v1
  r0 : W.cell? ⟨w.heap.size + 1, 0, none⟩ = some u0
  r1 : W.cell? ⟨w.heap.size + 1, 1, none⟩ = some u1
  p0 : W.cell? ⟨w.heap.size + 2, 0, none⟩ = some (.slice none 0 0)
  p1 : W.cell? ⟨w.heap.size + 2, 1, none⟩ = some (.slice none 0 0)
  f0 : W.frozen? ⟨w.heap.size + 2, 0, none⟩ = false
  f1 : W.frozen? ⟨w.heap.size + 2, 1, none⟩ = false
theorem In3.belowS {w W W' : World} {v0 v1 u0 u1 : Value} {B : Nat} (h : In3 w v0 v1 u0 u1 W) (hb : Below B W W') (hB : w.heap.size + 3 ≤ B) : In3 w v0 v1 u0 u1 W' := by
  have s := h.size
  have hk := hb.mono hB
  refine ⟨h.bel.trans (hb.mono (by omega)), Nat.le_trans s hk.size, ?_, ?_, ?_, ?_, ?_, ?_, ?_, ?_⟩
  · exact (hk.cell (p := ⟨w.heap.size, 0, none⟩) (by show w.heap.size < _; omega)).trans h.q0
  · exact (hk.cell (p := ⟨w.heap.size, 1, none⟩) (by show w.heap.size < _; omega)).trans h.q1
  · exact (hk.cell (p := ⟨w.heap.size + 1, 0, none⟩) (by show w.heap.size + 1 < _; omega)).trans h.r0
  · exact (hk.cell (p := ⟨w.heap.size + 1, 1, none⟩) (by show w.heap.size + 1 < _; omega)).trans h.r1
  · exact (hk.cell (p := ⟨w.heap.size + 2, 0, none⟩) (by show w.heap.size + 2 < _; omega)).trans h.p0
  · exact (hk.cell (p := ⟨w.heap.size + 2, 1, none⟩) (by show w.heap.size + 2 < _; omega)).trans h.p1
  · exact (hk.frozen (p := ⟨w.heap.size + 2, 0, none⟩) (by show w.heap.size + 2 < _; omega)).trans h.f0
  · exact (hk.frozen (p := ⟨w.heap.size + 2, 1, none⟩) (by show w.heap.size + 2 < _; omega)).trans h.f1
theorem In3.next {w W W' : World} {v0 v1 u0 u1 : Value} (h : In3 w v0 v1 u0 u1 W) (hb : Below W.heap.size W W') : In3 w v0 v1 u0 u1 W' := h.belowS hb h.size
theorem in3_new (w : World) (v0 v1 u0 u1 : Value) : In3 w v0 v1 u0 u1 (((w.alloc (.cells #[v0, v1] 25)).alloc (.cells #[u0, u1] 25)).alloc (.cells #[.slice none 0 0, .slice none 0 0] 25)) := by
  have B2 := two_allocs w (.cells #[v0, v1] 25) (.cells #[u0, u1] 25)
  have z2 := size_two w (.cells #[v0, v1] 25) (.cells #[u0, u1] 25)
  have B3 := one_alloc ((w.alloc (.cells #[v0, v1] 25)).alloc (.cells #[u0, u1] 25)) (.cells #[.slice none 0 0, .slice none 0 0] 25)
  have n0 := cell_new0 ((w.alloc (.cells #[v0, v1] 25)).alloc (.cells #[u0, u1] 25)) #[.slice none 0 0, .slice none 0 0] 25 0 _ rfl
  have n1 := cell_new0 ((w.alloc (.cells #[v0, v1] 25)).alloc (.cells #[u0, u1] 25)) #[.slice none 0 0, .slice none 0 0] 25 1 _ rfl
  have nf := fun i => frozen_new ((w.alloc (.cells #[v0, v1] 25)).alloc (.cells #[u0, u1] 25)) #[.slice none 0 0, .slice none 0 0] 25 i
  rw [z2] at n0 n1 nf
  refine ⟨B2.trans (B3.mono (by omega)), by simp, ?_, ?_, ?_, ?_, n0, n1, nf 0, nf 1⟩
  · exact (B3.cell (p := ⟨w.heap.size, 0, none⟩) (by show w.heap.size < _; omega)).trans (cell_new1 w _ 25 (0, 0) _ 0 _ rfl)
  · exact (B3.cell (p := ⟨w.heap.size, 1, none⟩) (by show w.heap.size < _; omega)).trans (cell_new1 w _ 25 (0, 0) _ 1 _ rfl)
  · exact (B3.cell (p := ⟨w.heap.size + 1, 0, none⟩) (by show w.heap.size + 1 < _; omega)).trans (cell_new2 w _ 25 (0, 0) _ 0 _ rfl)
  · exact (B3.cell (p := ⟨w.heap.size + 1, 1, none⟩) (by show w.heap.size + 1 < _; omega)).trans (cell_new2 w _ 25 (0, 0) _ 1 _ rfl)
theorem In3.put {w W : World} {v0 v1 u0 u1 : Value} (h : In3 w v0 v1 u0 u1 W) (u v : Value) : ((W.setCell ⟨w.heap.size + 2, 0, none⟩ u).cell? ⟨w.heap.size + 2, 0, none⟩ = some u ∧ ((W.setCell ⟨w.heap.size + 2, 0, none⟩ u).setCell ⟨w.heap.size + 2, 1, none⟩ v).cell? ⟨w.heap.size + 2, 1, none⟩ = some v) := set_two h.p0 h.p1 u v
theorem In3.fin {w W : World} {v0 v1 u0 u1 : Value} (h : In3 w v0 v1 u0 u1 W) (u v : Value) : Below w.heap.size w ((W.setCell ⟨w.heap.size + 2, 0, none⟩ u).setCell ⟨w.heap.size + 2, 1, none⟩ v) :=
  (h.bel.setCell (p := ⟨w.heap.size + 2, 0, none⟩) (by show w.heap.size ≤ w.heap.size + 2; omega) u).setCell (p := ⟨w.heap.size + 2, 1, none⟩) (by show w.heap.size ≤ w.heap.size + 2; omega) v
theorem In3.give {w W : World} {v0 v1 u0 u1 : Value} (h : In3 w v0 v1 u0 u1 W) {n lo : Nat} {x : Ar} {va : Value} (hx : ArIn n lo W x va) (hlo : w.heap.size + 3 ≤ lo) (u v : Value) : ArIn n w.heap.size ((W.setCell ⟨w.heap.size + 2, 0, none⟩ u).setCell ⟨w.heap.size + 2, 1, none⟩ v) x va := by
  have hk : Keeps (w.heap.size + 3) W ((W.setCell ⟨w.heap.size + 2, 0, none⟩ u).setCell ⟨w.heap.size + 2, 1, none⟩ v) := ((Keeps.refl _ _).setCell (p := ⟨w.heap.size + 2, 0, none⟩) (by show w.heap.size + 2 < _; omega) u).setCell (p := ⟨w.heap.size + 2, 1, none⟩) (by show w.heap.size + 2 < _; omega) v
  exact ((hx.mono hlo (Below.refl _ _)).keeps hk).mono (by omega) (Below.refl _ _)
end Go.Proofs.YtlfacpclihmnnaaDoor
namespace Go.Proofs.YtlfacpclihmnnaaDoor
open Go.ChangeShapes Go.WideShapes Go.ChangeAt Go.RowKit
set_option linter.unusedVariables false
set_option maxRecDepth 100000
/-- A part of the cells. -/
theorem CellsIn.take {n lo : Nat} {w : World} {cs : List Ce} {a2 : Option Addr} (h : CellsIn n lo w cs a2) (m : Nat) : CellsIn n lo w (cs.take m) a2 := by
  rcases h with rfl | ⟨b, off, ha, hlo, hb, hc⟩
  · exact Or.inl (by simp)
  · refine Or.inr ⟨b, off, ha, hlo, hb, fun i hi => ?_⟩
    rw [List.length_take] at hi
    have := hc i (by omega)
    unfold cAt at this ⊢
    rw [List.getElem?_take_of_lt (by omega)]
    exact this
/-- As In2, whatever lies in the answer's place. -/
structure Fr (w : World) (v0 v1 : Value) (W : World) : Prop where
  bel : Below w.heap.size w W
  size : w.heap.size + 2 ≤ W.heap.size
  q0 : W.cell? ⟨w.heap.size, 0, none⟩ = some v0
  q1 : W.cell? ⟨w.heap.size, 1, none⟩ = some v1
  p0 : ∃ u, W.cell? ⟨w.heap.size + 1, 0, none⟩ = some u
  p1 : ∃ u, W.cell? ⟨w.heap.size + 1, 1, none⟩ = some u
  f0 : W.frozen? ⟨w.heap.size + 1, 0, none⟩ = false
  f1 : W.frozen? ⟨w.heap.size + 1, 1, none⟩ = false
theorem In2.fr {w W : World} {v0 v1 : Value} (h : In2 w v0 v1 W) : Fr w v0 v1 W := ⟨h.bel, h.size, h.q0, h.q1, ⟨_, h.p0⟩, ⟨_, h.p1⟩, h.f0, h.f1⟩
theorem Fr.next {w W W' : World} {v0 v1 : Value} (h : Fr w v0 v1 W) (hb : Below W.heap.size W W') : Fr w v0 v1 W' := by
  have s := h.size
  obtain ⟨u0, h0⟩ := h.p0
  obtain ⟨u1, h1⟩ := h.p1
  refine ⟨h.bel.trans (hb.mono h.bel.size), Nat.le_trans s hb.size, ?_, ?_, ⟨u0, ?_⟩, ⟨u1, ?_⟩, ?_, ?_⟩
  · exact (hb.cell (p := ⟨w.heap.size, 0, none⟩) (by show w.heap.size < _; omega)).trans h.q0
  · exact (hb.cell (p := ⟨w.heap.size, 1, none⟩) (by show w.heap.size < _; omega)).trans h.q1
  · exact (hb.cell (p := ⟨w.heap.size + 1, 0, none⟩) (by show w.heap.size + 1 < _; omega)).trans h0
  · exact (hb.cell (p := ⟨w.heap.size + 1, 1, none⟩) (by show w.heap.size + 1 < _; omega)).trans h1
  · exact (hb.frozen (p := ⟨w.heap.size + 1, 0, none⟩) (by show w.heap.size + 1 < _; omega)).trans h.f0
  · exact (hb.frozen (p := ⟨w.heap.size + 1, 1, none⟩) (by show w.heap.size + 1 < _; omega)).trans h.f1
theorem Fr.set {w W : World} {v0 v1 : Value} (h : Fr w v0 v1 W) (u v : Value) : Fr w v0 v1 ((W.setCell ⟨w.heap.size + 1, 0, none⟩ u).setCell ⟨w.heap.size + 1, 1, none⟩ v) := by
  obtain ⟨u0, h0⟩ := h.p0
  obtain ⟨u1, h1⟩ := h.p1
  have t := set_two h0 h1 u v
  refine ⟨(h.bel.setCell (p := ⟨w.heap.size + 1, 0, none⟩) (by show w.heap.size ≤ w.heap.size + 1; omega) u).setCell (p := ⟨w.heap.size + 1, 1, none⟩) (by show w.heap.size ≤ w.heap.size + 1; omega) v, by simpa using h.size, ?_, ?_, ⟨u, ?_⟩, ⟨v, t.2⟩, by simpa using h.f0, by simpa using h.f1⟩
  · exact cell_apart (p := ⟨w.heap.size, 0, none⟩) (q := ⟨w.heap.size + 1, 1, none⟩) (by show w.heap.size ≠ w.heap.size + 1; omega) _ (cell_apart (p := ⟨w.heap.size, 0, none⟩) (q := ⟨w.heap.size + 1, 0, none⟩) (by show w.heap.size ≠ w.heap.size + 1; omega) _ h.q0)
  · exact cell_apart (p := ⟨w.heap.size, 1, none⟩) (q := ⟨w.heap.size + 1, 1, none⟩) (by show w.heap.size ≠ w.heap.size + 1; omega) _ (cell_apart (p := ⟨w.heap.size, 1, none⟩) (q := ⟨w.heap.size + 1, 0, none⟩) (by show w.heap.size ≠ w.heap.size + 1; omega) _ h.q1)
  · rw [World.cell?_setCell_other _ _ _ _ (by simp)]; exact t.1
theorem Fr.fin {w W : World} {v0 v1 : Value} (h : Fr w v0 v1 W) (u v : Value) : Below w.heap.size w ((W.setCell ⟨w.heap.size + 1, 0, none⟩ u).setCell ⟨w.heap.size + 1, 1, none⟩ v) := (h.set u v).bel
end Go.Proofs.YtlfacpclihmnnaaDoor
namespace Go.Proofs.YtlfacpclihmnnaaDoor
open Go.ChangeShapes Go.WideShapes Go.ChangeAt Go.RowKit
set_option linter.unusedVariables false
set_option maxRecDepth 100000
theorem owns_form1' {w : World} {base n : Nat} {e : TypeId} {v : Value} {xs : List Value} (h : w.ownsRow base e 1 v n xs) (hn : 0 < n) : ∃ g cap, v = .slice (some ⟨g, 0, none⟩) n cap ∧ base ≤ g ∧ g < w.heap.size := by
  rcases h.2 with ⟨rfl, h0⟩ | ⟨g, cap, cur, rfl, hb, hg, -⟩
  · omega
  · exact ⟨g, cap, rfl, hb, lt_of_block hg⟩
/-- A row of numbers, of whatever kind, that append has put together. -/
theorem owns_rowE {w : World} {base : Nat} {e : TypeId} {v : Value} (l : List Int) (hl : l.length ≤ 140737488355328) (h : w.ownsRow base e 1 v l.length (l.map (Value.int .i64))) : ∃ a cap, v = .slice a l.length cap ∧ Row base w a l := by
  have h' := h
  obtain ⟨h1, h2⟩ := h'
  rcases h2 with ⟨rfl, h2⟩ | ⟨g, cap, cur, rfl, hb, hg, -⟩
  · have e : l = [] := List.eq_nil_of_length_eq_zero h2
    subst e
    exact ⟨none, 0, rfl, row_nil _ _ _⟩
  · refine ⟨_, cap, rfl, hl, Or.inr ⟨g, 0, rfl, hb, lt_of_block hg, fun i hi => ?_⟩⟩
    rw [Nat.zero_add, h.cellAt i (by omega)]
    simp [hi]
theorem int2 : (Tryd.prog.info? 2).map (fun i => (i.zero, i.size, i.bytes)) = some (some (.int .i64 0), 1, 8) := by kernel_rfl
theorem info2' : ∃ i, Tryd.prog.info? 2 = some i ∧ i.zero = some (.int .i64 0) ∧ i.size = 1 ∧ i.bytes = 8 := by
  obtain ⟨i, hi, hzz⟩ := Option.map_eq_some_iff.1 int2
  simp only [Prod.mk.injEq] at hzz
  exact ⟨i, hi, hzz.1, hzz.2.1, hzz.2.2⟩
end Go.Proofs.YtlfacpclihmnnaaDoor
namespace Go.Proofs.YtlfacpclihmnnaaDoor
open Go.ChangeShapes Go.WideShapes Go.ChangeAt Go.RowKit
set_option linter.unusedVariables false
set_option maxRecDepth 100000
/-- Where a cell's box lies. -/
theorem cells_fn {n lo : Nat} {w : World} {cs : List Ce} {a2 : Option Addr} (hc : CellsIn n lo w cs a2) : ∃ (ab : Nat → Option Addr) (cb : Nat → Nat), 0 < cs.length → ∃ b off, a2 = some ⟨b, off, none⟩ ∧ lo ≤ b ∧ b < w.heap.size ∧ ∀ i, i < cs.length → w.cell? ⟨b, off + i * 3, none⟩ = some (.int .i64 (cAt cs i).1) ∧ w.cell? ⟨b, off + i * 3 + 1, none⟩ = some (.int .i64 (cAt cs i).2.1) ∧ w.cell? ⟨b, off + i * 3 + 2, none⟩ = some (.slice (ab i) (cAt cs i).2.2.length (cb i)) ∧
    CeIn (ArIn n lo w) lo w (cAt cs i) (.int .i64 (cAt cs i).1) (.int .i64 (cAt cs i).2.1) (.slice (ab i) (cAt cs i).2.2.length (cb i)) := by
  rcases hc with rfl | ⟨b, off, ha, hlo, hb, hc⟩
  · exact ⟨fun _ => none, fun _ => 0, fun h => absurd h (by simp)⟩
  · have : ∀ i, ∃ (p : Option Addr × Nat), i < cs.length → w.cell? ⟨b, off + i * 3, none⟩ = some (.int .i64 (cAt cs i).1) ∧ w.cell? ⟨b, off + i * 3 + 1, none⟩ = some (.int .i64 (cAt cs i).2.1) ∧ w.cell? ⟨b, off + i * 3 + 2, none⟩ = some (.slice p.1 (cAt cs i).2.2.length p.2) ∧
        CeIn (ArIn n lo w) lo w (cAt cs i) (.int .i64 (cAt cs i).1) (.int .i64 (cAt cs i).2.1) (.slice p.1 (cAt cs i).2.2.length p.2) := by
      intro i
      by_cases hi : i < cs.length
      · obtain ⟨v0, v1, v2, e0, e1, e2, e3⟩ := hc i hi
        have e4 := e3
        obtain ⟨rfl, rfl, a, cap, rfl, -⟩ := e4
        exact ⟨(a, cap), fun _ => ⟨e0, e1, e2, e3⟩⟩
      · exact ⟨(none, 0), fun h => absurd h hi⟩
    obtain ⟨f, hf⟩ := Classical.axiomOfChoice this
    exact ⟨fun i => (f i).1, fun i => (f i).2, fun _ => ⟨b, off, ha, hlo, hb, fun i hi => hf i hi⟩⟩
/-- A row of cells that is filled as far as j. -/
def gF (T : Nat → Value × Value × Value) (j m : Nat) : Value := if m < j * 3 then (if m % 3 = 0 then (T (m / 3)).1 else if m % 3 = 1 then (T (m / 3)).2.1 else (T (m / 3)).2.2) else zero3 m
theorem gF_zero (T : Nat → Value × Value × Value) (m : Nat) : gF T 0 m = zero3 m := by simp [gF]
theorem gF_step (T : Nat → Value × Value × Value) (j m : Nat) : gF T (j + 1) m = if m = j * 3 + 2 then (T j).2.2 else if m = j * 3 + 1 then (T j).2.1 else if m = j * 3 then (T j).1 else gF T j m := by
  unfold gF
  by_cases h2 : m = j * 3 + 2
  · rw [if_pos h2, if_pos (by omega), if_neg (by omega), if_neg (by omega)]
    have : m / 3 = j := by omega
    rw [this]
  · rw [if_neg h2]
    by_cases h1 : m = j * 3 + 1
    · rw [if_pos h1, if_pos (by omega), if_neg (by omega), if_pos (by omega)]
      have : m / 3 = j := by omega
      rw [this]
    · rw [if_neg h1]
      by_cases h0 : m = j * 3
      · rw [if_pos h0, if_pos (by omega), if_pos (by omega)]
        have : m / 3 = j := by omega
        rw [this]
      · rw [if_neg h0]
        by_cases h : m < j * 3
        · rw [if_pos h, if_pos (by omega)]
        · rw [if_neg h, if_neg (by omega)]
theorem gF_at (T : Nat → Value × Value × Value) (j i : Nat) (hi : i < j) : gF T j (i * 3) = (T i).1 ∧ gF T j (i * 3 + 1) = (T i).2.1 ∧ gF T j (i * 3 + 2) = (T i).2.2 := by
  unfold gF
  have e0 : i * 3 / 3 = i := by omega
  have e1 : (i * 3 + 1) / 3 = i := by omega
  have e2 : (i * 3 + 2) / 3 = i := by omega
  refine ⟨?_, ?_, ?_⟩
  · rw [if_pos (by omega), if_pos (by omega), e0]
  · rw [if_pos (by omega), if_neg (by omega), if_pos (by omega), e1]
  · rw [if_pos (by omega), if_neg (by omega), if_neg (by omega), e2]
theorem heap_four (w : World) (o1 o2 o3 o4 : Obj) : ((((w.alloc o1).alloc o2).alloc o3).alloc o4).heap[w.heap.size]? = some o1 ∧ ((((w.alloc o1).alloc o2).alloc o3).alloc o4).heap[w.heap.size + 1]? = some o2 ∧ ((((w.alloc o1).alloc o2).alloc o3).alloc o4).heap[w.heap.size + 2]? = some o3 ∧ ((((w.alloc o1).alloc o2).alloc o3).alloc o4).heap[w.heap.size + 3]? = some o4 := by
  have hh : ((((w.alloc o1).alloc o2).alloc o3).alloc o4).heap = (((w.heap.push o1).push o2).push o3).push o4 := rfl
  rw [hh]
  have z1 : (w.heap.push o1).size = w.heap.size + 1 := by simp
  have z2 : ((w.heap.push o1).push o2).size = w.heap.size + 2 := by simp
  have z3 : (((w.heap.push o1).push o2).push o3).size = w.heap.size + 3 := by simp
  refine ⟨?_, ?_, ?_, ?_⟩
  · rw [Array.getElem?_push, z3, if_neg (by omega), Array.getElem?_push, z2, if_neg (by omega), Array.getElem?_push, z1, if_neg (by omega), Array.getElem?_push, if_pos rfl]
  · rw [Array.getElem?_push, z3, if_neg (by omega), Array.getElem?_push, z2, if_neg (by omega), Array.getElem?_push, z1, if_pos rfl]
  · rw [Array.getElem?_push, z3, if_neg (by omega), Array.getElem?_push, z2, if_pos rfl]
  · rw [Array.getElem?_push, z3, if_pos rfl]
theorem cell_of_heap {w : World} {b i : Nat} {cs : Array Value} {t : TypeId} {f : Nat × Nat} {v : Value} (h : w.heap[b]? = some (.cells cs t f)) (hi : cs[i]? = some v) : w.cell? ⟨b, i, none⟩ = some v := by
  unfold World.cell?
  simp only [h, hi]
  rfl
theorem frozen_of_heap {w : World} {b i : Nat} {cs : Array Value} {t : TypeId} (h : w.heap[b]? = some (.cells cs t)) : w.frozen? ⟨b, i, none⟩ = false := by
  unfold World.frozen?
  simp [h]
end Go.Proofs.YtlfacpclihmnnaaDoor
namespace Go.Proofs.YtlfacpclihmnnaaDoor
open Go.ChangeShapes Go.WideShapes Go.ChangeAt Go.RowKit
set_option linter.unusedVariables false
set_option maxRecDepth 100000
/-- A loop that appends numbers to the first field of the variable in block o. -/
structure GrowI (W : World) (o : Nat) (l : List Int) (j : Nat) (v : Value) (wr : World) : Prop where
  io : Below 0 W wr
  keep : ∀ b, b < W.heap.size → b ≠ o → wr.heap[b]? = W.heap[b]?
  c0 : wr.cell? ⟨o, 0, none⟩ = some v
  c1 : wr.cell? ⟨o, 1, none⟩ = some (.slice none 0 0)
  f0 : wr.frozen? ⟨o, 0, none⟩ = false
  f1 : wr.frozen? ⟨o, 1, none⟩ = false
  own : wr.ownsRow W.heap.size 3 1 v j ((l.take j).map (Value.int .i64))
theorem GrowI.step {W : World} {o : Nat} {l : List Int} {j : Nat} {v v' : Value} {wr w1 : World} (ho : o < W.heap.size) (h : GrowI W o l j v wr) (hb : Below W.heap.size wr w1) (hown : w1.ownsRow W.heap.size 3 1 v' (j + 1) ((l.take (j + 1)).map (Value.int .i64))) : GrowI W o l (j + 1) v' (w1.setCell ⟨o, 0, none⟩ v') := by
  have e0 : w1.cell? ⟨o, 0, none⟩ = some v := (hb.cell (p := ⟨o, 0, none⟩) ho).trans h.c0
  have e1 : w1.cell? ⟨o, 1, none⟩ = some (.slice none 0 0) := (hb.cell (p := ⟨o, 1, none⟩) ho).trans h.c1
  refine ⟨(h.io.trans (hb.mono (Nat.zero_le _))).setCell (p := ⟨o, 0, none⟩) (Nat.zero_le _) _, fun b hb1 hne => ?_, ?_, ?_, ?_, ?_, ownsRow_setCell_below hown (a := ⟨o, 0, none⟩) ho _⟩
  · rw [Below.heap_setCell _ _ _ _ (by show b ≠ o; exact hne), hb.block b hb1]
    exact h.keep b hb1 hne
  · exact World.cell?_setCell_same' _ _ _ (by rw [e0]; rfl)
  · rw [World.cell?_setCell_other _ _ _ _ (by simp)]; exact e1
  · exact frozen_set _ _ _ _ ((hb.frozen (p := ⟨o, 0, none⟩) ho).trans h.f0)
  · exact frozen_set _ _ _ _ ((hb.frozen (p := ⟨o, 1, none⟩) ho).trans h.f1)
theorem GrowI.cell {W : World} {o : Nat} {l : List Int} {j : Nat} {v : Value} {wr : World} (h : GrowI W o l j v wr) {b i : Nat} {u : Value} (hb : b < W.heap.size) (hne : b ≠ o) (hc : W.cell? ⟨b, i, none⟩ = some u) : wr.cell? ⟨b, i, none⟩ = some u := by
  rw [World.cell?_of_block (w := W) (h.keep b hb hne)]; exact hc
theorem GrowI.frozen {W : World} {o : Nat} {l : List Int} {j : Nat} {v : Value} {wr : World} (h : GrowI W o l j v wr) {b i : Nat} (hb : b < W.heap.size) (hne : b ≠ o) (hc : W.frozen? ⟨b, i, none⟩ = false) : wr.frozen? ⟨b, i, none⟩ = false := by
  rw [World.frozen?_of_block (w := W) (h.keep b hb hne)]; exact hc
theorem GrowI.below {W : World} {o B : Nat} {l : List Int} {j : Nat} {v : Value} {wr : World} (h : GrowI W o l j v wr) (h1 : B ≤ o) (h2 : o < W.heap.size) : Below B W wr := ⟨h.io.os, h.io.tape, h.io.output, h.io.size, fun k hk => h.keep k (by omega) (by omega)⟩
/-- The same of cells, in the second field. -/
structure GrowC (W : World) (o : Nat) (sv : Value) (T : Nat → Value × Value × Value) (j : Nat) (v : Value) (wr : World) : Prop where
  io : Below 0 W wr
  keep : ∀ b, b < W.heap.size → b ≠ o → wr.heap[b]? = W.heap[b]?
  c0 : wr.cell? ⟨o, 0, none⟩ = some sv
  c1 : wr.cell? ⟨o, 1, none⟩ = some v
  f1 : wr.frozen? ⟨o, 1, none⟩ = false
  own : wr.ownsRow W.heap.size 43 3 v j (rowT T j)
theorem GrowC.step {W : World} {o : Nat} {sv : Value} {T : Nat → Value × Value × Value} {j : Nat} {v v' : Value} {wr w1 : World} (ho : o < W.heap.size) (h : GrowC W o sv T j v wr) (hb : Below W.heap.size wr w1) (hown : w1.ownsRow W.heap.size 43 3 v' (j + 1) (rowT T (j + 1))) : GrowC W o sv T (j + 1) v' (w1.setCell ⟨o, 1, none⟩ v') := by
  have e0 : w1.cell? ⟨o, 0, none⟩ = some sv := (hb.cell (p := ⟨o, 0, none⟩) ho).trans h.c0
  have e1 : w1.cell? ⟨o, 1, none⟩ = some v := (hb.cell (p := ⟨o, 1, none⟩) ho).trans h.c1
  refine ⟨(h.io.trans (hb.mono (Nat.zero_le _))).setCell (p := ⟨o, 1, none⟩) (Nat.zero_le _) _, fun b hb1 hne => ?_, ?_, ?_, ?_, ownsRow_setCell_below hown (a := ⟨o, 1, none⟩) ho _⟩
  · rw [Below.heap_setCell _ _ _ _ (by show b ≠ o; exact hne), hb.block b hb1]
    exact h.keep b hb1 hne
  · rw [World.cell?_setCell_other _ _ _ _ (by simp)]; exact e0
  · exact World.cell?_setCell_same' _ _ _ (by rw [e1]; rfl)
  · exact frozen_set _ _ _ _ ((hb.frozen (p := ⟨o, 1, none⟩) ho).trans h.f1)
theorem GrowC.cell {W : World} {o : Nat} {sv : Value} {T : Nat → Value × Value × Value} {j : Nat} {v : Value} {wr : World} (h : GrowC W o sv T j v wr) {b i : Nat} {u : Value} (hb : b < W.heap.size) (hne : b ≠ o) (hc : W.cell? ⟨b, i, none⟩ = some u) : wr.cell? ⟨b, i, none⟩ = some u := by
  rw [World.cell?_of_block (w := W) (h.keep b hb hne)]; exact hc
theorem GrowC.frozen {W : World} {o : Nat} {sv : Value} {T : Nat → Value × Value × Value} {j : Nat} {v : Value} {wr : World} (h : GrowC W o sv T j v wr) {b i : Nat} (hb : b < W.heap.size) (hne : b ≠ o) (hc : W.frozen? ⟨b, i, none⟩ = false) : wr.frozen? ⟨b, i, none⟩ = false := by
  rw [World.frozen?_of_block (w := W) (h.keep b hb hne)]; exact hc
theorem GrowC.below {W : World} {o B : Nat} {sv : Value} {T : Nat → Value × Value × Value} {j : Nat} {v : Value} {wr : World} (h : GrowC W o sv T j v wr) (h1 : B ≤ o) (h2 : o < W.heap.size) : Below B W wr := ⟨h.io.os, h.io.tape, h.io.output, h.io.size, fun k hk => h.keep k (by omega) (by omega)⟩
theorem take_map_step (l : List Int) (j : Nat) (hj : j < l.length) : (l.take (j + 1)).map (Value.int .i64) = (l.take j).map (Value.int .i64) ++ [.int .i64 (gI l j)] := by
  rw [List.take_succ_eq_append_getElem hj, List.map_append]
  simp [gI, hj]
end Go.Proofs.YtlfacpclihmnnaaDoor
namespace Go.Proofs.YtlfacpclihmnnaaDoor
open Go.ChangeShapes Go.WideShapes Go.ChangeAt Go.RowKit
set_option linter.unusedVariables false
set_option maxRecDepth 100000
/-- Where a part of a slice begins. -/
def subA (a : Option Addr) (l c sz : Nat) : Option Addr := if c = l then a else a.map (·.add (l * sz))
theorem part_l {P : Program} {t e : TypeId} {sz : Nat} (ht : P.underlying t = some (.slice e)) (hsz : (P.info? e).map (·.size) = some sz) (a : Option Addr) (n c l : Nat) (kl : Int) (el : kl = (l : Int)) (h1 : l ≤ n) (W : World) :
    (Instr.sliceAt t (.slice a n c) (some (.int .i64 kl)) none none).run P W = .ok (.slice (subA a l c sz) (n - l) (c - l)) W := by
  subst el
  have he : P.elem t = e := by simp [Program.elem, ht]
  have ht' : P.underlying t = some (.slice (P.elem t)) := by rw [he]; exact ht
  obtain ⟨i, hi, hs⟩ := Option.map_eq_some_iff.1 hsz
  rw [run_sliceAt_slice W t _ _ _ _ ht', run_slice_l W t a n c ht' .i64 l (by omega) (by omega), he]
  simp [sizeOf, typeInfo, hi, hs, sliced, subA]
theorem part_h {P : Program} {t e : TypeId} {sz : Nat} (ht : P.underlying t = some (.slice e)) (hsz : (P.info? e).map (·.size) = some sz) (a : Option Addr) (n c h : Nat) (kh : Int) (eh : kh = (h : Int)) (h2 : h ≤ c) (W : World) :
    (Instr.sliceAt t (.slice a n c) none (some (.int .i64 kh)) none).run P W = .ok (.slice a h c) W := by
  subst eh
  have he : P.elem t = e := by simp [Program.elem, ht]
  have ht' : P.underlying t = some (.slice (P.elem t)) := by rw [he]; exact ht
  obtain ⟨i, hi, hs⟩ := Option.map_eq_some_iff.1 hsz
  rw [run_sliceAt_slice W t _ _ _ _ ht', run_slice_h W t a n c ht' .i64 h (by omega) (by omega), he]
  have : (if c = 0 then a else a.map (·.add 0)) = a := by
    split
    · rfl
    · cases a with
      | none => rfl
      | some p => cases p with | mk b o f => simp [Addr.add]
  simp [sizeOf, typeInfo, hi, hs, sliced, this]
/-- The part of a row of numbers. -/
theorem Row.part {lo : Nat} {w : World} {a : Option Addr} {zs : List Int} (R : Row lo w a zs) (l c m : Nat) (h1 : l + m ≤ zs.length) (h2 : zs.length ≤ c) : Row lo w (subA a l c 1) ((zs.drop l).take m) := by
  obtain ⟨r1, r2⟩ := R
  have hlen : ((zs.drop l).take m).length = m := by rw [List.length_take, List.length_drop]; omega
  refine ⟨by rw [hlen]; omega, ?_⟩
  by_cases hm : m = 0
  · left; exact List.eq_nil_of_length_eq_zero (by rw [hlen]; exact hm)
  · rcases r2 with rfl | ⟨b, off, rfl, hlo, hb, hc⟩
    · simp at h1; omega
    · refine Or.inr ⟨b, off + l, ?_, hlo, hb, fun i hi => ?_⟩
      · unfold subA; rw [if_neg (by omega)]; simp [Addr.add]
      · rw [hlen] at hi
        have := hc (l + i) (by omega)
        rw [show off + l + i = off + (l + i) by omega, this, List.getElem?_take_of_lt hi, List.getElem?_drop]
/-- The part of a row of cells. -/
theorem CellsIn.part {n lo : Nat} {w : World} {a : Option Addr} {cs : List Ce} (R : CellsIn n lo w cs a) (l c m : Nat) (h1 : l + m ≤ cs.length) (h2 : cs.length ≤ c) : CellsIn n lo w ((cs.drop l).take m) (subA a l c 3) := by
  have hlen : ((cs.drop l).take m).length = m := by rw [List.length_take, List.length_drop]; omega
  by_cases hm : m = 0
  · left; exact List.eq_nil_of_length_eq_zero (by rw [hlen]; exact hm)
  · rcases R with rfl | ⟨b, off, rfl, hlo, hb, hc⟩
    · simp at h1; omega
    · refine Or.inr ⟨b, off + l * 3, ?_, hlo, hb, fun i hi => ?_⟩
      · unfold subA; rw [if_neg (by omega)]; simp [Addr.add]
      · rw [hlen] at hi
        have := hc (l + i) (by omega)
        have e : cAt ((cs.drop l).take m) i = cAt cs (l + i) := by unfold cAt; rw [List.getElem?_take_of_lt hi, List.getElem?_drop]
        rw [e, show off + l * 3 + i * 3 = off + (l + i) * 3 by omega]
        exact this
/-- Values that lie one behind the other from an address on, if there are any. -/
def Lies (w : World) (ad : Option Addr) (news : List Value) : Prop := (news = [] ∨ ∃ p, ad = some p ∧ p.block < w.heap.size ∧ ∀ j u, news[j]? = some u → w.cell? (p.add j) = some u) ∧ ∀ u ∈ news, u.oneCell' = true
theorem wpList_append_run {P : Program} {w : World} {ops : Array Oper} {rest : List Oper} {o : Oper} {a : Act} {Q : Exit → Act → World → Prop} (hw : Region.wanted o (yielded ops a.tmps) = true) (s x : Operand) (t u : TypeId)
    (ho : o.op = .call { callee := .builtin .append, args := #[s, x], argTypes := #[t, u] }) (v1 v2 : Value) (hs : a.eval s = v1) (hx : a.eval x = v2) (v' : Value) (w' : World)
    (hrun : (Builtin.append_ #[t, u] o.type #[v1, v2]).run P w = .ok v' w') (h : wpList P ops Q rest (a.put o.dst v') w') : wpList P ops Q (o :: rest) a w := by
  refine BigFrame.wpList_want hw fun K hK => ?_
  unfold Oper.wp
  simp only [execOp, ho, resolve, invoke, builtin, Sem.run_bind, Sem.run_pure, Result.andThen_ok, List.map_toArray, List.map_cons, List.map_nil, hs, hx, hrun]
  exact hK _ _ h
theorem run_append_any {P : Program} {w : World} (base : Nat) (t ty e : TypeId) (i : TypeInfo) (z : Value) (size bytes : Nat) (ht : P.underlying t = some (.slice e)) (hi : P.info? e = some i) (hz : i.zero = some z)
    (hsize : i.size = size) (hby : i.bytes = bytes) (hzs : z.cells.size = size) (hsz : 0 < size)
    (v : Value) (n : Nat) (xs : List Value) (hown : w.ownsRow base e size v n xs)
    (ad : Option Addr) (m c : Nat) (news : List Value) (hl : news.length = m * size) (hnews : Lies w ad news)
    (h63 : n + m ≤ maxLen) (hbytes : (n + m) * bytes ≤ 140737488355328) (hbase : base ≤ w.heap.size) :
    ∃ v' w', (Builtin.append_ #[t, t] ty #[v, .slice ad m c]).run P w = .ok v' w' ∧ w'.ownsRow base e size v' (n + m) (xs ++ news) ∧ Below base w w' := by
  cases ad with
  | none =>
    have hn : news = [] := by
      rcases hnews.1 with h | ⟨p, hp, -⟩
      · exact h
      · cases hp
    subst hn
    have hm : m = 0 := by
      rcases Nat.eq_zero_or_pos m with h | h
      · exact h
      · have := Nat.mul_pos h hsz; simp at hl; omega
    subst hm
    exact ⟨v, w, run_append_none_any base t ty e i size ht hi v n c xs hown, by simpa using hown, Below.refl _ _⟩
  | some p =>
    have hc : ∀ j u, news[j]? = some u → w.cell? (p.add j) = some u := by
      rcases hnews.1 with h | ⟨q, hq, -, h⟩
      · subst h; intro j u hj; simp at hj
      · cases hq; exact h
    obtain ⟨v', w', hr, h2, h3, -⟩ := run_append_own (P := P) w base t ty e i z size bytes ht hi hz hsize hby hzs hsz v n xs hown p m c news hl hc hnews.2 h63 hbytes hbase
    exact ⟨v', w', hr, h2, (Below.refl _ _).grown h3 hbase (fun q hq => (hown.lt q hq).1)⟩
theorem wpList_append_any {P : Program} {w : World} {ops : Array Oper} {rest : List Oper} {o : Oper} {a : Act} {Q : Exit → Act → World → Prop} (hgd : o.guard = none) (s x : Operand) (t : TypeId)
    (ho : o.op = .call { callee := .builtin .append, args := #[s, x], argTypes := #[t, t] })
    (base : Nat) (e : TypeId) (i : TypeInfo) (z : Value) (size bytes : Nat) (ht : P.underlying t = some (.slice e)) (hi : P.info? e = some i) (hz : i.zero = some z)
    (hsize : i.size = size) (hby : i.bytes = bytes) (hzs : z.cells.size = size) (hsz : 0 < size)
    (v : Value) (n : Nat) (xs : List Value) (hs : a.eval s = v) (hown : w.ownsRow base e size v n xs)
    (ad : Option Addr) (m c : Nat) (news : List Value) (hx : a.eval x = .slice ad m c) (hl : news.length = m * size) (hnews : Lies w ad news)
    (h63 : n + m ≤ maxLen) (hbytes : (n + m) * bytes ≤ 140737488355328) (hbase : base ≤ w.heap.size)
    (h : ∀ v' w', w'.ownsRow base e size v' (n + m) (xs ++ news) → Below base w w' → wpList P ops Q rest (a.put o.dst v') w') : wpList P ops Q (o :: rest) a w := by
  obtain ⟨v', w', hr, h2, h3⟩ := run_append_any base t o.type e i z size bytes ht hi hz hsize hby hzs hsz v n xs hown ad m c news hl hnews h63 hbytes hbase
  exact wpList_append_run (by simp [Region.wanted, hgd]) s x t t ho _ _ hs hx v' w' hr (h v' w' h2 h3)
theorem Row.lies {lo : Nat} {w : World} {a : Option Addr} {zs : List Int} (R : Row lo w a zs) : Lies w a (zs.map (Value.int .i64)) := by
  refine ⟨?_, fun u hu => by obtain ⟨y, -, rfl⟩ := List.mem_map.1 hu; rfl⟩
  rcases R.2 with rfl | ⟨b, off, rfl, -, hb, hc⟩
  · exact Or.inl rfl
  · refine Or.inr ⟨_, rfl, hb, fun j u hj => ?_⟩
    rw [List.getElem?_map] at hj
    obtain ⟨z, hz, rfl⟩ := Option.map_eq_some_iff.1 hj
    have hjl : j < zs.length := by
      rcases Nat.lt_or_ge j zs.length with h | h
      · exact h
      · rw [List.getElem?_eq_none h] at hz; cases hz
    rw [add_off, hc j hjl, hz]; rfl
/-- The three values of each cell. -/
def cellT (cs : List Ce) (ab : Nat → Option Addr) (cb : Nat → Nat) (i : Nat) : Value × Value × Value := (.int .i64 (cAt cs i).1, .int .i64 (cAt cs i).2.1, .slice (ab i) (cAt cs i).2.2.length (cb i))
theorem rowT_one (T : Nat → Value × Value × Value) (m : Nat) (h : ∀ i, i < m → (T i).1.oneCell' = true ∧ (T i).2.1.oneCell' = true ∧ (T i).2.2.oneCell' = true) : ∀ u ∈ rowT T m, u.oneCell' = true := by
  intro u hu
  unfold rowT at hu
  rw [List.mem_flatMap] at hu
  obtain ⟨i, hi, hu⟩ := hu
  have := h i (List.mem_range.1 hi)
  simp at hu
  rcases hu with rfl | rfl | rfl
  · exact this.1
  · exact this.2.1
  · exact this.2.2
/-- Rows that append has put together may be written. -/
theorem owns_softC {w : World} {base g cap n : Nat} {e : TypeId} {l : List Int} (hl : l.length = n) (h : w.ownsRow base e 1 (.slice (some ⟨g, 0, none⟩) n cap) n (l.map (Value.int .i64))) : SoftC w g l := by
  intro i hi
  refine ⟨?_, h.frozenAt i⟩
  rw [h.cellAt i (by omega), List.getElem?_map]
  unfold gI
  rw [List.getElem?_eq_getElem hi]; rfl
theorem Lies.next {w w' : World} {a : Option Addr} {l : List Value} (h : Lies w a l) (hb : Below w.heap.size w w') : Lies w' a l := by
  refine ⟨?_, h.2⟩
  rcases h.1 with h1 | ⟨p, hp, hl, h1⟩
  · exact Or.inl h1
  · refine Or.inr ⟨p, hp, Nat.lt_of_lt_of_le hl hb.size, fun j u hj => (hb.cell (p := p.add j) ?_).trans (h1 j u hj)⟩
    have e : (p.add j).block = p.block := by unfold Addr.add; split <;> rfl
    rw [e]; exact hl
/-- An array is given back: its memory is what w0 held, which came in, or new; it stays what it is as long as both are kept. -/
def GivesZ (n : Nat) (w0 : World) (x : Ar) (w : World) (e : Ending) (w' : World) : Prop := (∃ v, e = .returned v ∧ ∀ W, Below w0.heap.size w0 W → Keeps w.heap.size w' W → ArIn n 0 W x v) ∧ Below w.heap.size w w'
theorem owns_keeps {e : TypeId} {size n base lo : Nat} {w w1 : World} {v : Value} {xs : List Value} (h : w.ownsRow base e size v n xs) (hk : Keeps lo w w1) (hl : lo ≤ base) : w1.ownsRow base e size v n xs := by
  obtain ⟨h1, h2⟩ := h
  refine ⟨h1, ?_⟩
  rcases h2 with ⟨rfl, h2⟩ | ⟨g, cap, cur, rfl, hbg, hg, hn, hm, hs, ht⟩
  · exact Or.inl ⟨rfl, h2⟩
  · exact Or.inr ⟨g, cap, cur, rfl, hbg, (hk.2 g (by omega) (lt_of_block hg)).trans hg, hn, hm, hs, ht⟩
theorem Keeps.trans {lo : Nat} {w w1 w2 : World} (h1 : Keeps lo w w1) (h2 : Keeps lo w1 w2) : Keeps lo w w2 := ⟨Nat.le_trans h1.1 h2.1, fun b hb1 hb2 => (h2.2 b hb1 (Nat.lt_of_lt_of_le hb2 h1.1)).trans (h1.2 b hb1 hb2)⟩
theorem Keeps.mono {lo lo' : Nat} {w w1 : World} (h : Keeps lo w w1) (hl : lo ≤ lo') : Keeps lo' w w1 := ⟨h.1, fun b h1 h2 => h.2 b (Nat.le_trans hl h1) h2⟩
theorem Lies.drew {w : World} {a : Option Addr} {l : List Value} (h : Lies w a l) : Lies w.drew a l := h
theorem Row.lt {lo : Nat} {w : World} {a : Option Addr} {l : List Int} (R : Row lo w a l) (h0 : 0 < l.length) : ∃ b off, a = some ⟨b, off, none⟩ ∧ b < w.heap.size := by
  obtain ⟨b, off, h, hb, -⟩ := row_at R h0
  exact ⟨b, off, h, hb⟩
theorem Lies.row_next {lo : Nat} {w w' : World} {a : Option Addr} {l : List Int} (R : Row lo w a l) (hb : Below w.heap.size w w') : Lies w' a (l.map (Value.int .i64)) := (R.next hb).lies
/-- Cells that were appended, as an array's. -/
theorem cells_of_own {n lo base : Nat} {w0 w : World} {cs : List Ce} {T : Nat → Value × Value × Value} {v : Value} (hown : w.ownsRow base 43 3 v cs.length (rowT T cs.length)) (hb : Below w0.heap.size w0 w) (hT : ∀ i, i < cs.length → CeIn (fun x v => ArIn n lo w0 x v) lo w0 (cAt cs i) (T i).1 (T i).2.1 (T i).2.2) : ∃ a c, v = .slice a cs.length c ∧ cs.length ≤ c ∧ CellsIn n 0 w cs a := by
  obtain ⟨a, c, rfl, h⟩ := owns_cellsT T hown
  refine ⟨a, c, rfl, ?_, ?_⟩
  · rcases hown.2 with ⟨h1, h2⟩ | ⟨g, cap, cur, h1, -, -, h2, -⟩
    · rw [h2]; omega
    · simp only [Value.slice.injEq] at h1; omega
  · rcases h with h0 | ⟨g, rfl, hg1, hg2, hcc⟩
    · exact Or.inl (List.eq_nil_of_length_eq_zero h0)
    · refine Or.inr ⟨g, 0, rfl, Nat.zero_le _, hg2, fun i hi => ?_⟩
      obtain ⟨e0, e1, e2⟩ := hcc i hi
      rw [Nat.zero_add]
      exact ⟨_, _, _, e0, e1, e2, (hT i hi).mono (Nat.zero_le _) hb fun x v h => h.mono (Nat.zero_le _) hb⟩
theorem owns_cap {w : World} {base n size : Nat} {e : TypeId} {v : Value} {xs : List Value} (h : w.ownsRow base e size v n xs) : ∃ a cap, v = .slice a n cap ∧ n ≤ cap := by
  rcases h.2 with ⟨rfl, h0⟩ | ⟨g, cap, cur, rfl, hb, hg, h1, -⟩
  · exact ⟨none, 0, by rw [h0], by omega⟩
  · exact ⟨_, _, rfl, h1⟩
theorem keeps_two (W : World) (s : Nat) (u v : Value) : Keeps (s + 2) W ((W.setCell ⟨s + 1, 0, none⟩ u).setCell ⟨s + 1, 1, none⟩ v) := ((Keeps.refl _ _).setCell (p := ⟨s + 1, 0, none⟩) (by show s + 1 < _; omega) u).setCell (p := ⟨s + 1, 1, none⟩) (by show s + 1 < _; omega) v
end Go.Proofs.YtlfacpclihmnnaaDoor
namespace Go.Proofs.YtlfacpclihmnnaaDoor
open Go.ChangeShapes Go.WideShapes Go.ChangeAt Go.RowKit
open Num (resV resE In64 sgnI absI)
set_option linter.unusedVariables false
set_option maxRecDepth 100000
/-- A function of two cells, its arguments exchanged or not: what it makes of them, its error. -/
def tV (op : Int) (t : Bool) (c d : Ce) : Int := if t then c2V op d c else c2V op c d
def tE (op : Int) (t : Bool) (c d : Ce) : Int := if t then c2E op d c else c2E op c d
/-- A line of no cells. -/
def nonV (op : Int) : Int := if op = 23 then 1 else 0
def nonE (op : Int) : Int := if op = 21 ∨ op = 22 ∨ op = 23 then 0 else 5
theorem num77 (n : Int) (w : World) : Calls Tryd.prog 77 #[.int .i64 n] w fun r w' => r = .returned (.agg #[.int .i64 0, .int .i64 n, .slice none 0 0]) ∧ Below w.heap.size w w' := by
  go_enter Tryd.func77, Tryd.ntmps77
  go_wp2
  exact bodyPost_ret (v := .agg #[.int .i64 0, .int .i64 n, .slice none 0 0]) (by simp [results, Tryd.results77, go_sem]) rfl ⟨rfl, by exact (Below.refl _ _).alloc (Nat.le_refl _) _⟩
set_option maxHeartbeats 2000000 in
theorem none61 (op : Int) (t : Bool) (w : World) : Calls Tryd.prog 61 #[.agg #[.int .i64 op, .bool t]] w fun r w' => r = .returned (.tuple #[.agg #[.int .i64 0, .int .i64 (nonV op), .slice none 0 0], .int .i64 (nonE op)]) ∧ Below w.heap.size w w' := by
  have N0 := hide (fun w => num77 0 w)
  have N1 := hide (fun w => num77 1 w)
  by_cases h1 : op = 21
  · subst h1
    go_enter Tryd.func61, Tryd.ntmps61
    go_wp2_with fail
    refine (N0.out _).mono ?_
    rintro e w1 ⟨rfl, hb1⟩
    have B1 := (two_allocs _ _ _).trans (hb1.mono (two_allocs _ _ _).size)
    obtain ⟨hcl, hfz⟩ := Num.bcell hb1
    go_wp2
    exact bodyPost_ret (v := .tuple #[.agg #[.int .i64 0, .int .i64 0, .slice none 0 0], .int .i64 0]) (by simp [results, Tryd.results61, go_sem, hcl]) rfl ⟨rfl, below_set3 B1 (by omega)⟩
  by_cases h2 : op = 22
  · subst h2
    clear h1
    go_enter Tryd.func61, Tryd.ntmps61
    go_wp2_with fail
    refine (N0.out _).mono ?_
    rintro e w1 ⟨rfl, hb1⟩
    have B1 := (two_allocs _ _ _).trans (hb1.mono (two_allocs _ _ _).size)
    obtain ⟨hcl, hfz⟩ := Num.bcell hb1
    go_wp2
    exact bodyPost_ret (v := .tuple #[.agg #[.int .i64 0, .int .i64 0, .slice none 0 0], .int .i64 0]) (by simp [results, Tryd.results61, go_sem, hcl]) rfl ⟨rfl, below_set3 B1 (by omega)⟩
  by_cases h3 : op = 23
  · subst h3
    clear h1 h2
    go_enter Tryd.func61, Tryd.ntmps61
    go_wp2_with fail
    refine (N1.out _).mono ?_
    rintro e w1 ⟨rfl, hb1⟩
    have B1 := (two_allocs _ _ _).trans (hb1.mono (two_allocs _ _ _).size)
    obtain ⟨hcl, hfz⟩ := Num.bcell hb1
    go_wp2
    exact bodyPost_ret (v := .tuple #[.agg #[.int .i64 0, .int .i64 1, .slice none 0 0], .int .i64 0]) (by simp [results, Tryd.results61, go_sem, hcl]) rfl ⟨rfl, below_set3 B1 (by omega)⟩
  have eV : nonV op = 0 := by unfold nonV; rw [if_neg h3]
  have eE : nonE op = 5 := by unfold nonE; rw [if_neg (by omega)]
  rw [eV, eE]
  have g1 : (op == 21) = false := beq_eq_false_iff_ne.2 h1
  have g2 : (op == 22) = false := beq_eq_false_iff_ne.2 h2
  have g3 : (op == 23) = false := beq_eq_false_iff_ne.2 h3
  clear eV eE h1 h2 h3
  go_enter Tryd.func61, Tryd.ntmps61
  go_wp2
  exact bodyPost_ret (v := .tuple #[.agg #[.int .i64 0, .int .i64 0, .slice none 0 0], .int .i64 5]) (by simp [results, Tryd.results61, go_sem]) rfl ⟨rfl, two_allocs _ _ _⟩
set_option maxHeartbeats 2000000 in
theorem two74 (op : Int) (t : Bool) (k1 n1 k2 n2 : Int) (a b : Option Addr) (na ca nb cb : Nat) (c d : Ce) (hc : c.1 = k1 ∧ c.2.1 = n1) (hd : d.1 = k2 ∧ d.2.1 = n2) (h1 : In64 n1) (h2 : In64 n2) (w : World) (T : Tab w) :
    Calls Tryd.prog 74 #[.agg #[.int .i64 op, .bool t], .agg #[.int .i64 k1, .int .i64 n1, .slice a na ca], .agg #[.int .i64 k2, .int .i64 n2, .slice b nb cb]] w fun r w' => r = .returned (.tuple #[.agg #[.int .i64 0, .int .i64 (c2V op c d), .slice none 0 0], .int .i64 (c2E op c d)]) ∧ Below w.heap.size w w' := by
  have C := hide (fun w T => cell2_any op k1 n1 k2 n2 a b na ca nb cb c d hc hd h1 h2 w T)
  have HT := hide (fun (W : World) (hb : Below w.heap.size w W) => T.next hb)
  clear hc hd h1 h2 T
  generalize c2V op c d = V at *
  generalize c2E op c d = EE at *
  go_enter Tryd.func74, Tryd.ntmps74
  go_wp2_with fail
  refine (C.out _ (HT.out _ (four_allocs _ _ _ _ _))).mono ?_
  rintro e w1 ⟨rfl, hb1⟩
  have B1 := (four_allocs _ _ _ _ _).trans (hb1.mono (four_allocs _ _ _ _ _).size)
  obtain ⟨hcl, hfz⟩ := Num.bcell hb1
  go_wp2
  exact bodyPost_ret (v := .tuple #[.agg #[.int .i64 0, .int .i64 V, .slice none 0 0], .int .i64 EE]) (by simp [results, Tryd.results74, go_sem, hcl]) rfl ⟨rfl, below_set3 B1 (by omega)⟩
set_option maxHeartbeats 2000000 in
theorem two73 (op : Int) (t : Bool) (k1 n1 k2 n2 : Int) (a b : Option Addr) (na ca nb cb : Nat) (c d : Ce) (hc : c.1 = k1 ∧ c.2.1 = n1) (hd : d.1 = k2 ∧ d.2.1 = n2) (h1 : In64 n1) (h2 : In64 n2) (w : World) (T : Tab w) :
    Calls Tryd.prog 73 #[.agg #[.int .i64 op, .bool t], .agg #[.int .i64 k1, .int .i64 n1, .slice a na ca], .agg #[.int .i64 k2, .int .i64 n2, .slice b nb cb]] w fun r w' => r = .returned (.tuple #[.agg #[.int .i64 0, .int .i64 (c2V op d c), .slice none 0 0], .int .i64 (c2E op d c)]) ∧ Below w.heap.size w w' := by
  have C := hide (fun w T => cell2_any op k2 n2 k1 n1 b a nb cb na ca d c hd hc h2 h1 w T)
  have HT := hide (fun (W : World) (hb : Below w.heap.size w W) => T.next hb)
  clear hc hd h1 h2 T
  generalize c2V op d c = V at *
  generalize c2E op d c = EE at *
  go_enter Tryd.func73, Tryd.ntmps73
  go_wp2_with fail
  refine (C.out _ (HT.out _ (four_allocs _ _ _ _ _))).mono ?_
  rintro e w1 ⟨rfl, hb1⟩
  have B1 := (four_allocs _ _ _ _ _).trans (hb1.mono (four_allocs _ _ _ _ _).size)
  obtain ⟨hcl, hfz⟩ := Num.bcell hb1
  go_wp2
  exact bodyPost_ret (v := .tuple #[.agg #[.int .i64 0, .int .i64 V, .slice none 0 0], .int .i64 EE]) (by simp [results, Tryd.results73, go_sem, hcl]) rfl ⟨rfl, below_set3 B1 (by omega)⟩
end Go.Proofs.YtlfacpclihmnnaaDoor
namespace Go.Proofs.YtlfacpclihmnnaaDoor
open Go.ChangeShapes Go.WideShapes Go.ChangeAt Go.RowKit
open Num (resV resE In64 sgnI absI)
set_option linter.unusedVariables false
set_option maxRecDepth 100000
/-- The numbers of the first k cells. -/
def numK (cs : List Ce) (k : Nat) : List Int := (List.range k).map fun i => (cAt cs i).2.1
/-- How many cells a line begins with that are numbers. -/
def preN (cs : List Ce) : Nat := (cs.takeWhile fun c => c.1 == 0).length
def preL (cs : List Ce) : List Int := numK cs (preN cs)
theorem numK_len (cs : List Ce) (k : Nat) : (numK cs k).length = k := by simp [numK]
theorem numK_step (cs : List Ce) (k : Nat) : numK cs (k + 1) = numK cs k ++ [(cAt cs k).2.1] := by simp [numK, List.range_succ]
theorem preN_le (cs : List Ce) : preN cs ≤ cs.length := by
  unfold preN
  exact (List.takeWhile_sublist (fun c : Ce => c.1 == 0)).length_le
theorem preN_of {cs : List Ce} {k : Nat} (h1 : ∀ i, i < k → (cAt cs i).1 = 0) (h2 : k ≤ cs.length) (h3 : k < cs.length → (cAt cs k).1 ≠ 0) : preN cs = k := by
  induction cs generalizing k with
  | nil => simp at h2; subst h2; rfl
  | cons c cs ih =>
    cases k with
    | zero =>
      have := h3 (by simp)
      have e : cAt (c :: cs) 0 = c := rfl
      rw [e] at this
      simp [preN, this]
    | succ k =>
      have e0 : (c.1 == 0) = true := by
        have := h1 0 (by omega)
        have e : cAt (c :: cs) 0 = c := rfl
        rw [e] at this
        simpa using this
      have := ih (k := k) (fun i hi => h1 (i + 1) (by omega)) (by simpa using h2) (fun h => h3 (by simpa using h))
      simp only [preN, List.takeWhile_cons, e0, if_true, List.length_cons]
      unfold preN at this
      omega
theorem preN_all (cs : List Ce) : ∀ i, i < preN cs → (cAt cs i).1 = 0 := by
  induction cs with
  | nil => intro i hi; simp [preN] at hi
  | cons c cs ih =>
    intro i hi
    by_cases e0 : (c.1 == 0) = true
    · cases i with
      | zero =>
        have e : cAt (c :: cs) 0 = c := rfl
        rw [e]
        simpa using e0
      | succ i =>
        refine ih i ?_
        simp only [preN, List.takeWhile_cons, e0, if_true, List.length_cons] at hi
        unfold preN
        omega
    · simp [preN, e0] at hi
set_option maxHeartbeats 4000000 in
theorem numbers78 {n lo : Nat} {cs : List Ce} {a : Option Addr} {cap : Nat} {w : World} (hc : CellsIn n lo w cs a) (hl : cs.length ≤ 16384) :
    Calls Tryd.prog 78 #[.slice a cs.length cap] w fun e w' => ∃ a' cap', e = .returned (.slice a' (preN cs) cap') ∧ Below w.heap.size w w' ∧ Row w.heap.size w' a' (preL cs) := by
  obtain ⟨i2, hi2, hz20, hz21, hz22⟩ := info2'
  obtain ⟨ab, cb, hcf⟩ := cells_fn hc
  have HCF := hide hcf
  have HP : Hid (∀ k, (∀ i, i < k → (cAt cs i).1 = 0) → k ≤ cs.length → (k < cs.length → (cAt cs k).1 ≠ 0) → preN cs = k) := fun k h1 h2 h3 => preN_of h1 h2 h3
  obtain ⟨L, hL⟩ : ∃ L, cs.length = L := ⟨_, rfl⟩
  rw [hL] at HCF HP hl ⊢
  clear hcf hc
  go_enter Tryd.func78, Tryd.ntmps78
  go_wp2_with (at_make; refine wpList_make_own _ rfl _ _ 39 rfl w.heap.size 2 i2 (.int .i64 0) 1 Tryd.underlying39 hi2 hz20 hz21 .i64 .i64 _ L rfl rfl rfl (by rw [hz22]; omega) (by unfold maxLen; omega) (Nat.le_refl _) ?_; intro w0 hown0 hgrow0)
  have hb0 : Below w.heap.size w w0 := (Below.refl _ _).grown hgrow0 (Nat.le_refl _) (fun q hq => by cases hq)
  clear hgrow0
  go_wp2
  go_loopg [3, 11] L (fun g v i wq => ∃ k : Nat, g + k = L ∧ i = .int .i64 (k : Int) ∧ Below w.heap.size w wq ∧ wq.ownsRow w.heap.size 2 1 v k ((numK cs k).map (Value.int .i64)) ∧ ∀ i, i < k → (cAt cs i).1 = 0)
  case atStart => exact ⟨0, rfl, rfl, hb0, hown0, fun i hi => absurd hi (by omega)⟩
  case round =>
    obtain ⟨k, hgk, rfl, hnx, hown, hall⟩ := hrel
    have HALL := hide hall
    clear hall hb0 hown0
    by_cases hlk : k < L
    · obtain ⟨b, off, rfl, -, hbl, hcc⟩ := HCF.out (by omega)
      obtain ⟨c0, c1, c2, -⟩ := hcc k hlk
      have d0 : wr.cell? ⟨b, off + k * 3, none⟩ = some (.int .i64 (cAt cs k).1) := (hnx.cell (p := ⟨b, off + k * 3, none⟩) hbl).trans c0
      have d1 : wr.cell? ⟨b, off + k * 3 + 1, none⟩ = some (.int .i64 (cAt cs k).2.1) := (hnx.cell (p := ⟨b, off + k * 3 + 1, none⟩) hbl).trans c1
      have d2 : wr.cell? ⟨b, off + k * 3 + 2, none⟩ = some (.slice (ab k) (cAt cs k).2.2.length (cb k)) := (hnx.cell (p := ⟨b, off + k * 3 + 2, none⟩) hbl).trans c2
      have HST := hide (numK_step cs k)
      have HH := hide (And.intro HALL.out (fun h3 => HP.out k HALL.out (by omega : k ≤ L) h3))
      clear c0 c1 c2 hcc HP HALL
      generalize (cAt cs k).2.2.length = nk at *
      generalize (cAt cs k).2.1 = z at *
      obtain ⟨kk, hkk⟩ : ∃ kk, (cAt cs k).1 = kk := ⟨_, rfl⟩
      rw [hkk] at d0
      by_cases hk0 : kk = 0
      · subst hk0
        have OWN := (hown.alloc (.cells #[.int .i64 0, .int .i64 z, .slice (ab k) nk (cb k)] 43)).alloc (.cells #[.int .i64 z] 2)
        have HNW : Hid (∀ i u, [Value.int .i64 z][i]? = some u → ((wr.alloc (.cells #[.int .i64 0, .int .i64 z, .slice (ab k) nk (cb k)] 43)).alloc (.cells #[.int .i64 z] 2)).cell? ((⟨wr.heap.size + 1, 0, none⟩ : Addr).add i) = some u) := by
          intro i u hu
          rw [add_off, Nat.zero_add]
          have := cell_new0 (wr.alloc (.cells #[.int .i64 0, .int .i64 z, .slice (ab k) nk (cb k)] 43)) #[.int .i64 z] 2 i u (by simpa using hu)
          simpa using this
        have HNX := hide (hnx.trans ((two_allocs wr (.cells #[.int .i64 0, .int .i64 z, .slice (ab k) nk (cb k)] 43) (.cells #[.int .i64 z] 2)).mono hnx.size))
        have HZZ : Hid (w.heap.size ≤ ((wr.alloc (.cells #[.int .i64 0, .int .i64 z, .slice (ab k) nk (cb k)] 43)).alloc (.cells #[.int .i64 z] 2)).heap.size) := HNX.out.size
        have HKK := hide hkk
        clear hown hnx hkk HCF
        go_wp2_with (at_builtin; refine wpList_append_B rfl _ _ 39 rfl w.heap.size 2 i2 (.int .i64 0) 1 8 Tryd.underlying39 hi2 hz20 hz21 hz22 rfl (by decide) _ _ _ rfl OWN ⟨wr.heap.size + 1, 0, none⟩ 1 1 [.int .i64 z] rfl rfl HNW.out ?c2 ?c3 ?c4 HZZ.out ?_)
        case c2 =>
          intro u hu
          simp at hu
          subst hu
          rfl
        case c3 => unfold maxLen; omega
        case c4 => omega
        intro v' w1 hown1 hb1
        have hown2 : w1.ownsRow w.heap.size 2 1 v' (k + 1) ((numK cs (k + 1)).map (Value.int .i64)) := by rw [HST.out]; simpa using hown1
        have HF := hide (And.intro (HNX.out.trans hb1) (And.intro hown2 (fun (i : Nat) (hi : i < k + 1) => (show (cAt cs i).1 = 0 by
          by_cases h : i = k
          · rw [h]; exact HKK.out
          · exact HH.out.1 i (by omega)))))
        clear hown1 hown2 hb1 OWN HNW HZZ HNX HST HH HKK d0 d1 d2
        go_wp2
        go_roundg (L - (k + 1))
        case rel => exact ⟨k + 1, by omega, by go_num, HF.out⟩
        case measure => omega
      · have hpn : preN cs = k := HH.out.2 (fun _ => by rw [hkk]; exact hk0)
        obtain ⟨a', cap', rfl, RR⟩ := owns_rowE (numK cs k) (by rw [numK_len]; omega) (by rw [numK_len]; exact hown)
        rw [numK_len]
        have HF : Hid (Row w.heap.size wr a' (preL cs)) := by unfold preL; rw [hpn]; exact RR
        have HNX := hide hnx
        have HPN := hide hpn
        have g1 : (kk == 0) = false := beq_eq_false_iff_ne.2 hk0
        clear RR HH HST hown hnx hpn hkk hk0
        go_wp2
        go_ret
        exact ⟨a', cap', by rw [HPN.out]; rfl, HNX.out.trans ((one_alloc _ _).mono HNX.out.size), HF.out.next (one_alloc _ _)⟩
    · have hke : k = L := by omega
      subst hke
      have hpn : preN cs = k := HP.out k HALL.out (Nat.le_refl _) (fun h => absurd h (by omega))
      obtain ⟨a', cap', rfl, RR⟩ := owns_rowE (numK cs k) (by rw [numK_len]; omega) (by rw [numK_len]; exact hown)
      rw [numK_len]
      have HF : Hid (Row w.heap.size wr a' (preL cs)) := by unfold preL; rw [hpn]; exact RR
      have HNX := hide hnx
      have HPN := hide hpn
      clear RR HP HALL hown hnx hpn HCF
      go_wp2
      go_ret
      exact ⟨a', cap', by rw [HPN.out]; rfl, HNX.out, HF.out⟩
end Go.Proofs.YtlfacpclihmnnaaDoor
namespace Go.Proofs.YtlfacpclihmnnaaDoor
open Go.ChangeShapes Go.WideShapes Go.ChangeAt Go.RowKit
open Num (resV resE In64 sgnI absI)
set_option linter.unusedVariables false
set_option linter.unusedSimpArgs false
set_option maxRecDepth 100000
/-- A line of cells folded from the right: what comes of it, and its error. -/
def frL (op : Int) (t : Bool) : List Ce → Ce × Int
  | [] => ((0, 0, []), 0)
  | [c] => (c, 0)
  | c :: d :: r => if (frL op t (d :: r)).2 = 0 then ((0, tV op t c (frL op t (d :: r)).1, []), tE op t c (frL op t (d :: r)).1) else frL op t (d :: r)
theorem tV_bad {op : Int} {t : Bool} {c d : Ce} (h : tE op t c d ≠ 0) : tV op t c d = 0 := by
  unfold tE at h; unfold tV
  cases t
  · exact c2_bad h
  · exact c2_bad h
theorem drop_cons (cs : List Ce) (i : Nat) (h : i < cs.length) : cs.drop i = cAt cs i :: cs.drop (i + 1) := by
  rw [List.drop_eq_getElem_cons h]
  congr 1
  simp [cAt, h]
theorem frL_last (op : Int) (t : Bool) (cs : List Ce) (h : 0 < cs.length) : frL op t (cs.drop (cs.length - 1)) = (cAt cs (cs.length - 1), 0) := by
  rw [drop_cons cs _ (by omega), show cs.length - 1 + 1 = cs.length by omega, List.drop_length]
  rfl
theorem frL_step (op : Int) (t : Bool) (cs : List Ce) (i : Nat) (h : i + 1 < cs.length) (h0 : (frL op t (cs.drop (i + 1))).2 = 0) :
    frL op t (cs.drop i) = ((0, tV op t (cAt cs i) (frL op t (cs.drop (i + 1))).1, []), tE op t (cAt cs i) (frL op t (cs.drop (i + 1))).1) := by
  rw [drop_cons cs i (by omega), drop_cons cs (i + 1) h] at *
  rw [frL, if_pos h0]
theorem frL_stop (op : Int) (t : Bool) (cs : List Ce) (i : Nat) (h : i < cs.length) (h0 : (frL op t (cs.drop i)).2 ≠ 0) : frL op t cs = frL op t (cs.drop i) := by
  induction i with
  | zero => rfl
  | succ i ih =>
    have e : frL op t (cs.drop i) = frL op t (cs.drop (i + 1)) := by
      rw [drop_cons cs i (by omega), drop_cons cs (i + 1) h] at *
      rw [frL, if_neg h0]
    rw [← e]
    exact ih (by omega) (by rw [e]; exact h0)
theorem frL_num (op : Int) (t : Bool) : ∀ cs : List Ce, 2 ≤ cs.length → (frL op t cs).1 = (0, (frL op t cs).1.2.1, [])
  | [], h => by simp at h
  | [c], h => by simp at h
  | c :: d :: r, h => by
    rw [frL]
    by_cases h0 : (frL op t (d :: r)).2 = 0
    · rw [if_pos h0]
    · rw [if_neg h0]
      refine frL_num op t (d :: r) ?_
      cases r with
      | nil => simp [frL] at h0
      | cons e r => simp
/-- A place of one cell. -/
structure Zc (W : World) (b : Nat) (u0 u1 u2 : Value) : Prop where
  lt : b < W.heap.size
  c0 : W.cell? ⟨b, 0, none⟩ = some u0
  c1 : W.cell? ⟨b, 1, none⟩ = some u1
  c2 : W.cell? ⟨b, 2, none⟩ = some u2
  f0 : W.frozen? ⟨b, 0, none⟩ = false
  f1 : W.frozen? ⟨b, 1, none⟩ = false
  f2 : W.frozen? ⟨b, 2, none⟩ = false
theorem Zc.below {W W' : World} {b B : Nat} {u0 u1 u2 : Value} (h : Zc W b u0 u1 u2) (hb : Below B W W') (hB : b < B) : Zc W' b u0 u1 u2 :=
  ⟨by have := hb.size; have := h.lt; omega, (hb.cell (p := ⟨b, 0, none⟩) hB).trans h.c0, (hb.cell (p := ⟨b, 1, none⟩) hB).trans h.c1, (hb.cell (p := ⟨b, 2, none⟩) hB).trans h.c2,
    (hb.frozen (p := ⟨b, 0, none⟩) hB).trans h.f0, (hb.frozen (p := ⟨b, 1, none⟩) hB).trans h.f1, (hb.frozen (p := ⟨b, 2, none⟩) hB).trans h.f2⟩
theorem Zc.next {W W' : World} {b : Nat} {u0 u1 u2 : Value} (h : Zc W b u0 u1 u2) (hb : Below W.heap.size W W') : Zc W' b u0 u1 u2 := h.below hb h.lt
theorem Zc.drew {W : World} {b : Nat} {u0 u1 u2 : Value} (h : Zc W b u0 u1 u2) : Zc W.drew b u0 u1 u2 := h.next (Below.refl _ _).drew
theorem Zc.new (W : World) (u0 u1 u2 : Value) : Zc (W.alloc (.cells #[u0, u1, u2] 43)) W.heap.size u0 u1 u2 :=
  ⟨by simp, cell_new0 W _ 43 0 _ rfl, cell_new0 W _ 43 1 _ rfl, cell_new0 W _ 43 2 _ rfl, by simp, by simp, by simp⟩
theorem Zc.set {W : World} {b : Nat} {u0 u1 u2 : Value} (h : Zc W b u0 u1 u2) (v0 v1 v2 : Value) : Zc (((W.setCell ⟨b, 0, none⟩ v0).setCell ⟨b, 1, none⟩ v1).setCell ⟨b, 2, none⟩ v2) b v0 v1 v2 := by
  refine ⟨by simpa using h.lt, ?_, ?_, ?_, ?_, ?_, ?_⟩
  · rw [World.cell?_setCell_other _ _ _ _ (by simp), World.cell?_setCell_other _ _ _ _ (by simp)]
    exact World.cell?_setCell_same' _ _ _ (by rw [h.c0]; rfl)
  · rw [World.cell?_setCell_other _ _ _ _ (by simp)]
    exact World.cell?_setCell_same' _ _ _ (by rw [World.cell?_setCell_other _ _ _ _ (by simp), h.c1]; rfl)
  · exact World.cell?_setCell_same' _ _ _ (by rw [World.cell?_setCell_other _ _ _ _ (by simp), World.cell?_setCell_other _ _ _ _ (by simp), h.c2]; rfl)
  · exact frozen_set _ _ _ _ (frozen_set _ _ _ _ (frozen_set _ _ _ _ h.f0))
  · exact frozen_set _ _ _ _ (frozen_set _ _ _ _ (frozen_set _ _ _ _ h.f1))
  · exact frozen_set _ _ _ _ (frozen_set _ _ _ _ (frozen_set _ _ _ _ h.f2))
theorem Zc.other {W : World} {b c : Nat} {u0 u1 u2 : Value} (h : Zc W b u0 u1 u2) (hne : b ≠ c) (v0 v1 v2 : Value) : Zc (((W.setCell ⟨c, 0, none⟩ v0).setCell ⟨c, 1, none⟩ v1).setCell ⟨c, 2, none⟩ v2) b u0 u1 u2 := by
  refine ⟨by simpa using h.lt, ?_, ?_, ?_, ?_, ?_, ?_⟩
  · rw [World.cell?_setCell_other _ _ _ _ (by simp [hne]), World.cell?_setCell_other _ _ _ _ (by simp [hne]), World.cell?_setCell_other _ _ _ _ (by simp [hne])]; exact h.c0
  · rw [World.cell?_setCell_other _ _ _ _ (by simp [hne]), World.cell?_setCell_other _ _ _ _ (by simp [hne]), World.cell?_setCell_other _ _ _ _ (by simp [hne])]; exact h.c1
  · rw [World.cell?_setCell_other _ _ _ _ (by simp [hne]), World.cell?_setCell_other _ _ _ _ (by simp [hne]), World.cell?_setCell_other _ _ _ _ (by simp [hne])]; exact h.c2
  · exact frozen_set _ _ _ _ (frozen_set _ _ _ _ (frozen_set _ _ _ _ h.f0))
  · exact frozen_set _ _ _ _ (frozen_set _ _ _ _ (frozen_set _ _ _ _ h.f1))
  · exact frozen_set _ _ _ _ (frozen_set _ _ _ _ (frozen_set _ _ _ _ h.f2))
/-- The function of two cells as ofTwo hands it on. -/
def fnV (op : Int) (t : Bool) : Value := .func (.func (if t then 73 else 74)) #[.agg #[.int .i64 op, .bool t]] #[]
theorem of45 (op : Int) (t : Bool) (w : World) : Calls Tryd.prog 45 #[.agg #[.int .i64 op, .bool t]] w fun r w' => r = .returned (fnV op t) ∧ Below w.heap.size w w' := by
  cases t
  · go_enter Tryd.func45, Tryd.ntmps45
    go_wp2
    go_ret
    exact ⟨rfl, one_alloc _ _⟩
  · go_enter Tryd.func45, Tryd.ntmps45
    go_wp2
    go_ret
    exact ⟨rfl, one_alloc _ _⟩
end Go.Proofs.YtlfacpclihmnnaaDoor
