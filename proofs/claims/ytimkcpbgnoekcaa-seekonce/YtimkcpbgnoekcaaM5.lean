/-
  The contracts of layer 7's comparisons of two items: slices.CompareFunc, cellByCell, and Down's.
  The contract of layer 7's itemsOf: a row of slices, each a part of the cells.
  The orders of items, and the contract of layer 7's inOrder.
  The contract of layer 7's firsts.
  The order of items by counting, and items each once. Mathematics.
  The contracts of the library's Clone of a row of numbers and of layer 6's reshaped, listed, numberOf and filling.
  The contract of layer 6's dropped.
  The contract of layer 5's Mo, whole.
  The contract of the document's Items.
  The contract of the document's drop, and its items as the pieces' own.
  The contract of layer 6's rotated.
  What comes of layer 6's rotated, lookedUp and taken may be; Dy of these.
  The contract of layer 5's upTo: the numbers below one.
  The contracts of layer 6's listed (its own cells kept) and of pieces, function by function.
  What layer 7's Mo makes, and that it may be. Mathematics.
  The contract of the document's ahead (layer 7).
  The document's take is the pieces' own.
  There is an order; kinds of cells. Mathematics; and the cells that the document's grade fills.
  The contract of the document's grade (layer 7).
-/
import Derived.Test.YtimkcpbgnoekcaaM4
import Derived.Test.YtimkcpbgnoekcaaChecked
import GoSem.Claim
import GoSem.ClaimJoined
import GoSem.ClaimMapViews
import Derived.JoinedTies
import Derived.KernelRfl
import Derived.WalkKit
import Derived.ProofKit
import Derived.Below
import Derived.Deep.OwnRows
import Derived.Deep.QuietTactic
import Derived.BigQuiet
import Derived.Deep.RegionWith
import Derived.Laws.MakeOwn
import Derived.Deep.RegionHeld3
import Derived.Laws.IdiomCopy
import Derived.Deep.Cut
import Derived.Deep.LoopGhost
import Derived.OpenShut
import Derived.ChangeOld
import Derived.SizedLaws
import Derived.Deep.Slices
import Derived.Deep.Strs
import Derived.Laws.AppendOwn
import Derived.BigFrame
import Derived.Deep.CutRange
import Derived.Deep.RegionLaw
import Derived.Laws.OwnMore
import Derived.Lib.SliceRun
import Derived.Laws.CopyOwn
import Derived.Lib.Mul64
import Derived.Lib.Overlaps
import Derived.Laws.EntriesVeiled
namespace Go.Proofs.Ytimkcpbgnoekcaa
open Go.ChangeShapes Go.WideShapes Go.ChangeAt Go.RowKit
set_option linter.unusedVariables false
set_option maxRecDepth 100000
theorem CellsFn.part {n lo : Nat} {w : World} {cs : List Ce} {a : Option Addr} {ab : Nat → Option Addr} {cb : Nat → Nat} (h : CellsFn n lo w cs a ab cb) (l c m : Nat) (h1 : l + m ≤ cs.length) (h2 : cs.length ≤ c) : CellsFn n lo w ((cs.drop l).take m) (subA a l c 3) (fun i => ab (l + i)) (fun i => cb (l + i)) := fun h0 => by
  have hlen : ((cs.drop l).take m).length = m := by rw [List.length_take, List.length_drop]; omega
  rw [hlen] at h0
  obtain ⟨b, off, rfl, hlo, hb, hc⟩ := h (by omega)
  refine ⟨b, off + l * 3, ?_, hlo, hb, fun i hi => ?_⟩
  · unfold subA; rw [if_neg (by omega)]; simp [Addr.add]
  · rw [hlen] at hi
    have := hc (l + i) (by omega)
    have e : cAt ((cs.drop l).take m) i = cAt cs (l + i) := by unfold cAt; rw [List.getElem?_take_of_lt hi, List.getElem?_drop]
    rw [e, show off + l * 3 + i * 3 = off + (l + i) * 3 by omega]
    exact this
/-- How two rows of cells stand to one another. -/
def cmpI (n : Nat) (cs ds : List Ce) (M : Nat) : Int := firstUp (fun i => cmpC (cmpA n) (cAt cs i) (cAt ds i)) M
set_option maxHeartbeats 4000000 in
theorem cmp55 {n lo lo' M c2 d2 : Nat} {cs ds : List Ce} {a2 b2 : Option Addr} {ab ab' : Nat → Option Addr} {cb cb' : Nat → Nat} {w : World} (hcf : CellsFn n lo w cs a2 ab cb) (hdf : CellsFn n lo' w ds b2 ab' cb') (hcl : cs.length = M) (hdl : ds.length = M) (h16 : M ≤ 16384) :
    Calls Try.prog 55 #[.slice a2 M c2, .slice b2 M d2, .func (.func 56) #[] #[]] w fun e w' => e = .returned (.int .i64 (cmpI n cs ds M)) ∧ Below w.heap.size w w' := by
  obtain ⟨f, hf⟩ : ∃ f : Nat → Int, (fun i => cmpC (cmpA n) (cAt cs i) (cAt ds i)) = f := ⟨_, rfl⟩
  have hfv : ∀ i, cmpC (cmpA n) (cAt cs i) (cAt ds i) = f i := fun i => by rw [← hf]
  have HC : Hid (∀ W, Below w.heap.size w W → ∀ i, i < M → Calls Try.prog 56 #[.agg #[.int .i64 (cAt cs i).1, .int .i64 (cAt cs i).2.1, .slice (ab i) (cAt cs i).2.2.length (cb i)], .agg #[.int .i64 (cAt ds i).1, .int .i64 (cAt ds i).2.1, .slice (ab' i) (cAt ds i).2.2.length (cb' i)]] W fun e w' => e = .returned (.int .i64 (f i)) ∧ Below W.heap.size W w') := fun W h i hi => by
    obtain ⟨b, off, -, -, -, hc⟩ := (hcf.next h) (by omega)
    obtain ⟨b', off', -, -, -, hd⟩ := (hdf.next h) (by omega)
    rw [← hfv i]
    exact cell_any n (cmp_any n) (cAt cs i) (cAt ds i) lo lo' W _ _ _ _ _ _ (hc i (by omega)).2.2.2 (hd i (by omega)).2.2.2
  unfold cmpI
  rw [hf]
  have HCF := hide hcf
  have HDF := hide hdf
  have HLEN := hide (And.intro hcl hdl)
  clear hcf hdf hcl hdl hf hfv
  go_enter Try.func55, Try.ntmps55
  go_wp2
  go_loopg [13] M (fun m i wr => ∃ t : Nat, m + t = M ∧ i = .int .i64 (t : Int) ∧ Below w.heap.size w wr ∧ firstUp f t = 0)
  case atStart => exact ⟨0, rfl, rfl, Below.refl _ _, rfl⟩
  case round =>
    obtain ⟨t, hM, rfl, hbw, hz⟩ := hrel
    have HZ := hide hz
    have HBW := hide hbw
    by_cases hlt : t < M
    · have hltz : (t : Int) < (M : Int) := by omega
      obtain ⟨b, off, rfl, -, hb, hcells⟩ := HCF.out (by rw [HLEN.out.1]; omega)
      obtain ⟨g0, g1, g2, -⟩ := hcells t (by rw [HLEN.out.1]; exact hlt)
      obtain ⟨b', off', rfl, -, hb', hdcells⟩ := HDF.out (by rw [HLEN.out.2]; omega)
      obtain ⟨h0, h1, h2, -⟩ := hdcells t (by rw [HLEN.out.2]; exact hlt)
      have u0 := (hbw.cell (p := ⟨b, off + t * 3, none⟩) hb).trans g0
      have u1 := (hbw.cell (p := ⟨b, off + t * 3 + 1, none⟩) hb).trans g1
      have u2 := (hbw.cell (p := ⟨b, off + t * 3 + 2, none⟩) hb).trans g2
      obtain ⟨S, hS⟩ : ∃ S, wr.heap.size = S := ⟨_, rfl⟩
      obtain ⟨W8, e8⟩ : ∃ W8, wr.alloc (.cells #[.int .i64 (cAt cs t).1, .int .i64 (cAt cs t).2.1, .slice (ab t) (cAt cs t).2.2.length (cb t)] 39) = W8 := ⟨_, rfl⟩
      have B8 : Below wr.heap.size wr W8 := by rw [← e8]; exact one_alloc _ _
      have z8 : W8.heap.size = S + 1 := by rw [← e8]; simp [hS]
      have k0 : W8.cell? ⟨S, 0, none⟩ = some (.int .i64 (cAt cs t).1) := by rw [← e8, ← hS]; exact cell_new0 _ _ 39 0 _ rfl
      have k1 : W8.cell? ⟨S, 1, none⟩ = some (.int .i64 (cAt cs t).2.1) := by rw [← e8, ← hS]; exact cell_new0 _ _ 39 1 _ rfl
      have k2 : W8.cell? ⟨S, 2, none⟩ = some (.slice (ab t) (cAt cs t).2.2.length (cb t)) := by rw [← e8, ← hS]; exact cell_new0 _ _ 39 2 _ rfl
      have hb8 : Below w.heap.size w W8 := hbw.trans (B8.mono hbw.size)
      have v0 := (hb8.cell (p := ⟨b', off' + t * 3, none⟩) hb').trans h0
      have v1 := (hb8.cell (p := ⟨b', off' + t * 3 + 1, none⟩) hb').trans h1
      have v2 := (hb8.cell (p := ⟨b', off' + t * 3 + 2, none⟩) hb').trans h2
      obtain ⟨W9, e9⟩ : ∃ W9, W8.alloc (.cells #[.int .i64 (cAt ds t).1, .int .i64 (cAt ds t).2.1, .slice (ab' t) (cAt ds t).2.2.length (cb' t)] 39) = W9 := ⟨_, rfl⟩
      have B9 : Below W8.heap.size W8 W9 := by rw [← e9]; exact one_alloc _ _
      have m0 : W9.cell? ⟨S + 1, 0, none⟩ = some (.int .i64 (cAt ds t).1) := by rw [← e9, ← z8]; exact cell_new0 _ _ 39 0 _ rfl
      have m1 : W9.cell? ⟨S + 1, 1, none⟩ = some (.int .i64 (cAt ds t).2.1) := by rw [← e9, ← z8]; exact cell_new0 _ _ 39 1 _ rfl
      have m2 : W9.cell? ⟨S + 1, 2, none⟩ = some (.slice (ab' t) (cAt ds t).2.2.length (cb' t)) := by rw [← e9, ← z8]; exact cell_new0 _ _ 39 2 _ rfl
      have l0 := (B9.cell (p := ⟨S, 0, none⟩) (by show S < _; omega)).trans k0
      have l1 := (B9.cell (p := ⟨S, 1, none⟩) (by show S < _; omega)).trans k1
      have l2 := (B9.cell (p := ⟨S, 2, none⟩) (by show S < _; omega)).trans k2
      have hb9 : Below w.heap.size w W9 := hb8.trans (B9.mono hb8.size)
      have C := HC.out W9 hb9 t hlt
      have HB9 := hide hb9
      have HE8 := hide (And.intro e8 hS)
      have HE9 := hide (And.intro e9 z8)
      obtain ⟨r, hr⟩ : ∃ r, f t = r := ⟨_, rfl⟩
      have HR := hide hr
      rw [hr] at C
      generalize (cAt cs t).1 = x0 at *
      generalize (cAt cs t).2.1 = x1 at *
      generalize (cAt cs t).2.2.length = x2 at *
      generalize ab t = x3 at *
      generalize cb t = x4 at *
      generalize (cAt ds t).1 = y0 at *
      generalize (cAt ds t).2.1 = y1 at *
      generalize (cAt ds t).2.2.length = y2 at *
      generalize ab' t = y3 at *
      generalize cb' t = y4 at *
      clear hr hcells hdcells g0 g1 g2 h0 h1 h2 hbw hb hb' hb8 hb9 B8 B9 e8 e9 hz k0 k1 k2 hS z8
      go_upto_region 4 with fail
      rw [HE8.out.1, HE8.out.2]
      clear u0 u1 u2
      go_upto_region 7 with fail
      rw [HE9.out.1, HE9.out.2]
      clear v0 v1 v2
      go_wp2_with fail
      refine C.mono ?_
      clear C l0 l1 l2 m0 m1 m2
      rintro e w5 ⟨rfl, hb5⟩
      have HB5 := hide (HB9.out.trans (hb5.mono HB9.out.size))
      clear hb5
      by_cases hr0 : r = 0
      · subst hr0
        have HN : Hid (firstUp f (t + 1) = 0) := (firstUp_step HZ.out).trans HR.out
        go_wp2
        go_roundg (M - (t + 1))
        case rel => exact ⟨t + 1, by omega, by go_num, HB5.out, HN.out⟩
        case measure => omega
      · have hrb : (r == 0) = false := by simp [hr0]
        have HF : Hid (firstUp f M = r) := (firstUp_hit HZ.out (by rw [HR.out]; exact hr0) M hlt).trans HR.out
        go_wp2
        go_ret
        exact ⟨by rw [HF.out]; rfl, HB5.out⟩
    · have hte : t = M := by omega
      subst hte
      clear hbw hz
      go_wp2
      go_ret
      exact ⟨by rw [HZ.out]; rfl, HBW.out⟩
set_option maxHeartbeats 2000000 in
theorem cbc30 {n lo lo' M c2 d2 : Nat} {cs ds : List Ce} {a2 b2 : Option Addr} {ab ab' : Nat → Option Addr} {cb cb' : Nat → Nat} {w : World} (hcf : CellsFn n lo w cs a2 ab cb) (hdf : CellsFn n lo' w ds b2 ab' cb') (hcl : cs.length = M) (hdl : ds.length = M) (h16 : M ≤ 16384) :
    Calls Try.prog 30 #[.slice a2 M c2, .slice b2 M d2] w fun e w' => e = .returned (.int .i64 (cmpI n cs ds M)) ∧ Below w.heap.size w w' := by
  have C := cmp55 (c2 := c2) (d2 := d2) hcf hdf hcl hdl h16
  clear hcf hdf hcl hdl
  go_enter Try.func30, Try.ntmps30
  go_wp2_with fail
  refine C.mono ?_
  clear C
  rintro e w5 ⟨rfl, hb5⟩
  have HB := hide hb5
  clear hb5
  go_wp2
  go_ret
  exact ⟨rfl, HB.out⟩
set_option maxHeartbeats 2000000 in
theorem rev31 {n lo lo' M c2 d2 : Nat} {cs ds : List Ce} {a2 b2 : Option Addr} {ab ab' : Nat → Option Addr} {cb cb' : Nat → Nat} {w : World} (hcf : CellsFn n lo w cs a2 ab cb) (hdf : CellsFn n lo' w ds b2 ab' cb') (hcl : cs.length = M) (hdl : ds.length = M) (h16 : M ≤ 16384) :
    Calls Try.prog 31 #[.slice a2 M c2, .slice b2 M d2] w fun e w' => e = .returned (.int .i64 (cmpI n ds cs M)) ∧ Below w.heap.size w w' := by
  have C := cbc30 (c2 := d2) (d2 := c2) hdf hcf hdl hcl h16
  clear hcf hdf hcl hdl
  go_enter Try.func31, Try.ntmps31
  go_wp2_with fail
  refine C.mono ?_
  clear C
  rintro e w5 ⟨rfl, hb5⟩
  have HB := hide hb5
  clear hb5
  go_wp2
  go_ret
  exact ⟨rfl, HB.out⟩
end Go.Proofs.Ytimkcpbgnoekcaa
namespace Go.Proofs.Ytimkcpbgnoekcaa
open Go.ChangeShapes Go.WideShapes Go.ChangeAt Go.RowKit
set_option linter.unusedVariables false
set_option maxRecDepth 100000
theorem int23 : (Try.prog.info? 23).map (fun i => (i.zero, i.size, i.bytes)) = some (some (.slice none 0 0), 1, 24) := by kernel_rfl
/-- A row of whatever values, each of one cell, that may be written. -/
structure StV (W1 : World) (b n : Nat) (f : Nat → Value) (w : World) : Prop where
  bel : Below b W1 w
  lt : b < w.heap.size
  row : ∀ i, i < n → w.cell? ⟨b, i, none⟩ = some (f i) ∧ w.frozen? ⟨b, i, none⟩ = false
theorem StV.set {W1 w : World} {b n : Nat} {f g : Nat → Value} (h : StV W1 b n f w) {i : Nat} (hi : i < n) (v : Value) (hg : ∀ x, x < n → g x = if x = i then v else f x) : StV W1 b n g (w.setCell ⟨b, i, none⟩ v) := by
  refine ⟨h.bel.setCell (p := ⟨b, i, none⟩) (Nat.le_refl _) _, by simpa using h.lt, fun x hx => ?_⟩
  obtain ⟨c, fz⟩ := h.row x hx
  refine ⟨?_, frozen_set _ _ _ _ fz⟩
  rw [hg x hx]
  by_cases e : x = i
  · subst e
    rw [if_pos rfl]
    exact World.cell?_setCell_same' _ _ _ (by rw [c]; rfl)
  · rw [if_neg e, World.cell?_setCell_other _ _ _ _ (by first | (simp; done) | (simpa using e))]
    exact c
/-- itemsOf's answer. -/
def ItemsIs (N M c2 : Nat) (a2 : Option Addr) (w : World) (e : Ending) (w' : World) : Prop := (∃ bi, e = .returned (.slice (some ⟨bi, 0, none⟩) N N) ∧ w.heap.size ≤ bi ∧ bi < w'.heap.size ∧ ∀ i, i < N → w'.cell? ⟨bi, i, none⟩ = some (.slice (subA a2 (i * M) c2 3) M (c2 - i * M))) ∧ Below w.heap.size w w'
set_option maxHeartbeats 4000000 in
theorem items53 {N M CA SX c1 c2 b1 o1 : Nat} {a2 : Option Addr} {w : World} (h0 : w.cell? ⟨b1, o1, none⟩ = some (.int .i64 (N : Int))) (hb1 : b1 < w.heap.size) (hSX : 0 < SX) (hN : N ≤ 16384) (hM : N * M = CA) (h16 : CA ≤ 16384) (hcap : CA ≤ c2) :
    Calls Try.prog 53 #[.agg #[.slice (some ⟨b1, o1, none⟩) SX c1, .slice a2 CA c2]] w fun e w' => ItemsIs N M c2 a2 w e w' := by
  obtain ⟨W1, e1⟩ : ∃ W1, w.alloc (.cells #[.slice (some ⟨b1, o1, none⟩) SX c1, .slice a2 CA c2] 25) = W1 := ⟨_, rfl⟩
  have B1 : Below w.heap.size w W1 := by rw [← e1]; exact one_alloc _ _
  have z1 : W1.heap.size = w.heap.size + 1 := by rw [← e1]; simp
  have q0 : W1.cell? ⟨w.heap.size, 0, none⟩ = some (.slice (some ⟨b1, o1, none⟩) SX c1) := by rw [← e1]; exact cell_new0 w _ 25 0 _ rfl
  have q1 : W1.cell? ⟨w.heap.size, 1, none⟩ = some (.slice a2 CA c2) := by rw [← e1]; exact cell_new0 w _ 25 1 _ rfl
  have n0 := (B1.cell (p := ⟨b1, o1, none⟩) hb1).trans h0
  obtain ⟨b, hb⟩ : ∃ b, W1.heap.size = b := ⟨_, rfl⟩
  have mk := run_make_row' (P := Try.prog) 73 23 (.slice none 0 0) 24 Try.underlying73 int23 rfl .i64 .i64 N (by omega) (by omega)
  obtain ⟨W2, e2⟩ : ∃ W2, W1.alloc (.cells (madeCells #[.slice none 0 0] N) 23) = W2 := ⟨_, rfl⟩
  have rm : W2.rowIs b 23 N (fun _ => .slice none 0 0) := by rw [← e2, ← hb]; exact World.rowIs_made W1 (.slice none 0 0) N 23
  have B2 : Below b W1 W2 := by rw [← e2, ← hb]; exact one_alloc _ _
  obtain ⟨g, hg⟩ : ∃ g : Nat → Value, g = fun i => .slice (subA a2 (i * M) c2 3) M (c2 - i * M) := ⟨_, rfl⟩
  have S0 : StV W1 b N (fun i => if i < 0 then g i else .slice none 0 0) W2 := ⟨B2, by rw [← e2]; simp [hb], fun i hi => ⟨by have := rm.cell (i := i) hi; simpa using this, rm.frozen i⟩⟩
  have HS0 := hide S0
  have HG := hide hg
  have HB := hide (And.intro B1 (And.intro z1 hb))
  have HE1 := hide e1
  have HE2 := hide e2
  have HQ := hide q1
  clear B1 rm B2 S0 e2 h0 hb1 hg
  go_enter Try.func53, Try.ntmps53
  go_wp2
  rw [HE2.out, show w.heap.size + 1 = b by omega]
  clear z1 hb e1 mk n0 q0 q1
  go_loopg [13] N (fun m j wr => ∃ k : Nat, m + k = N ∧ j = .int .i64 (k : Int) ∧ StV W1 b N (fun i => if i < k then g i else .slice none 0 0) wr)
  case atStart => exact ⟨0, rfl, rfl, HS0.out⟩
  case round =>
    clear HS0
    obtain ⟨k, hm, rfl, hs⟩ := hrel
    by_cases hlt : k < N
    · have hltz : (k : Int) < (N : Int) := by omega
      obtain ⟨c0, f0⟩ := hs.row k hlt
      have hh := HB.out
      have q1 := (hs.bel.cell (p := ⟨w.heap.size, 1, none⟩) (by show w.heap.size < b; omega)).trans HQ.out
      have HN : Hid (StV W1 b N (fun i => if i < k + 1 then g i else .slice none 0 0) (wr.setCell ⟨b, k, none⟩ (g k))) := by
        refine hs.set hlt (g k) fun x hx => ?_
        by_cases e : x = k
        · rw [if_pos e, if_pos (by omega), e]
        · rw [if_neg e]
          by_cases e2 : x < k
          · rw [if_pos e2, if_pos (by omega)]
          · rw [if_neg e2, if_neg (by omega)]
      replace c0 : ∃ z, wr.cell? ⟨b, k, none⟩ = some z := ⟨_, c0⟩
      obtain ⟨z, c0⟩ := c0
      have hkM : k * M + M ≤ CA := by
        have := Nat.mul_le_mul_right M (show k + 1 ≤ N from hlt)
        rw [Nat.add_mul, Nat.one_mul, hM] at this
        exact this
      obtain ⟨pp, hpp⟩ : ∃ pp : Nat, k * M = pp := ⟨_, rfl⟩
      obtain ⟨qq, hqq⟩ : ∃ qq : Nat, pp + M = qq := ⟨_, rfl⟩
      rw [hpp, hqq] at hkM
      have hwp : IntKind.i64.wrap ((k : Int) * (M : Int)) = (pp : Int) := by rw [← Int.natCast_mul, hpp]; exact IntWalk.i64_in _ ⟨by omega, by omega⟩
      have hwq : IntKind.i64.wrap (((k : Int) + 1) * (M : Int)) = (qq : Int) := by
        rw [Int.add_mul, Int.one_mul, ← Int.natCast_mul, hpp, ← Int.natCast_add, hqq]; exact IntWalk.i64_in _ ⟨by omega, by omega⟩
      have hp2 : ∀ W, (Instr.sliceAt 23 (.slice a2 CA c2) (some (.int .i64 (pp : Int))) (some (.int .i64 (qq : Int))) none).run Try.prog W = .ok (g k) W := fun W => by
        have := part_lh (P := Try.prog) Try.underlying23 size36 a2 CA c2 pp qq (pp : Int) (qq : Int) rfl rfl (by omega) (by omega) W
        rw [this, show qq - pp = M by omega, HG.out, ← hpp]
      have hgs : ∃ A B, g k = .slice A M B := ⟨_, _, by rw [HG.out]⟩
      obtain ⟨ga, gb, hgk⟩ := hgs
      rw [hgk] at HN hp2
      have hMN : CA / N = M := by rw [← hM]; exact Nat.mul_div_cancel_left M (by omega)
      have hq1 : (CA : Int).tdiv (N : Int) = (M : Int) := by rw [← Int.ofNat_tdiv, hMN]
      have hq2 : (CA : Int) / (N : Int) = (M : Int) := by rw [← Int.natCast_ediv, hMN]
      have hM16 : M ≤ 16384 := by omega
      have hN0 : (N : Int) ≠ 0 := by omega
      have hN1 : ((N : Int) == 0) = false := by simp; omega
      clear hs hh hpp hqq hgk hMN hM
      go_wp2
      go_roundg (N - (k + 1))
      case rel => exact ⟨k + 1, by omega, by go_num, HN.out⟩
      case measure => omega
    · have hke : k = N := by omega
      subst hke
      have HF : Hid (ItemsIs k M c2 a2 w (.returned (.slice (some ⟨b, 0, none⟩) k k)) wr) := by
        have hh := HB.out
        refine ⟨⟨b, rfl, by omega, hs.lt, fun i hi => ?_⟩, hh.1.trans (hs.bel.mono (by omega))⟩
        rw [(hs.row i hi).1, if_pos hi, HG.out]
      clear hs
      go_wp2
      go_ret
      exact HF.out
end Go.Proofs.Ytimkcpbgnoekcaa
namespace Go.Proofs.Ytimkcpbgnoekcaa
open Go.ChangeShapes Go.WideShapes Go.ChangeAt Go.RowKit
set_option linter.unusedVariables false
set_option maxRecDepth 100000
theorem Ord.flip {α : Type} {f : α → α → Int} (h : Ord f) : Ord fun x y => f y x :=
  ⟨fun x y => h.anti _ _, fun x y z a b => h.trans _ _ _ b a, fun x y => h.rng _ _⟩
/-- An item's cells. -/
def ikC (cs : List Ce) (M : Nat) (x : Int) : List Ce := (cs.drop (x.toNat * M)).take M
theorem ikC_len {cs : List Ce} {N M : Nat} (h : N * M = cs.length) {i : Nat} (hi : i < N) : i * M + M ≤ cs.length ∧ (ikC cs M (i : Int)).length = M := by
  have h1 : i * M + M ≤ cs.length := by
    have := Nat.mul_le_mul_right M (show i + 1 ≤ N from hi)
    rw [Nat.add_mul, Nat.one_mul, h] at this
    exact this
  refine ⟨h1, ?_⟩
  unfold ikC
  rw [List.length_take, List.length_drop, Int.toNat_natCast]
  omega
/-- How items stand, by their numbers: rising, and falling. -/
def byI (n : Nat) (cs : List Ce) (M : Nat) (x y : Int) : Int := listCmp (cmpC (cmpA n)) (ikC cs M x) (ikC cs M y)
def byJ (n : Nat) (cs : List Ce) (M : Nat) (x y : Int) : Int := listCmp (cmpC (cmpA n)) (ikC cs M y) (ikC cs M x)
theorem byI_ord (n : Nat) (cs : List Ce) (M m : Nat) : OrdN m (byI n cs M) := ordN_of (ord_list (ord_cell (ord_arr n))) (fun x => ikC cs M x) m
theorem byJ_ord (n : Nat) (cs : List Ce) (M m : Nat) : OrdN m (byJ n cs M) := ordN_of (ord_list (ord_cell (ord_arr n))).flip (fun x => ikC cs M x) m
theorem cmpI_list (n : Nat) (l m : List Ce) (M : Nat) (hl : l.length = M) (hm : m.length = M) : cmpI n l m M = listCmp (cmpC (cmpA n)) l m := by
  rw [list_first (cmpC (cmpA n)) (0, 0, []) l m, hl, hm, Nat.min_self]
  unfold cmpI cAt
  split
  · rfl
  · rename_i h
    rw [Decidable.not_not] at h
    rw [h]
    simp [cmp3]
/-- Comparing two items of a row as itemsOf makes it. -/
theorem by_30 {n lo N M c2 : Nat} {cs : List Ce} {a2 : Option Addr} {ab : Nat → Option Addr} {cb : Nat → Nat} {w : World} (hcf : CellsFn n lo w cs a2 ab cb) (hNM : N * M = cs.length) (hcap : cs.length ≤ c2) (h16 : cs.length ≤ 16384) {i k : Nat} (hi : i < N) (hk : k < N) :
    Calls Try.prog 30 #[.slice (subA a2 (i * M) c2 3) M (c2 - i * M), .slice (subA a2 (k * M) c2 3) M (c2 - k * M)] w fun e w' => e = .returned (.int .i64 (byI n cs M (i : Int) (k : Int))) ∧ Below w.heap.size w w' := by
  obtain ⟨li, ei⟩ := ikC_len hNM hi
  obtain ⟨lk, ek⟩ := ikC_len hNM hk
  have pi := hcf.part (i * M) c2 M li hcap
  have pk := hcf.part (k * M) c2 M lk hcap
  have ei' : ikC cs M (i : Int) = (cs.drop (i * M)).take M := by unfold ikC; rw [Int.toNat_natCast]
  have ek' : ikC cs M (k : Int) = (cs.drop (k * M)).take M := by unfold ikC; rw [Int.toNat_natCast]
  rw [← ei'] at pi
  rw [← ek'] at pk
  unfold byI
  rw [← cmpI_list n _ _ M ei ek]
  exact cbc30 (c2 := c2 - i * M) (d2 := c2 - k * M) pi pk ei ek (by omega)
/-- Comparing two items of a row as itemsOf makes it. -/
theorem by_31 {n lo N M c2 : Nat} {cs : List Ce} {a2 : Option Addr} {ab : Nat → Option Addr} {cb : Nat → Nat} {w : World} (hcf : CellsFn n lo w cs a2 ab cb) (hNM : N * M = cs.length) (hcap : cs.length ≤ c2) (h16 : cs.length ≤ 16384) {i k : Nat} (hi : i < N) (hk : k < N) :
    Calls Try.prog 31 #[.slice (subA a2 (i * M) c2 3) M (c2 - i * M), .slice (subA a2 (k * M) c2 3) M (c2 - k * M)] w fun e w' => e = .returned (.int .i64 (byJ n cs M (i : Int) (k : Int))) ∧ Below w.heap.size w w' := by
  obtain ⟨li, ei⟩ := ikC_len hNM hi
  obtain ⟨lk, ek⟩ := ikC_len hNM hk
  have pi := hcf.part (i * M) c2 M li hcap
  have pk := hcf.part (k * M) c2 M lk hcap
  have ei' : ikC cs M (i : Int) = (cs.drop (i * M)).take M := by unfold ikC; rw [Int.toNat_natCast]
  have ek' : ikC cs M (k : Int) = (cs.drop (k * M)).take M := by unfold ikC; rw [Int.toNat_natCast]
  rw [← ei'] at pi
  rw [← ek'] at pk
  unfold byJ
  rw [← cmpI_list n _ _ M ek ei]
  exact rev31 (c2 := c2 - i * M) (d2 := c2 - k * M) pi pk ei ek (by omega)
end Go.Proofs.Ytimkcpbgnoekcaa
namespace Go.Proofs.Ytimkcpbgnoekcaa
open Go.ChangeShapes Go.WideShapes Go.ChangeAt Go.RowKit
set_option linter.unusedVariables false
set_option maxRecDepth 100000
theorem info4 : (Try.prog.info? 4).map (fun i => (i.zero, i.size, i.bytes)) = some (some (.bool false), 1, 1) := by kernel_rfl
/-- At a place of the order: is there no one ahead that is the same? -/
def fB (c : Int → Int → Int) (g : Nat → Int) (t : Nat) : Bool := if t = 0 then true else !(c (g (t - 1)) (g t) == 0)
theorem blk_inj {c : Int → Int → Int} {g : Nat → Int} {N : Nat} (h : Blk c g 0 N) (hc : ∀ x, c x x = 0) {i j : Nat} (hi : i < N) (hj : j < N) (e : g i = g j) : i = j := by
  have key : ∀ a b, a < N → b < N → a < b → g a = g b → False := fun a b ha hb hab e => by
    have := h.1 a b (Nat.zero_le _) hab hb
    rw [e] at this
    unfold ltc at this
    have := hc (g b)
    omega
  rcases Nat.lt_trichotomy i j with h1 | h1 | h1
  · exact (key i j hi hj h1 e).elim
  · exact h1
  · exact (key j i hj hi h1 e.symm).elim
set_option maxHeartbeats 4000000 in
theorem firsts_any {n lo N M CA c2 bi : Nat} {cs : List Ce} {a2 : Option Addr} {ab : Nat → Option Addr} {cb : Nat → Nat} {w : World} (hcf : CellsFn n lo w cs a2 ab cb) (hN : N ≤ 16384) (hCA : cs.length = CA) (hNM : N * M = CA) (h16 : CA ≤ 16384) (hcap : CA ≤ c2) (hbi : bi < w.heap.size) (hri : ∀ i, i < N → w.cell? ⟨bi, i, none⟩ = some (.slice (subA a2 (i * M) c2 3) M (c2 - i * M))) :
    Calls Try.prog 58 #[.slice (some ⟨bi, 0, none⟩) N N] w fun e w' => (∃ (bo : Nat) (g : Nat → Int) (f : Nat → Value), Blk (byI n cs M) g 0 N ∧ e = .returned (.slice (some ⟨bo, 0, none⟩) N N) ∧ w.heap.size ≤ bo ∧ bo < w'.heap.size ∧ (∀ i, i < N → w'.cell? ⟨bo, i, none⟩ = some (f i)) ∧ ∀ s, s < N → f (g s).toNat = .bool (fB (byI n cs M) g s)) ∧ Below w.heap.size w w' := by
  have C := sorted52_30 (ci := N) (sa := fun i => subA a2 (i * M) c2 3) (sc := fun i => c2 - i * M) hri hbi hN (byI_ord n cs M N) fun W' h' i k hi hk => by_30 (hcf.next h') (by rw [hNM, hCA]) (by omega) (by omega) hi hk
  have HC : Hid (∀ W, Below w.heap.size w W → ∀ i k, i < N → k < N → Calls Try.prog 30 #[.slice (subA a2 (i * M) c2 3) M (c2 - i * M), .slice (subA a2 (k * M) c2 3) M (c2 - k * M)] W fun e w' => e = .returned (.int .i64 (byI n cs M (i : Int) (k : Int))) ∧ Below W.heap.size W w') := fun W h i k hi hk => by_30 (hcf.next h) (by rw [hNM, hCA]) (by omega) (by omega) hi hk
  have HRI := hide (And.intro hbi hri)
  have HCC : Hid (∀ x, byI n cs M x x = 0) := fun x => (ord_list (ord_cell (ord_arr n))).self _
  generalize byI n cs M = c at *
  have HMK := hide (run_make_row' (P := Try.prog) 36 4 (.bool false) 1 Try.underlying36 info4 rfl .i64 .i64 N (by omega) (by omega))
  clear hcf hNM hcap hri hbi hCA
  go_enter Try.func58, Try.ntmps58
  go_wp2_with fail
  refine C.mono ?_
  clear C
  rintro e w6 ⟨⟨b, g, rfl, hb1', hb2', hrow, hblk⟩, hb6⟩
  obtain ⟨bn, hbn⟩ : ∃ bn, w6.heap.size = bn := ⟨_, rfl⟩
  have mk := HMK.out
  obtain ⟨W7, e7⟩ : ∃ W7, w6.alloc (.cells (madeCells #[.bool false] N) 4) = W7 := ⟨_, rfl⟩
  have rm : W7.rowIs bn 4 N (fun _ => .bool false) := by rw [← e7, ← hbn]; exact World.rowIs_made w6 (.bool false) N 4
  have B7 : Below bn w6 W7 := by rw [← e7, ← hbn]; exact one_alloc _ _
  have S0 : StV w6 bn N (fun i => .bool false) W7 := ⟨B7, by rw [← e7]; simp [hbn], fun i hi => ⟨by have := rm.cell (i := i) hi; simpa using this, rm.frozen i⟩⟩
  have HS0 := hide S0
  have HE7 := hide (And.intro e7 hbn)
  have HBK := hide hblk
  have HRW := hide hrow
  have HB6 := hide hb6
  have hs6 := hb6.size
  have HBB := hide (And.intro hb2' (And.intro hbn (And.intro hb1' hs6)))
  clear S0 rm B7 hblk hrow e7 hb2' hbn hb6 hb1' hs6
  go_wp2
  rw [HE7.out.1, HE7.out.2]
  clear mk
  go_loopg [14] N (fun m j wr => ∃ (k : Nat) (f : Nat → Value), m + k = N ∧ j = .int .i64 (k : Int) ∧ StV w6 bn N f wr ∧ ∀ s, s < k → f (g s).toNat = .bool (fB c g s))
  case atStart => exact ⟨0, _, rfl, rfl, HS0.out, fun s h => by omega⟩
  case round =>
    clear HS0
    obtain ⟨k, f, hm, rfl, hs, hf⟩ := hrel
    by_cases hlt : k < N
    · have hltz : (k : Int) < (N : Int) := by omega
      have hh := HBB.out
      have hgk := HBK.out.2 k (Nat.zero_le _) hlt
      have u0 := (hs.bel.cell (p := ⟨b, k, none⟩) (by show b < bn; omega)).trans (HRW.out k hlt)
      obtain ⟨G, hG⟩ : ∃ G : Nat, g k = (G : Int) := ⟨(g k).toNat, by omega⟩
      rw [hG] at u0
      have hGN : G < N := by omega
      have hGNz : (G : Int) < (N : Int) := by omega
      obtain ⟨c0, f0⟩ := hs.row G hGN
      have HN : Hid (∀ w9, Below wr.heap.size wr w9 → StV w6 bn N (fun i => if i = G then .bool (fB c g k) else f i) (w9.setCell ⟨bn, G, none⟩ (.bool (fB c g k)))) := fun w9 hb9 => by
        refine StV.set (f := f) ⟨hs.bel.trans (hb9.mono (Nat.le_of_lt hs.lt)), Nat.lt_of_lt_of_le hs.lt hb9.size, fun i hi => ⟨(hb9.cell (p := ⟨bn, i, none⟩) hs.lt).trans (hs.row i hi).1, (hb9.frozen (p := ⟨bn, i, none⟩) hs.lt).trans (hs.row i hi).2⟩⟩ hGN _ fun x hx => rfl
      have HV : Hid (∀ s, s < k + 1 → (if (g s).toNat = G then Value.bool (fB c g k) else f (g s).toNat) = .bool (fB c g s)) := fun s hs1 => by
        by_cases e : s = k
        · rw [if_pos (by rw [e, hG]; simp), e]
        · have hgs := HBK.out.2 s (Nat.zero_le _) (by omega)
          rw [if_neg fun h => e (blk_inj HBK.out HCC.out (by omega) hlt (by omega)), hf s (by omega)]
      have HLT := hide hs.lt
      by_cases hk0 : k = 0
      · subst hk0
        have hfb : fB c g 0 = true := rfl
        rw [hfb] at HN
        generalize f G = z at *
        clear hs hf hh hgk hG
        go_upto_region 6 with fail
        go_big_region
        all_goals
          go_wp2
          go_roundg (N - 1)
          case rel => exact ⟨1, _, by omega, by go_num, HN.out _ (Below.refl _ _).drew, HV.out⟩
          case measure => omega
      · obtain ⟨j, hkj⟩ : ∃ j, k = j + 1 := ⟨k - 1, by omega⟩
        have HKJ := hide hkj
        have hgj := HBK.out.2 j (Nat.zero_le _) (by omega)
        have v0 := (hs.bel.cell (p := ⟨b, j, none⟩) (by show b < bn; omega)).trans (HRW.out j (by omega))
        obtain ⟨J, hJ⟩ : ∃ J : Nat, g j = (J : Int) := ⟨(g j).toNat, by omega⟩
        rw [hJ] at v0
        have hJN : J < N := by omega
        have hJNz : (J : Int) < (N : Int) := by omega
        have hbw : Below w.heap.size w wr := HB6.out.trans (hs.bel.mono (by omega))
        have s0 := (hbw.cell (p := ⟨bi, G, none⟩) HRI.out.1).trans (HRI.out.2 G hGN)
        have s1 := (hbw.cell (p := ⟨bi, J, none⟩) HRI.out.1).trans (HRI.out.2 J hJN)
        have HC9 : Hid (∀ W, Below wr.heap.size wr W → Calls Try.prog 30 #[.slice (subA a2 (J * M) c2 3) M (c2 - J * M), .slice (subA a2 (G * M) c2 3) M (c2 - G * M)] W fun e w' => e = .returned (.int .i64 (c (J : Int) (G : Int))) ∧ Below wr.heap.size wr w') := fun W h => (HC.out W (hbw.trans (h.mono hbw.size)) J G hJN hGN).mono fun e w' ⟨he, hw⟩ => ⟨he, h.trans (hw.mono h.size)⟩
        obtain ⟨r, hr⟩ : ∃ r, c (J : Int) (G : Int) = r := ⟨_, rfl⟩
        obtain ⟨nb, hnb⟩ : ∃ nb, (r == 0) = nb := ⟨_, rfl⟩
        have hfb : fB c g k = !nb := by unfold fB; rw [if_neg hk0, show k - 1 = j by omega, hJ, hG, hr, hnb]
        have hnb2 : (r != 0) = !nb := by rw [← hnb]; rfl
        rw [hr] at HC9
        rw [hfb] at HN HV
        have KA : Hid (∀ W, Below wr.heap.size wr W → W.cell? ⟨bn, G, none⟩ = some (f G) ∧ W.frozen? ⟨bn, G, none⟩ = false) := fun W h => ⟨(h.cell (p := ⟨bn, G, none⟩) hs.lt).trans c0, (h.frozen (p := ⟨bn, G, none⟩) hs.lt).trans f0⟩
        have KS : Hid (∀ W, Below wr.heap.size wr W → W.cell? ⟨b, j, none⟩ = some (.int .i64 (J : Int)) ∧ W.cell? ⟨bi, J, none⟩ = some (.slice (subA a2 (J * M) c2 3) M (c2 - J * M)) ∧ W.cell? ⟨bi, G, none⟩ = some (.slice (subA a2 (G * M) c2 3) M (c2 - G * M))) := fun W h => ⟨(h.cell (p := ⟨b, j, none⟩) (by have := hs.lt; show b < _; omega)).trans v0, (h.cell (p := ⟨bi, J, none⟩) (by have := HRI.out.1; have := hbw.size; show bi < _; omega)).trans s1, (h.cell (p := ⟨bi, G, none⟩) (by have := HRI.out.1; have := hbw.size; show bi < _; omega)).trans s0⟩
        have KT : Hid (∀ W v, Below wr.heap.size wr W → (W.setCell ⟨bn, G, none⟩ v).cell? ⟨b, j, none⟩ = some (.int .i64 (J : Int)) ∧ (W.setCell ⟨bn, G, none⟩ v).cell? ⟨bi, J, none⟩ = some (.slice (subA a2 (J * M) c2 3) M (c2 - J * M)) ∧ (W.setCell ⟨bn, G, none⟩ v).cell? ⟨bi, G, none⟩ = some (.slice (subA a2 (G * M) c2 3) M (c2 - G * M))) := fun W v h => by
          obtain ⟨t0, t1, t2⟩ := KS.out W h
          have hri := HRI.out.1
          exact ⟨cell_apart (p := ⟨b, j, none⟩) (q := ⟨bn, G, none⟩) (by show b ≠ bn; omega) _ t0, cell_apart (p := ⟨bi, J, none⟩) (q := ⟨bn, G, none⟩) (by show bi ≠ bn; omega) _ t1, cell_apart (p := ⟨bi, G, none⟩) (q := ⟨bn, G, none⟩) (by show bi ≠ bn; omega) _ t2⟩
        have HD0 : Hid (Below wr.heap.size wr wr.drew) := (Below.refl _ _).drew
        have hjN : (j : Int) < (N : Int) := by omega
        have hk1 : ((k : Int) == 0) = false := by simp; omega
        have hk2 : IntKind.i64.wrap ((k : Int) - 1) = (j : Int) := by rw [show (k : Int) - 1 = (j : Int) by omega]; exact IntWalk.i64_in _ ⟨by omega, by omega⟩
        have hk4 : (0 : Int) ≤ (j : Int) := by omega
        have hk5 : ((j : Int)).toNat = j := by omega
        generalize f G = z at *
        generalize subA a2 (J * M) c2 3 = sj at *
        generalize subA a2 (G * M) c2 3 = sg at *
        generalize c2 - J * M = tj at *
        generalize c2 - G * M = tg at *
        clear hs hf hh hgk hG hgj hJ hbw hr hfb hk0 c0 f0 s0 s1 v0 hkj
        go_upto_region 6 with fail
        go_region_held3 (fun W => W.cell? ⟨b, j, none⟩ = some (.int .i64 (J : Int)) ∧ W.cell? ⟨bi, J, none⟩ = some (.slice sj M tj) ∧ W.cell? ⟨bi, G, none⟩ = some (.slice sg M tg))
          (first | with_reducible exact KS.out _ HD0.out | with_reducible exact KS.out _ (by with_reducible assumption) | with_reducible exact KT.out _ _ (by with_reducible assumption))
          (first | (go_at_call 30; refine (HC9.out _ HD0.out).mono ?_; rintro e w9 ⟨rfl, hb9⟩; have HA9 := hide (KA.out w9 hb9); have c9 := HA9.out.1; have f9 := HA9.out.2))
        all_goals
          go_wp2
          go_roundg (N - (k + 1))
          case rel => exact ⟨k + 1, _, by omega, by go_num, HN.out _ hb9, HV.out⟩
          case measure => omega
    · have hke : k = N := by omega
      subst hke
      have HF : Hid ((∃ (bo : Nat) (g : Nat → Int) (f : Nat → Value), Blk c g 0 k ∧ Ending.returned (.slice (some ⟨bn, 0, none⟩) k k) = .returned (.slice (some ⟨bo, 0, none⟩) k k) ∧ w.heap.size ≤ bo ∧ bo < wr.heap.size ∧ (∀ i, i < k → wr.cell? ⟨bo, i, none⟩ = some (f i)) ∧ ∀ s, s < k → f (g s).toNat = .bool (fB c g s)) ∧ Below w.heap.size w wr) := by
        have hh := HBB.out
        exact ⟨⟨bn, g, f, HBK.out, rfl, by omega, hs.lt, fun i hi => (hs.row i hi).1, hf⟩, HB6.out.trans (hs.bel.mono (by omega))⟩
      clear hs hf
      go_wp2
      go_ret
      exact HF.out
end Go.Proofs.Ytimkcpbgnoekcaa
namespace Go.Proofs.Ytimkcpbgnoekcaa
set_option linter.unusedVariables false
set_option maxRecDepth 100000
/-- Does one stand ahead of another: by the comparison, the same ones by their numbers? -/
def ltB (c : Int → Int → Int) (x y : Int) : Bool := decide (c x y < 0 ∨ (c x y = 0 ∧ x < y))
theorem ltB_iff {c : Int → Int → Int} {x y : Int} : ltB c x y = true ↔ ltc c x y := by unfold ltB ltc; simp
def rkP (c : Int → Int → Int) (i j : Nat) : Bool := decide (j ≠ i) && ltB c (j : Int) (i : Int)
/-- How many stand ahead. -/
def rk (c : Int → Int → Int) (N i : Nat) : Nat := (List.range N).countP (rkP c i)
theorem countP_below (s N : Nat) : (List.range N).countP (fun t => decide (t < s)) = min s N := by
  induction N with
  | zero => simp
  | succ N ih =>
    rw [List.range_succ, List.countP_append, ih, List.countP_singleton]
    by_cases h : N < s
    · rw [if_pos (by simpa using h)]; omega
    · rw [if_neg (by simpa using h)]; omega
theorem rk_at {N : Nat} {c : Int → Int → Int} {g : Nat → Int} (O : OrdN N c) (hc : ∀ x, c x x = 0) (h : Blk c g 0 N) {s : Nat} (hs : s < N) : rk c N (g s).toNat = s := by
  have hr : ∀ t, t < N → 0 ≤ g t ∧ g t < N := fun t ht => by have := h.2 t (Nat.zero_le _) ht; omega
  have hinj : ∀ i j, i < N → j < N → (g i).toNat = (g j).toNat → i = j := fun i j hi hj e => blk_inj h hc hi hj (by have := hr i hi; have := hr j hj; omega)
  have hperm : ((List.range N).map fun t => (g t).toNat).Perm (List.range N) := by
    refine (List.perm_ext_iff_of_nodup ?_ List.nodup_range).2 fun a => ?_
    · unfold List.Nodup
      rw [List.pairwise_map]
      refine List.Pairwise.imp_of_mem ?_ (List.pairwise_lt_range (n := N))
      intro a b ha hb hab e
      have := hinj a b (by simpa using ha) (by simpa using hb) e
      omega
    · simp only [List.mem_map, List.mem_range]
      constructor
      · rintro ⟨t, ht, rfl⟩
        have := hr t ht
        omega
      · intro ha
        obtain ⟨i, hi, e⟩ := blk_all (n := N) h hc a ha
        exact ⟨i, hi, by omega⟩
  unfold rk
  rw [← hperm.countP_eq, List.countP_map]
  have : (List.range N).countP (rkP c (g s).toNat ∘ fun t => (g t).toNat) = (List.range N).countP (fun t => decide (t < s)) := by
    refine List.countP_congr fun t ht => ?_
    have ht : t < N := by simpa using ht
    have h1 := hr t ht
    have h2 := hr s hs
    simp only [Function.comp, rkP, Bool.and_eq_true, decide_eq_true_eq]
    rw [show (((g t).toNat : Nat) : Int) = g t by omega, show (((g s).toNat : Nat) : Int) = g s by omega, ltB_iff]
    constructor
    · rintro ⟨hne, hl⟩
      rcases Nat.lt_trichotomy t s with h3 | h3 | h3
      · exact h3
      · exact absurd (by rw [h3]) hne
      · exfalso
        have := O.tr _ _ _ h1.1 h1.2 h2.1 h2.2 h1.1 h1.2 hl (h.1 s t (Nat.zero_le _) h3 ht)
        exact ltc_irrefl (n := N) (hc (g t)) this
    · intro h3
      exact ⟨fun e => by have := hinj t s ht hs e; omega, h.1 t s (Nat.zero_le _) h3 hs⟩
  rw [this, countP_below]
  omega
/-- The numbers in order. -/
def sortL (c : Int → Int → Int) (N : Nat) : List Int := (List.range N).map fun s => ((((List.range N).find? fun i => rk c N i == s).getD 0 : Nat) : Int)
theorem sortL_is {N : Nat} {c : Int → Int → Int} {g : Nat → Int} (O : OrdN N c) (hc : ∀ x, c x x = 0) (h : Blk c g 0 N) : (List.range N).map g = sortL c N := by
  unfold sortL
  refine List.map_congr_left fun s hs => ?_
  have hs : s < N := by simpa using hs
  have hr : ∀ t, t < N → 0 ≤ g t ∧ g t < N := fun t ht => by have := h.2 t (Nat.zero_le _) ht; omega
  have h1 := hr s hs
  cases hf : (List.range N).find? (fun i => rk c N i == s) with
  | none =>
    have := List.find?_eq_none.1 hf (g s).toNat (by simp; omega)
    rw [rk_at O hc h hs] at this
    simp at this
  | some i =>
    have e1 : rk c N i = s := by simpa using List.find?_some hf
    have e2 : i < N := by simpa using List.mem_of_find?_eq_some hf
    obtain ⟨t, ht, e⟩ := blk_all (n := N) h hc i e2
    have e3 := rk_at O hc h ht
    rw [e, Int.toNat_natCast, e1] at e3
    show g s = ((i : Nat) : Int)
    rw [e3, e]
/-- No one ahead is the same. -/
def fstB (c : Int → Int → Int) (i : Nat) : Bool := decide (∀ j, j < i → c (j : Int) (i : Int) ≠ 0)
theorem fB_is {N : Nat} {c : Int → Int → Int} {g : Nat → Int} (F : Ord c) (h : Blk c g 0 N) {s : Nat} (hs : s < N) : fB c g s = fstB c (g s).toNat := by
  have hc : ∀ x, c x x = 0 := F.self
  have hr : ∀ t, t < N → 0 ≤ g t ∧ g t < N := fun t ht => by have := h.2 t (Nat.zero_le _) ht; omega
  have h1 := hr s hs
  have e1 : (((g s).toNat : Nat) : Int) = g s := by omega
  by_cases hb : fB c g s = true
  · rw [hb]
    symm
    unfold fstB
    rw [decide_eq_true_eq, e1]
    intro j hj hz
    have hjN : j < N := by omega
    obtain ⟨t, ht, e⟩ := blk_all (n := N) h hc j hjN
    have hts : t < s := by
      rcases Nat.lt_trichotomy t s with h3 | h3 | h3
      · exact h3
      · rw [h3] at e; omega
      · have h4 := h.1 s t (Nat.zero_le _) h3 ht
        rw [e] at h4
        have h5 := F.anti (j : Int) (g s)
        rcases h4 with h4 | ⟨_, h4⟩ <;> omega
    unfold fB at hb
    rw [if_neg (by omega)] at hb
    have hb' : ¬ c (g (s - 1)) (g s) = 0 := by simpa using hb
    have h6 := h.1 (s - 1) s (Nat.zero_le _) (by omega) hs
    have h7 : c (g (s - 1)) (g s) < 0 := by rcases h6 with h6 | ⟨h6, _⟩ <;> omega
    have h8 : c (j : Int) (g (s - 1)) ≤ 0 := by
      by_cases h9 : t = s - 1
      · rw [← h9, e, hc]; omega
      · have := h.1 t (s - 1) (Nat.zero_le _) (by omega) (by omega)
        rw [e] at this
        rcases this with h10 | ⟨h10, _⟩ <;> omega
    have h11 : c (g s) (j : Int) ≤ 0 := by have := F.anti (j : Int) (g s); omega
    have h12 := F.trans _ _ _ h11 h8
    have := F.anti (g (s - 1)) (g s)
    omega
  · have hb0 : fB c g s = false := by simpa using hb
    rw [hb0]
    symm
    unfold fB at hb0
    by_cases hs0 : s = 0
    · rw [if_pos hs0] at hb0; simp at hb0
    · rw [if_neg hs0] at hb0
      have hz : c (g (s - 1)) (g s) = 0 := by simpa using hb0
      have h6 := h.1 (s - 1) s (Nat.zero_le _) (by omega) hs
      have h7 := hr (s - 1) (by omega)
      unfold fstB
      rw [decide_eq_false_iff_not, e1]
      intro hall
      refine hall (g (s - 1)).toNat ?_ ?_
      · rcases h6 with h6 | ⟨_, h6⟩ <;> omega
      · rw [show (((g (s - 1)).toNat : Nat) : Int) = g (s - 1) by omega]; exact hz
/-- The numbers of those that are so. -/
def fstL (p : Nat → Bool) : Nat → List Int
  | 0 => []
  | m + 1 => if p m then fstL p m ++ [(m : Int)] else fstL p m
theorem fstL_len (p : Nat → Bool) (m : Nat) : (fstL p m).length ≤ m := by
  induction m with
  | zero => simp [fstL]
  | succ m ih =>
    simp only [fstL]
    split
    · rw [List.length_append, List.length_singleton]; omega
    · omega
theorem fstL_mem (p : Nat → Bool) (m : Nat) (z : Int) : z ∈ fstL p m ↔ ∃ j : Nat, j < m ∧ z = (j : Int) ∧ p j = true := by
  induction m with
  | zero => simp [fstL]
  | succ m ih =>
    simp only [fstL]
    split
    · rename_i hp
      rw [List.mem_append, ih]
      constructor
      · rintro (⟨j, h1, h2, h3⟩ | h)
        · exact ⟨j, by omega, h2, h3⟩
        · exact ⟨m, by omega, by simpa using h, hp⟩
      · rintro ⟨j, h1, h2, h3⟩
        by_cases hj : j = m
        · right; rw [h2, hj]; simp
        · left; exact ⟨j, by omega, h2, h3⟩
    · rename_i hp
      rw [ih]
      constructor
      · rintro ⟨j, h1, h2, h3⟩
        exact ⟨j, by omega, h2, h3⟩
      · rintro ⟨j, h1, h2, h3⟩
        by_cases hj : j = m
        · rw [hj] at h3; exact absurd h3 hp
        · exact ⟨j, by omega, h2, h3⟩
theorem gI_mem {l : List Int} {t : Nat} (h : t < l.length) : gI l t ∈ l := by
  unfold gI
  rw [List.getElem?_eq_getElem h, Option.getD_some]
  exact List.getElem_mem h
theorem fstL_at (p : Nat → Bool) {m t : Nat} (h : t < (fstL p m).length) : ∃ j : Nat, j < m ∧ gI (fstL p m) t = (j : Int) ∧ p j = true := (fstL_mem p m _).1 (gI_mem h)
theorem mem_gI {l : List Int} {z : Int} (h : z ∈ l) : ∃ t, t < l.length ∧ gI l t = z := by
  obtain ⟨t, ht, e⟩ := List.getElem_of_mem h
  exact ⟨t, ht, by unfold gI; rw [List.getElem?_eq_getElem ht, Option.getD_some, e]⟩
/-- In each kind there is a first one. -/
theorem first_of {c : Int → Int → Int} (F : Ord c) (i : Nat) : ∀ j : Nat, j ≤ i → c (j : Int) (i : Int) = 0 → ∃ k : Nat, k ≤ j ∧ c (k : Int) (i : Int) = 0 ∧ fstB c k = true := by
  intro j
  induction j using Nat.strongRecOn with
  | ind j ih =>
    intro hj hz
    by_cases hf : fstB c j = true
    · exact ⟨j, Nat.le_refl _, hz, hf⟩
    · have : ∃ t, t < j ∧ c (t : Int) (j : Int) = 0 := by
        apply Classical.byContradiction
        intro hn
        refine hf ?_
        unfold fstB
        rw [decide_eq_true_eq]
        intro t ht he
        exact hn ⟨t, ht, he⟩
      obtain ⟨t, ht, he⟩ := this
      obtain ⟨k, h1, h2, h3⟩ := ih t ht (by omega) (by rw [F.alike he]; exact hz)
      exact ⟨k, by omega, h2, h3⟩
theorem there_is {c : Int → Int → Int} (F : Ord c) (i : Nat) : decide (∃ t, t < (fstL (fstB c) i).length ∧ c (i : Int) (gI (fstL (fstB c) i) t) = 0) = !(fstB c i) := by
  by_cases hf : fstB c i = true
  · rw [hf, Bool.not_true, decide_eq_false_iff_not]
    rintro ⟨t, ht, he⟩
    obtain ⟨j, hj, e, _⟩ := fstL_at _ ht
    unfold fstB at hf
    rw [decide_eq_true_eq] at hf
    refine hf j hj ?_
    rw [e] at he
    have := F.anti (i : Int) (j : Int)
    omega
  · have hf0 : fstB c i = false := by simpa using hf
    rw [hf0, Bool.not_false, decide_eq_true_eq]
    unfold fstB at hf0
    rw [decide_eq_false_iff_not] at hf0
    have : ∃ j, j < i ∧ c (j : Int) (i : Int) = 0 := by
      apply Classical.byContradiction
      intro hn
      exact hf0 fun j hj he => hn ⟨j, hj, he⟩
    obtain ⟨j, hj, he⟩ := this
    obtain ⟨k, h1, h2, h3⟩ := first_of F i j (by omega) he
    obtain ⟨t, ht, e⟩ := mem_gI ((fstL_mem (fstB c) i (k : Int)).2 ⟨k, by omega, rfl, h3⟩)
    refine ⟨t, ht, ?_⟩
    rw [e]
    have := F.anti (k : Int) (i : Int)
    omega
theorem byI_full (n : Nat) (cs : List Ce) (M : Nat) : Ord (byI n cs M) := (ord_list (ord_cell (ord_arr n))).pull (fun x => ikC cs M x)
theorem byJ_full (n : Nat) (cs : List Ce) (M : Nat) : Ord (byJ n cs M) := (ord_list (ord_cell (ord_arr n))).flip.pull (fun x => ikC cs M x)
end Go.Proofs.Ytimkcpbgnoekcaa
namespace Go.Proofs.Ytimkcpbgnoekcaa
open Go.ChangeShapes Go.WideShapes Go.ChangeAt Go.RowKit
set_option linter.unusedVariables false
set_option maxRecDepth 100000
/-- A row of the call's own, which may be written. -/
def Own1 (w w' : World) (a : Option Addr) (cap : Nat) (l : List Int) : Prop := l.length ≤ cap ∧ (0 < l.length → ∃ g, a = some ⟨g, 0, none⟩ ∧ w.heap.size ≤ g ∧ g < w'.heap.size ∧ SoftC w' g l) ∧ Row w.heap.size w' a l
theorem own1_of {w w' : World} {v : Value} {l : List Int} (hl : l.length ≤ 16384) (h : w'.ownsRow w.heap.size 3 1 v l.length (l.map (Value.int .i64))) : ∃ a cap, v = .slice a l.length cap ∧ Own1 w w' a cap l := by
  obtain ⟨a, cap, rfl, hc⟩ := owns_cap h
  obtain ⟨a', cap', he, RR⟩ := owns_rowE l (by omega) h
  simp only [Value.slice.injEq] at he
  obtain ⟨rfl, -, rfl⟩ := he
  refine ⟨a, cap, rfl, hc, fun h0 => ?_, RR⟩
  obtain ⟨g, cp, hg, h1, h2⟩ := owns_form1' h h0
  simp only [Value.slice.injEq] at hg
  obtain ⟨rfl, -, rfl⟩ := hg
  exact ⟨g, rfl, h1, h2, owns_softC rfl h⟩
set_option maxHeartbeats 4000000 in
theorem clone_any {lo : Nat} (l : List Int) (a : Option Addr) (cap : Nat) (w : World) (R : Row lo w a l) (hl : l.length ≤ 16) :
    Calls Try.prog 57 #[.slice a l.length cap] w fun e w' => (∃ a' cap', e = .returned (.slice a' l.length cap') ∧ Own1 w w' a' cap' l) ∧ Below w.heap.size w w' := by
  obtain ⟨i3, hi3, hz30, hz31, hz32⟩ := infoI3
  cases a with
  | none =>
    have h0 : l = [] := by
      rcases R.2 with h | ⟨b, o, h, -⟩
      · exact h
      · cases h
    subst h0
    have HO : Hid (Own1 w w none 0 []) := ⟨by simp, fun h => by simp at h, row_nil _ _ _⟩
    clear R
    simp only [List.length_nil]
    have hq : ∀ W, (binOp .eql 22 (.slice none 0 cap) (.slice none 0 0)).run Try.prog W = .ok (.bool true) W := fun W => Go.Lib.run_eql_slice_nil W 22 3 none 0 cap 0 0 Try.underlying22
    go_enter Try.func57, Try.ntmps57
    go_wp2
    go_ret
    exact ⟨⟨_, _, rfl, HO.out⟩, Below.refl _ _⟩
  | some p =>
    obtain ⟨W2, e2⟩ : ∃ W2, w.alloc (.cells #[] 3) = W2 := ⟨_, rfl⟩
    have B2 : Below w.heap.size w W2 := by rw [← e2]; exact one_alloc _ _
    have HO : Hid (W2.ownsRow w.heap.size 3 1 (.slice (some ⟨w.heap.size, 0, none⟩) 0 0) 0 []) := by
      have := World.ownsRow_lit (base := w.heap.size) (e := 3) (size := 1) w #[] 0 (Nat.le_refl _) (by unfold maxLen; omega) rfl
      rw [e2] at this
      exact this
    have HL := hide (R.next B2).lies
    have hsl : (l.map (Value.int .i64)).length = l.length * 1 := by rw [List.length_map]; omega
    have HB2 := hide B2
    have HLL := hide hl
    obtain ⟨L, hL⟩ : ∃ L, l.length = L := ⟨_, rfl⟩
    rw [hL] at hl hsl ⊢
    have HLE := hide hL
    clear R B2 hL
    have hq : ∀ W, (binOp .eql 22 (.slice (some p) L cap) (.slice none 0 0)).run Try.prog W = .ok (.bool false) W := fun W => Go.Lib.run_eql_slice_nil W 22 3 (some p) L cap 0 0 Try.underlying22
    go_enter Try.func57, Try.ntmps57
    go_wp2_with (at_builtin; refine wpList_append_any rfl _ _ 22 rfl w.heap.size 3 i3 (.int .i64 0) 1 8 Try.underlying22 hi3 hz30 hz31 hz32 rfl (by decide) (.slice (some ⟨w.heap.size, 0, none⟩) 0 0) 0 [] rfl HO.out (some p) L cap (l.map (Value.int .i64)) rfl hsl HL.out ?c3 ?c4 HB2.out.size ?_)
    case c3 => unfold maxLen; omega
    case c4 => omega
    intro v' w3 hown hb
    have hown' : w3.ownsRow w.heap.size 3 1 v' l.length (l.map (Value.int .i64)) := by rw [HLE.out]; simpa using hown
    obtain ⟨a', cap', rfl, ho⟩ := own1_of (by rw [HLE.out]; omega) hown'
    rw [HLE.out]
    have HF := hide (And.intro ho (HB2.out.trans hb))
    clear hown hown' hb ho HL hsl
    go_wp2
    go_ret
    exact ⟨⟨_, _, rfl, HF.out.1⟩, HF.out.2⟩
/-- As GivesZ; the answer's slices are no longer than their rows. -/
def GivesK (n : Nat) (w0 : World) (x : Ar) (w : World) (e : Ending) (w' : World) : Prop := (∃ v, e = .returned v ∧ Caps v ∧ ∀ W, Below w0.heap.size w0 W → Keeps w.heap.size w' W → ArIn n 0 W x v) ∧ Below w.heap.size w w'
def lstA (x : Ar) : Ar := if x.shape.length = 0 then .mk [1] x.cells else x
end Go.Proofs.Ytimkcpbgnoekcaa
namespace Go.Proofs.Ytimkcpbgnoekcaa
open Go.ChangeShapes Go.WideShapes Go.ChangeAt Go.RowKit
set_option linter.unusedVariables false
set_option maxRecDepth 100000
theorem drop_size {y : Ar} (hy : chkA 8 y = 0) (hS : 0 < y.shape.length) {D L : Nat} (hD : gI y.shape 0 = (D : Int)) (hL : L ≤ D) : sizeE (y.shape.set 0 (L : Int)) = 0 := by
  obtain ⟨d, t, hdt⟩ : ∃ d t, y.shape = d :: t := by
    cases hsh : y.shape with
    | nil => rw [hsh] at hS; simp at hS
    | cons d t => exact ⟨d, t, rfl⟩
  have ed : d = (D : Int) := by rw [← hD, hdt]; rfl
  obtain ⟨h1, -, -, -⟩ := (chkA_iff 8 y).1 hy
  rw [hdt] at h1 ⊢
  rw [List.set_cons_zero]
  obtain ⟨l8, g2, g3⟩ := fine_cases h1
  refine (fine_mk (l := (L : Int) :: t) (by simpa using l8) (fun z hz => ?_) ?_).1
  · rcases List.mem_cons.1 hz with h | h
    · omega
    · exact g2 z (List.mem_cons.2 (Or.inr h))
  · by_cases hL0 : L = 0
    · left; exact ⟨_, List.mem_cons_self, by omega⟩
    · rcases g3 with ⟨⟨z, hz, hz0⟩, -⟩ | ⟨hp, hle, -⟩
      · left
        rcases List.mem_cons.1 hz with h | h
        · omega
        · exact ⟨z, List.mem_cons.2 (Or.inr h), hz0⟩
      · right
        have e1 : prodL (d :: t) = d * prodL t := rfl
        have e2 : prodL ((L : Int) :: t) = (L : Int) * prodL t := rfl
        have pt := prodL_pos (l := t) fun z hz => hp z (List.mem_cons.2 (Or.inr hz))
        have := Int.mul_le_mul_of_nonneg_right (show (L : Int) ≤ d by omega) (show (0 : Int) ≤ prodL t by omega)
        rw [e1] at hle
        rw [e2]; omega
end Go.Proofs.Ytimkcpbgnoekcaa
namespace Go.Proofs.Ytimkcpbgnoekcaa
open Go.ChangeShapes Go.WideShapes Go.ChangeAt Go.RowKit
set_option linter.unusedVariables false
set_option maxRecDepth 100000
theorem field25 (a1 a2 : Option Addr) (n1 c1 n2 c2 : Nat) (W : World) : (Instr.field 25 (.agg #[.slice a1 n1 c1, .slice a2 n2 c2]) 1).run Try.prog W = .ok (.slice a2 n2 c2) W := by
  simp [Instr.field, run_underlying Try.underlying25, asAgg, part, sizeOf, typeInfo]
end Go.Proofs.Ytimkcpbgnoekcaa
namespace Go.Proofs.Ytimkcpbgnoekcaa
open Go.ChangeShapes Go.WideShapes Go.ChangeAt Go.RowKit
set_option linter.unusedVariables false
set_option maxRecDepth 100000
theorem heap_top (V : World) (o : Obj) : (V.alloc o).heap[V.heap.size]? = some o := by rw [show (V.alloc o).heap = V.heap.push o from rfl]; exact Array.getElem?_push_size
theorem grown_refl (w : World) (r : Option Nat) : w.grownBy w r := ⟨rfl, rfl, rfl, Nat.le_refl _, fun _ _ _ => rfl⟩
theorem run_append_grown {P : Program} {w : World} (base : Nat) (t ty e : TypeId) (i : TypeInfo) (z : Value) (size bytes : Nat) (ht : P.underlying t = some (.slice e)) (hi : P.info? e = some i) (hz : i.zero = some z)
    (hsize : i.size = size) (hby : i.bytes = bytes) (hzs : z.cells.size = size) (hsz : 0 < size)
    (v : Value) (n : Nat) (xs : List Value) (hown : w.ownsRow base e size v n xs)
    (ad : Option Addr) (m c : Nat) (news : List Value) (hl : news.length = m * size) (hnews : Lies w ad news)
    (h63 : n + m ≤ maxLen) (hbytes : (n + m) * bytes ≤ 140737488355328) (hbase : base ≤ w.heap.size) :
    ∃ v' w', (Builtin.append_ #[t, t] ty #[v, .slice ad m c]).run P w = .ok v' w' ∧ w'.ownsRow base e size v' (n + m) (xs ++ news) ∧ w.grownBy w' v.ownBlock := by
  cases ad with
  | none =>
    have hn : news = [] := by
      rcases hnews.1 with h | ⟨p, hp, -⟩
      · exact h
      · cases hp
    subst hn
    have hm : m = 0 := by
      rcases Nat.eq_zero_or_pos m with h | h
      · exact h
      · have := Nat.mul_pos h hsz; simp at hl; omega
    subst hm
    exact ⟨v, w, run_append_none_any base t ty e i size ht hi v n c xs hown, by simpa using hown, grown_refl _ _⟩
  | some p =>
    have hc : ∀ j u, news[j]? = some u → w.cell? (p.add j) = some u := by
      rcases hnews.1 with h | ⟨q, hq, -, h⟩
      · subst h; intro j u hj; simp at hj
      · cases hq; exact h
    obtain ⟨v', w', hr, h2, h3, -⟩ := run_append_own (P := P) w base t ty e i z size bytes ht hi hz hsize hby hzs hsz v n xs hown p m c news hl hc hnews.2 h63 hbytes hbase
    exact ⟨v', w', hr, h2, h3⟩
theorem step_append_grown {P : Program} {w : World} {ops : Array Oper} {o : Oper} {a : Act} {K : Act → World → Prop} {Q : Exit → Act → World → Prop} {E : Prop} (hg : o.guard = none) (s x : Operand) (t : TypeId)
    (ho : o.op = .call { callee := .builtin .append, args := #[s, x], argTypes := #[t, t] })
    (base : Nat) (e : TypeId) (i : TypeInfo) (z : Value) (size bytes : Nat) (ht : P.underlying t = some (.slice e)) (hi : P.info? e = some i) (hz : i.zero = some z)
    (hsize : i.size = size) (hby : i.bytes = bytes) (hzs : z.cells.size = size) (hsz : 0 < size)
    (v : Value) (n : Nat) (xs : List Value) (hs : a.eval s = v) (hown : w.ownsRow base e size v n xs)
    (ad : Option Addr) (m c : Nat) (news : List Value) (hx : a.eval x = .slice ad m c) (hl : news.length = m * size) (hnews : Lies w ad news)
    (h63 : n + m ≤ maxLen) (hbytes : (n + m) * bytes ≤ 140737488355328) (hbase : base ≤ w.heap.size)
    (h : ∀ v' w', w'.ownsRow base e size v' (n + m) (xs ++ news) → w.grownBy w' v.ownBlock → K (a.put o.dst v') w') : if Region.wanted o (yielded ops a.tmps) = true then Oper.wp P o a w K Q else E := by
  have hw : Region.wanted o (yielded ops a.tmps) = true := by simp [Region.wanted, hg]
  rw [if_pos hw]
  obtain ⟨v', w', hr, h2, h3⟩ := run_append_grown base t o.type e i z size bytes ht hi hz hsize hby hzs hsz v n xs hown ad m c news hl hnews h63 hbytes hbase
  unfold Oper.wp execOp
  simp only [ho, resolve, invoke, builtin, Sem.run_bind, Sem.run_pure, Result.andThen_ok, List.map_toArray, List.map_cons, List.map_nil, hs, hx, hr]
  exact h v' w' h2 h3
theorem own_ne {w : World} {base n gb cl k : Nat} {xs : List Value} {cs : Array Value} {fl : Nat × Nat} (h : w.ownsRow base 3 1 (.slice (some ⟨gb, 0, none⟩) n cl) n xs) (hk : w.heap[k]? = some (.cells cs 25 fl)) : gb ≠ k := by
  rcases h.2 with ⟨h, -⟩ | ⟨g, cap, cur, hv, -, hg, -⟩
  · cases h
  · simp only [Value.slice.injEq, Option.some.injEq, Addr.mk.injEq, and_true, true_and] at hv
    rintro rfl
    rw [← hv.1, hk] at hg
    simp at hg
/-- An array, a cell, and the room for what is given back. -/
structure InF (w : World) (v0 v1 : Value) (fk fN : Int) (W : World) : Prop where
  base : In3 w v0 v1 (.int .i64 fk) (.int .i64 fN) W
  r2 : W.cell? ⟨w.heap.size + 1, 2, none⟩ = some (.slice none 0 0)
theorem InF.belowS {w W W' : World} {v0 v1 : Value} {fk fN : Int} {B : Nat} (h : InF w v0 v1 fk fN W) (hb : Below B W W') (hB : w.heap.size + 3 ≤ B) : InF w v0 v1 fk fN W' :=
  ⟨h.base.belowS hb hB, (hb.cell (p := ⟨w.heap.size + 1, 2, none⟩) (by show w.heap.size + 1 < _; omega)).trans h.r2⟩
theorem InF.next {w W W' : World} {v0 v1 : Value} {fk fN : Int} (h : InF w v0 v1 fk fN W) (hb : Below W.heap.size W W') : InF w v0 v1 fk fN W' := h.belowS hb h.base.size
theorem inF_new (w : World) (v0 v1 : Value) (fk fN : Int) : InF w v0 v1 fk fN (((w.alloc (.cells #[v0, v1] 25)).alloc (.cells #[.int .i64 fk, .int .i64 fN, .slice none 0 0] 39)).alloc (.cells #[.slice none 0 0, .slice none 0 0] 25)) := by
  have B2 := two_allocs w (.cells #[v0, v1] 25) (.cells #[.int .i64 fk, .int .i64 fN, .slice none 0 0] 39)
  have z2 := size_two w (.cells #[v0, v1] 25) (.cells #[.int .i64 fk, .int .i64 fN, .slice none 0 0] 39)
  have B3 := one_alloc ((w.alloc (.cells #[v0, v1] 25)).alloc (.cells #[.int .i64 fk, .int .i64 fN, .slice none 0 0] 39)) (.cells #[.slice none 0 0, .slice none 0 0] 25)
  have n0 := cell_new0 ((w.alloc (.cells #[v0, v1] 25)).alloc (.cells #[.int .i64 fk, .int .i64 fN, .slice none 0 0] 39)) #[.slice none 0 0, .slice none 0 0] 25 0 _ rfl
  have n1 := cell_new0 ((w.alloc (.cells #[v0, v1] 25)).alloc (.cells #[.int .i64 fk, .int .i64 fN, .slice none 0 0] 39)) #[.slice none 0 0, .slice none 0 0] 25 1 _ rfl
  have nf := fun i => frozen_new ((w.alloc (.cells #[v0, v1] 25)).alloc (.cells #[.int .i64 fk, .int .i64 fN, .slice none 0 0] 39)) #[.slice none 0 0, .slice none 0 0] 25 i
  rw [z2] at n0 n1 nf
  refine ⟨⟨B2.trans (B3.mono (by omega)), by simp, ?_, ?_, ?_, ?_, n0, n1, nf 0, nf 1⟩, ?_⟩
  · exact (B3.cell (p := ⟨w.heap.size, 0, none⟩) (by show w.heap.size < _; omega)).trans (cell_new1 w _ 25 (0, 0) _ 0 _ rfl)
  · exact (B3.cell (p := ⟨w.heap.size, 1, none⟩) (by show w.heap.size < _; omega)).trans (cell_new1 w _ 25 (0, 0) _ 1 _ rfl)
  · exact (B3.cell (p := ⟨w.heap.size + 1, 0, none⟩) (by show w.heap.size + 1 < _; omega)).trans (cell_new2 w _ 39 (0, 0) _ 0 _ rfl)
  · exact (B3.cell (p := ⟨w.heap.size + 1, 1, none⟩) (by show w.heap.size + 1 < _; omega)).trans (cell_new2 w _ 39 (0, 0) _ 1 _ rfl)
  · exact (B3.cell (p := ⟨w.heap.size + 1, 2, none⟩) (by show w.heap.size + 1 < _; omega)).trans (cell_new2 w _ 39 (0, 0) _ 2 _ rfl)
/-- Some items of an array, by their numbers; filling cells where there is none. -/
def itC (x : Ar) (m : Nat) (wh : List Int) (fk fN : Int) (p : Nat) : Ce := if 0 ≤ gI wh (p / m) then cAt x.cells ((gI wh (p / m)).toNat * m + p % m) else (fk, fN, [])
def itmsA (x : Ar) (m : Nat) (wh : List Int) (fk fN : Int) : Ar := .mk ((wh.length : Int) :: x.shape.tail) (mkCs (wh.length * m) (itC x m wh fk fN))
def itT (cs : List Ce) (ab : Nat → Option Addr) (cb : Nat → Nat) (m : Nat) (wh : List Int) (fk fN : Int) (p : Nat) : Value × Value × Value := if 0 ≤ gI wh (p / m) then cellT cs ab cb ((gI wh (p / m)).toNat * m + p % m) else (.int .i64 fk, .int .i64 fN, .slice none 0 0)
theorem div_at {t m q : Nat} (hq : q < m) : (t * m + q) / m = t ∧ (t * m + q) % m = q := by
  have hm : 0 < m := by omega
  refine ⟨?_, ?_⟩
  · rw [Nat.mul_comm, Nat.mul_add_div hm, Nat.div_eq_of_lt hq, Nat.add_zero]
  · rw [Nat.mul_comm, Nat.mul_add_mod, Nat.mod_eq_of_lt hq]
end Go.Proofs.Ytimkcpbgnoekcaa
namespace Go.Proofs.Ytimkcpbgnoekcaa
open Go.ChangeShapes Go.WideShapes Go.ChangeAt Go.RowKit
set_option linter.unusedVariables false
set_option maxRecDepth 100000
theorem sizeV_nat (l : List Int) : ∃ m : Nat, sizeV l = (m : Int) ∧ m ≤ 16384 := by
  by_cases h : 8 < l.length ∨ hasNeg l ∨ hasZero l ∨ 16384 < prodL l
  · exact ⟨0, by unfold sizeV; rw [if_pos h]; rfl, by omega⟩
  · have h1 : ¬ hasNeg l := fun g => h (Or.inr (Or.inl g))
    have h2 : ¬ hasZero l := fun g => h (Or.inr (Or.inr (Or.inl g)))
    have h3 : ¬ 16384 < prodL l := fun g => h (Or.inr (Or.inr (Or.inr g)))
    have := prodL_pos (l := l) fun z hz => all_pos h1 h2 z hz
    refine ⟨(prodL l).toNat, ?_, by omega⟩
    unfold sizeV; rw [if_neg h]; omega
theorem sizeV_zero {l : List Int} (h : hasZero l) : sizeV l = 0 := by unfold sizeV; rw [if_pos (Or.inr (Or.inr (Or.inl h)))]
theorem size_cons {d : Int} {t : List Int} (h : sizeE (d :: t) = 0) (hd : 0 < d) : sizeV (d :: t) = d * sizeV t := by
  obtain ⟨h8, hp, hc⟩ := fine_cases h
  rcases hc with ⟨hz, hv⟩ | ⟨hq, hm, hv⟩
  · rw [hv, sizeV_zero (l := t) ?_, Int.mul_zero]
    obtain ⟨z, hz, hz0⟩ := hz
    rcases List.mem_cons.1 hz with rfl | hz
    · omega
    · exact ⟨z, hz, hz0⟩
  · have pt := prodL_pos (l := t) fun z hz => hq z (List.mem_cons_of_mem _ hz)
    have e : prodL (d :: t) = d * prodL t := rfl
    have hle : prodL t ≤ 16384 := by
      have := Int.mul_le_mul_of_nonneg_right (show (1 : Int) ≤ d by omega) (show 0 ≤ prodL t by omega)
      rw [Int.one_mul, ← e] at this; omega
    rw [hv, e, (fine_mk (l := t) (by simp at h8; omega) (fun z hz => hp z (List.mem_cons_of_mem _ hz)) (Or.inr hle)).2]
/-- An item's cells lie inside. -/
theorem item_le {y : Ar} (hy : chkA 8 y = 0) (hS : 0 < y.shape.length) {D m j : Nat} (hD : gI y.shape 0 = (D : Int)) (hm : sizeV y.shape.tail = (m : Int)) (hj : j < D) : j * m + m ≤ y.cells.length ∧ y.cells.length = D * m := by
  obtain ⟨h1, h2, -⟩ := (chkA_iff 8 y).1 hy
  obtain ⟨d, t, hdt⟩ : ∃ d t, y.shape = d :: t := by
    cases hsh : y.shape with
    | nil => rw [hsh] at hS; simp at hS
    | cons d t => exact ⟨d, t, rfl⟩
  have ed : d = (D : Int) := by rw [← hD, hdt]; rfl
  rw [hdt] at h1 h2 hm
  rw [size_cons h1 (by omega), ed, show sizeV t = (m : Int) from hm] at h2
  have e : y.cells.length = D * m := by
    have : ((D * m : Nat) : Int) = (y.cells.length : Int) := by rw [Int.natCast_mul]; omega
    omega
  refine ⟨?_, e⟩
  have := Nat.mul_le_mul_right m (show j + 1 ≤ D by omega)
  rw [Nat.succ_mul] at this
  omega
theorem mkCs_congr {N : Nat} {f g : Nat → Ce} (h : ∀ p, p < N → f p = g p) : mkCs N f = mkCs N g := List.map_congr_left fun p hp => h p (List.mem_range.1 hp)
/-- The items by their numbers are the array along its first axis. -/
theorem items_along {y : Ar} (hS : 0 < y.shape.length) {D m : Nat} (hm : sizeV y.shape.tail = (m : Int)) {l : List Int} (hl : ∀ i, i < l.length → 0 ≤ gI l i) (hE : sizeE ((l.length : Int) :: y.shape.tail) = 0) (fk fN : Int) : itmsA y m l fk fN = alongA y 0 l := by
  have hset : y.shape.set 0 (l.length : Int) = (l.length : Int) :: y.shape.tail := by
    cases hsh : y.shape with
    | nil => rw [hsh] at hS; simp at hS
    | cons d t => rfl
  have hd : y.shape.drop (0 + 1) = y.shape.tail := by rw [Nat.zero_add, List.drop_one]
  have hN : (sizeV ((l.length : Int) :: y.shape.tail)).toNat = l.length * m := by
    rcases Nat.eq_zero_or_pos l.length with h0 | h0
    · rw [h0, sizeV_zero (l := ((0 : Nat) : Int) :: y.shape.tail) ⟨_, List.mem_cons_self, rfl⟩]; simp
    · rw [size_cons hE (by omega), hm, ← Int.natCast_mul, Int.toNat_natCast]
  unfold itmsA alongA
  rw [hset, hd, hm, Int.toNat_natCast, hN]
  congr 1
  refine mkCs_congr fun p hp => ?_
  have hm0 : 0 < m := by
    rcases Nat.eq_zero_or_pos m with h | h
    · rw [h] at hp; simp at hp
    · exact h
  have hd : p / m < l.length := Nat.div_lt_of_lt_mul (by rw [Nat.mul_comm]; exact hp)
  unfold itC alongQ
  rw [if_pos (hl _ hd), Nat.div_eq_of_lt hd, Nat.mod_eq_of_lt hd, Nat.zero_mul, Nat.zero_add]
end Go.Proofs.Ytimkcpbgnoekcaa
namespace Go.Proofs.Ytimkcpbgnoekcaa
open Go.ChangeShapes Go.WideShapes Go.ChangeAt Go.RowKit
set_option linter.unusedVariables false
set_option maxRecDepth 100000
def Gives2K (n : Nat) (w0 : World) (x : Ar) (E : Int) (w : World) (e : Ending) (w' : World) : Prop := (∃ v, e = .returned (.tuple #[v, .int .i64 E]) ∧ Caps v ∧ ∀ W, Below w0.heap.size w0 W → Keeps w.heap.size w' W → ArIn n 0 W x v) ∧ Below w.heap.size w w'
theorem gives2k_of {n : Nat} {x : Ar} {E : Int} {w0 w w' : World} {v : Value} {R : Ar × Int} (hR : R = (x, E)) (hc : Caps v) (hx : ∀ W, Below w0.heap.size w0 W → Keeps w.heap.size w' W → ArIn n 0 W x v) (hb : Below w.heap.size w w') : Gives2K n w0 R.1 R.2 w (.returned (.tuple #[v, .int .i64 E])) w' := by
  subst hR
  exact ⟨⟨_, rfl, hc, hx⟩, hb⟩
end Go.Proofs.Ytimkcpbgnoekcaa
namespace Go.Proofs.Ytimkcpbgnoekcaa
open Go.ChangeShapes Go.WideShapes Go.ChangeAt Go.RowKit
set_option linter.unusedVariables false
set_option maxRecDepth 100000
theorem alongQ_lt {r : Nat} {x : Ar} (h : chkA r x = 0) {k : Nat} {l : List Int} (hk : k < x.shape.length) (hin : ∀ i, i < l.length → 0 ≤ gI l i ∧ gI l i < gI x.shape k) (hs : sizeE (x.shape.set k (l.length : Int)) = 0) (i : Nat) (hi : i < (sizeV (x.shape.set k (l.length : Int))).toNat) :
    alongQ (gI x.shape k).toNat (sizeV (x.shape.drop (k + 1))).toNat l.length (fun i => (gI l i).toNat) i < x.cells.length := by
  obtain ⟨A, D, wd, hD, hwd, hw0, hL0, hNA, hCAA, -, -, -⟩ := along_facts h hk hs (fun h0 => by have := hin 0 h0; omega) (by omega)
  rw [hD, hwd, Int.toNat_natCast, Int.toNat_natCast]
  rw [hNA, Int.toNat_natCast] at hi
  have hM0 : 0 < l.length * wd := Nat.mul_pos hL0 hw0
  have hr : i / (l.length * wd) < A := by rw [Nat.div_lt_iff_lt_mul hM0]; exact hi
  have hj : i % (l.length * wd) / wd < l.length := by rw [Nat.div_lt_iff_lt_mul hw0]; exact Nat.mod_lt _ hM0
  have hq : i % (l.length * wd) % wd < wd := Nat.mod_lt _ hw0
  have e1 : i = (i / (l.length * wd) * l.length + i % (l.length * wd) / wd) * wd + i % (l.length * wd) % wd := by
    have h1 := Nat.div_add_mod i (l.length * wd)
    have h2 := Nat.div_add_mod (i % (l.length * wd)) wd
    rw [Nat.add_mul, Nat.mul_assoc, Nat.mul_comm (i / (l.length * wd)), Nat.mul_comm (i % (l.length * wd) / wd)]
    omega
  rw [e1, alongQ_at D wd l.length (fun i => (gI l i).toNat) _ _ _ hj hq]
  have h1 := hin _ hj
  rw [hD] at h1
  have a1 : ((gI l (i % (l.length * wd) / wd)).toNat + 1) * wd ≤ D * wd := Nat.mul_le_mul_right _ (by omega)
  have a2 : (i / (l.length * wd) + 1) * (D * wd) ≤ A * (D * wd) := Nat.mul_le_mul_right _ hr
  rw [Nat.add_mul, Nat.one_mul] at a1 a2
  omega
theorem alongA_cells {r : Nat} {x : Ar} (h : chkA r x = 0) {k : Nat} {l : List Int} (hk : k < x.shape.length) (hin : ∀ i, i < l.length → 0 ≤ gI l i ∧ gI l i < gI x.shape k) (hs : sizeE (x.shape.set k (l.length : Int)) = 0) : ((alongA x k l).cells.length : Int) = sizeV (x.shape.set k (l.length : Int)) ∧ ∀ i, i < (alongA x k l).cells.length → ∃ j, j < x.cells.length ∧ cAt (alongA x k l).cells i = cAt x.cells j := by
  have hl : (alongA x k l).cells.length = (sizeV (x.shape.set k (l.length : Int))).toNat := by show (mkCs _ _).length = _; rw [mkCs_len]
  have h0 := (sizeV_le hs).1
  refine ⟨by rw [hl]; omega, fun i hi => ?_⟩
  rw [hl] at hi
  refine ⟨_, alongQ_lt h hk hin hs i hi, ?_⟩
  show cAt (mkCs _ _) i = _
  rw [mkCs_at _ _ _ hi]
end Go.Proofs.Ytimkcpbgnoekcaa
namespace Go.Proofs.Ytimkcpbgnoekcaa
open Go.ChangeShapes Go.WideShapes Go.ChangeAt Go.RowKit
set_option linter.unusedVariables false
set_option maxRecDepth 100000
theorem hadZero_nil (h : hasZero []) : False := by obtain ⟨z, hz, -⟩ := h; simp at hz
/-- An atom that may be has one cell. -/
theorem atom_one {r : Nat} {x : Ar} (h : chkA r x = 0) (h0 : x.shape.length = 0) : x.shape = [] ∧ x.cells.length = 1 := by
  have e : x.shape = [] := List.eq_nil_of_length_eq_zero h0
  obtain ⟨-, h1, h2⟩ := chk_axes h
  refine ⟨e, ?_⟩
  by_cases hc : x.cells.length = 0
  · have := h2 hc
    rw [e] at this
    exact (hadZero_nil this).elim
  · have := (h1 (by omega)).2
    rw [e] at this
    simp [prodL] at this
    omega
end Go.Proofs.Ytimkcpbgnoekcaa
namespace Go.Proofs.Ytimkcpbgnoekcaa
open Go.ChangeShapes Go.WideShapes Go.ChangeAt Go.RowKit
set_option linter.unusedVariables false
set_option maxRecDepth 100000
theorem lst_facts {y : Ar} (h : chkA 8 y = 0) : chkA 8 (lstA y) = 0 ∧ (lstA y).cells = y.cells ∧ 0 < (lstA y).shape.length := by
  by_cases h0 : y.shape.length = 0
  · have e : lstA y = .mk [1] y.cells := by unfold lstA; rw [if_pos h0]
    obtain ⟨-, h1⟩ := atom_one h h0
    have hf := fine_mk (l := [1]) (by decide) (fun z hz => by simp at hz; omega) (Or.inr (by simp [prodL]))
    rw [e]
    refine ⟨chk_of h hf.1 (by rw [hf.2, h1]; simp [prodL]) ?_ (fun i hi => ⟨i, hi, rfl⟩), rfl, by show 0 < ([1] : List Int).length; simp⟩
    rintro ⟨z, hz, hl⟩
    simp at hz
    omega
  · have e : lstA y = y := by unfold lstA; rw [if_neg h0]
    rw [e]
    exact ⟨h, rfl, by omega⟩
end Go.Proofs.Ytimkcpbgnoekcaa
namespace Go.Proofs.Ytimkcpbgnoekcaa
set_option linter.unusedVariables false
set_option maxRecDepth 100000
/-- How many items, and how many cells each has. -/
def nW (y : Ar) : Nat := (gI y.shape 0).toNat
def mW (y : Ar) : Nat := (sizeV y.shape.tail).toNat
theorem wid {y : Ar} (hy : chkA 8 y = 0) (hS : 0 < y.shape.length) : gI y.shape 0 = (nW y : Int) ∧ sizeV y.shape.tail = (mW y : Int) ∧ nW y * mW y = y.cells.length ∧ nW y ≤ 16384 ∧ mW y ≤ 16384 := by
  have h0 := (chk_axes hy).1 (gI y.shape 0) (getD_mem hS)
  obtain ⟨m, hm, hm2⟩ := sizeV_nat y.shape.tail
  have e1 : gI y.shape 0 = (nW y : Int) := by unfold nW; omega
  have e2 : mW y = m := by unfold mW; omega
  refine ⟨e1, by rw [e2]; exact hm, ?_, by unfold nW; omega, by omega⟩
  rw [e2]
  by_cases hD : nW y = 0
  · rw [hD, Nat.zero_mul]
    by_cases hc : 0 < y.cells.length
    · have := ((chk_axes hy).2.1 hc).1 (gI y.shape 0) (getD_mem hS)
      omega
    · omega
  · exact (item_le hy hS e1 hm (j := 0) (by omega)).2.symm
theorem items_chk {y : Ar} (hy : chkA 8 y = 0) (hS : 0 < y.shape.length) {wh : List Int} (hw : ∀ t, t < wh.length → 0 ≤ gI wh t ∧ gI wh t < (nW y : Int)) (hL : wh.length ≤ nW y) : chkA 8 (itmsA y (mW y) wh 0 0) = 0 := by
  obtain ⟨e1, e2, e3, e4, e5⟩ := wid hy hS
  have hs := drop_size hy hS e1 hL
  obtain ⟨d, t, hdt⟩ : ∃ d t, y.shape = d :: t := by
    cases h : y.shape with
    | nil => rw [h] at hS; simp at hS
    | cons d t => exact ⟨d, t, rfl⟩
  have hset : y.shape.set 0 (wh.length : Int) = (wh.length : Int) :: y.shape.tail := by rw [hdt]; rfl
  rw [items_along (D := nW y) hS e2 (fun i hi => (hw i hi).1) (by rw [← hset]; exact hs) 0 0]
  have hA := alongA_cells hy hS (l := wh) (fun i hi => by rw [e1]; exact hw i hi) hs
  have e : alongA y 0 wh = .mk (y.shape.set 0 (wh.length : Int)) (alongA y 0 wh).cells := rfl
  rw [e]
  refine chk_of hy hs hA.1.symm ?_ hA.2
  have hlong := ((chkA_iff 8 y).1 hy).2.2.1
  rw [hset]
  rintro ⟨z, hz, hzl⟩
  rcases List.mem_cons.1 hz with rfl | hz
  · omega
  · exact hlong ⟨z, List.mem_of_mem_tail hz, hzl⟩
/-- Items each once, items in order, and Mo. -/
def onceW (n : Nat) (y : Ar) : List Int := fstL (fstB (byI n y.cells (mW y))) (nW y)
def onceR (n : Nat) (x : Ar) : Ar := itmsA (lstA x) (mW (lstA x)) (onceW n (lstA x)) 0 0
def byD (down : Bool) (n : Nat) (y : Ar) : Int → Int → Int := if down then byJ n y.cells (mW y) else byI n y.cells (mW y)
def gradR (down : Bool) (n : Nat) (x : Ar) : Ar × Int := if x.shape.length = 0 then (zeroA, 6) else if allK 0 x.cells = false ∧ allK 1 x.cells = false then (zeroA, 5) else (numsA (sortL (byD down n x) (nW x)), 0)
def seekM (n : Nat) (op : Int) (x : Ar) : Ar × Int := if ¬ chkA 8 x = 0 then (zeroA, chkA 8 x) else if op = 12 then gradR false n x else if op = 13 then gradR true n x else if op = 14 then (onceR n x, 0) else (zeroA, 1)
theorem byD_full (down : Bool) (n : Nat) (y : Ar) : Ord (byD down n y) := by
  unfold byD
  cases down
  · exact byI_full _ _ _
  · exact byJ_full _ _ _
theorem byD_ord (down : Bool) (n : Nat) (y : Ar) (N : Nat) : OrdN N (byD down n y) := by
  unfold byD
  cases down
  · exact byI_ord _ _ _ _
  · exact byJ_ord _ _ _ _
theorem onceW_at (n : Nat) (y : Ar) {t : Nat} (h : t < (onceW n y).length) : 0 ≤ gI (onceW n y) t ∧ gI (onceW n y) t < (nW y : Int) := by
  obtain ⟨j, hj, e, _⟩ := fstL_at _ h
  unfold onceW
  omega
theorem onceR_chk {n : Nat} {x : Ar} (hx : chkA 8 x = 0) : chkA 8 (onceR n x) = 0 := by
  obtain ⟨h1, h3, h2⟩ := lst_facts hx
  exact items_chk h1 h2 (fun t ht => onceW_at n _ ht) (fstL_len _ _)
theorem fstL_pre (p : Nat → Bool) {i N : Nat} (hi : i ≤ N) : ∃ r, fstL p N = fstL p i ++ r := by
  induction N with
  | zero => rw [Nat.le_zero.1 hi]; exact ⟨[], by simp⟩
  | succ N ih =>
    by_cases h : i = N + 1
    · rw [h]; exact ⟨[], by simp⟩
    · obtain ⟨r, hr⟩ := ih (by omega)
      simp only [fstL]
      split
      · exact ⟨r ++ [(N : Int)], by rw [hr, List.append_assoc]⟩
      · exact ⟨r, hr⟩
theorem fstL_next (p : Nat → Bool) {i N : Nat} (hi : i < N) (hp : p i = true) : gI (fstL p N) (fstL p i).length = (i : Int) ∧ (fstL p (i + 1)).length = (fstL p i).length + 1 := by
  have e : fstL p (i + 1) = fstL p i ++ [(i : Int)] := by simp only [fstL]; rw [if_pos hp]
  obtain ⟨r, hr⟩ := fstL_pre p (show i + 1 ≤ N from hi)
  refine ⟨?_, by rw [e]; simp⟩
  unfold gI
  rw [hr, e, List.append_assoc, List.getElem?_append_right (Nat.le_refl _)]
  simp
end Go.Proofs.Ytimkcpbgnoekcaa
namespace Go.Proofs.Ytimkcpbgnoekcaa
open Go.ChangeShapes Go.WideShapes Go.ChangeAt Go.RowKit
set_option linter.unusedVariables false
set_option maxRecDepth 100000
theorem keeps_below {lo : Nat} {w w' : World} (h : Below w.heap.size w w') : Keeps lo w w' := ⟨h.size, fun b _ hb => h.block b hb⟩
/-- How the items stand, by the first cells that are unlike. -/
def itF (n : Nat) (y : Ar) (i k : Nat) (j : Nat) : Int := cmpC (cmpA n) (cAt (itemAt y i (mW y)).cells j) (cAt (itemAt y k (mW y)).cells j)
theorem item_len {y : Ar} (hy : chkA 8 y = 0) (hS : 0 < y.shape.length) {i : Nat} (hi : i < nW y) : i * mW y + mW y ≤ y.cells.length ∧ (itemAt y i (mW y)).cells.length = mW y ∧ (itemAt y i (mW y)).cells = ikC y.cells (mW y) (i : Int) := by
  obtain ⟨e1, e2, e3, e4, e5⟩ := wid hy hS
  have h1 := (ikC_len e3 hi)
  refine ⟨h1.1, ?_, ?_⟩
  · show (List.take _ (List.drop _ _)).length = _
    rw [List.length_take, List.length_drop]; omega
  · unfold ikC itemAt; rw [Int.toNat_natCast]; rfl
theorem byI_first {n : Nat} {y : Ar} (hy : chkA 8 y = 0) (hS : 0 < y.shape.length) {i k : Nat} (hi : i < nW y) (hk : k < nW y) : byI n y.cells (mW y) (i : Int) (k : Int) = firstUp (itF n y i k) (mW y) := by
  obtain ⟨-, a1, a2⟩ := item_len hy hS hi
  obtain ⟨-, b1, b2⟩ := item_len hy hS hk
  unfold byI
  rw [← a2, ← b2, ← cmpI_list n _ _ (mW y) a1 b1]
  rfl
theorem ltB_first {n : Nat} {y : Ar} (down : Bool) (hy : chkA 8 y = 0) (hS : 0 < y.shape.length) {i k : Nat} (hi : i < nW y) (hk : k < nW y) : ltB (byD down n y) (i : Int) (k : Int) = if firstUp (itF n y i k) (mW y) ≠ 0 then (decide (firstUp (itF n y i k) (mW y) < 0) != down) else decide ((i : Int) < (k : Int)) := by
  have h := byI_first (n := n) hy hS hi hk
  have hr := (byI_full n y.cells (mW y)).rng (i : Int) (k : Int)
  have ha := (byI_full n y.cells (mW y)).anti (i : Int) (k : Int)
  unfold ltB byD
  cases down
  · simp only [Bool.false_eq_true, if_false]
    rw [← h]
    by_cases hz : byI n y.cells (mW y) (i : Int) (k : Int) = 0
    · rw [if_neg (by simpa using hz), hz]; simp
    · rw [if_pos hz]; simp [hz]
  · simp only [if_true]
    have e : byJ n y.cells (mW y) (i : Int) (k : Int) = byI n y.cells (mW y) (k : Int) (i : Int) := rfl
    rw [e, ha, ← h]
    by_cases hz : byI n y.cells (mW y) (i : Int) (k : Int) = 0
    · rw [if_neg (by simpa using hz), hz]; simp
    · rw [if_pos hz]
      rcases hr with hr | hr | hr
      · rw [hr]; simp
      · exact absurd hr hz
      · rw [hr]; simp
set_option maxHeartbeats 4000000 in
theorem ahead60 {n lo : Nat} {x : Ar} {va : Value} {w : World} (down : Bool) {i k : Nat} (hx : ArIn (n + 1) lo w x va) (hcx : chkA 8 x = 0) (hcap : Caps va) (hS : 0 < x.shape.length) (hi : i < nW x) (hk : k < nW x) :
    Calls Try.prog 60 #[va, .int .i64 (i : Int), .int .i64 (k : Int), .bool down] w fun e w' => e = .returned (.bool (ltB (byD down n x) (i : Int) (k : Int))) ∧ Below w.heap.size w w' := by
  rw [ltB_first down hcx hS hi hk]
  obtain ⟨wdA, wdB, wdC, wdD, wdE⟩ := wid hcx hS
  obtain ⟨lx8, cx16⟩ := chk_len hcx
  obtain ⟨li, ni, -⟩ := item_len hcx hS hi
  obtain ⟨lk, nk, -⟩ := item_len hcx hS hk
  have hi16 : i ≤ 16384 := by omega
  have hk16 : k ≤ 16384 := by omega
  have HC : Hid (∀ W j, Below w.heap.size w W → (j = i ∨ j = k) → Calls Try.prog 19 #[va, .int .i64 (j : Int)] W fun e w' => GivesZ (n + 1) w (itemAt x j (mW x)) W e w') := fun W j h hj => by
    refine ritem_any (i := j) (m := mW x) hx h hS lx8 wdB ?_ cx16 ?_ hcap
    · rcases hj with rfl | rfl <;> assumption
    · rcases hj with rfl | rfl <;> assumption
  have HF : Hid (itF n x i k = fun j => cmpC (cmpA n) (cAt (itemAt x i (mW x)).cells j) (cAt (itemAt x k (mW x)).cells j)) := rfl
  obtain ⟨a1, c1, a2, c2, rfl, -, -⟩ := hx.form
  obtain ⟨F, hF⟩ : ∃ F, itF n x i k = F := ⟨_, rfl⟩
  obtain ⟨M, hM⟩ : ∃ M, mW x = M := ⟨_, rfl⟩
  rw [hF, hM] at HF ⊢
  obtain ⟨RB, hRB⟩ : ∃ RB, (if firstUp F M ≠ 0 then (decide (firstUp F M < 0) != down) else decide ((i : Int) < (k : Int))) = RB := ⟨_, rfl⟩
  rw [hRB]
  have HRB := hide hRB
  clear hRB
  rw [hM] at HC ni nk
  have hM16 : M ≤ 16384 := by omega
  generalize hX : itemAt x i M = X at *
  generalize hY : itemAt x k M = Y at *
  have HCi : Hid (∀ W, Below w.heap.size w W → Calls Try.prog 19 #[.agg #[.slice a1 x.shape.length c1, .slice a2 x.cells.length c2], .int .i64 (i : Int)] W fun e w' => GivesZ (n + 1) w X W e w') := fun W h => by rw [← hX]; exact HC.out W i h (.inl rfl)
  have HCk : Hid (∀ W, Below w.heap.size w W → Calls Try.prog 19 #[.agg #[.slice a1 x.shape.length c1, .slice a2 x.cells.length c2], .int .i64 (k : Int)] W fun e w' => GivesZ (n + 1) w Y W e w') := fun W h => by rw [← hY]; exact HC.out W k h (.inr rfl)
  generalize x.shape.length = SX at *
  generalize x.cells.length = CX at *
  obtain ⟨W1, e1⟩ : ∃ W1, w.alloc (.cells #[.slice a1 SX c1, .slice a2 CX c2] 25) = W1 := ⟨_, rfl⟩
  have b1 : Below w.heap.size w W1 := by rw [← e1]; exact one_alloc _ _
  have z1 : W1.heap.size = w.heap.size + 1 := by rw [← e1]; simp
  have q0 : W1.cell? ⟨w.heap.size, 0, none⟩ = some (.slice a1 SX c1) := by rw [← e1]; exact cell_new0 w _ 25 0 _ rfl
  have q1 : W1.cell? ⟨w.heap.size, 1, none⟩ = some (.slice a2 CX c2) := by rw [← e1]; exact cell_new0 w _ 25 1 _ rfl
  have HQ : Hid (∀ W, Below W1.heap.size W1 W → Below w.heap.size w W ∧ W.cell? ⟨w.heap.size, 0, none⟩ = some (.slice a1 SX c1) ∧ W.cell? ⟨w.heap.size, 1, none⟩ = some (.slice a2 CX c2)) := fun W h => ⟨b1.trans (h.mono b1.size), (h.cell (p := ⟨w.heap.size, 0, none⟩) (by show w.heap.size < _; omega)).trans q0, (h.cell (p := ⟨w.heap.size, 1, none⟩) (by show w.heap.size < _; omega)).trans q1⟩
  have C0 := HCi.out W1 b1
  clear hx hcap hi hk hi16 hk16 wdA wdB wdC wdD wdE lx8 cx16 li lk HC HCi hX hY hF hM b1 z1 hS hcx
  go_enter Try.func60, Try.ntmps60
  go_wp2_with fail
  clear e1
  refine C0.mono ?_
  clear C0 q0 q1
  rintro e w2 ⟨⟨v9, rfl, hv9⟩, hb2⟩
  obtain ⟨p1, k1, p2, k2, rfl, -, -⟩ := (hv9 w2 (HQ.out w2 hb2).1 (Keeps.refl _ _)).form
  rw [ni] at hv9 ⊢
  generalize X.shape.length = SI at *
  obtain ⟨o9, ho9⟩ : ∃ o9, w2.heap.size = o9 := ⟨_, rfl⟩
  obtain ⟨W3, e3⟩ : ∃ W3, w2.alloc (.cells #[.slice p1 SI k1, .slice p2 M k2] 25) = W3 := ⟨_, rfl⟩
  have B3 : Below w2.heap.size w2 W3 := by rw [← e3]; exact one_alloc _ _
  have z3 : W3.heap.size = o9 + 1 := by rw [← e3, ← ho9]; simp
  have r0 : W3.cell? ⟨o9, 1, none⟩ = some (.slice p2 M k2) := by rw [← e3, ← ho9]; exact cell_new0 w2 _ 25 1 _ rfl
  have hb3 : Below W1.heap.size W1 W3 := hb2.trans (B3.mono hb2.size)
  obtain ⟨n3, t0, t1⟩ := HQ.out W3 hb3
  have C1 := HCk.out W3 n3
  have HV9 := hide hv9
  have HB3 := hide (And.intro hb3 (And.intro B3 (And.intro z3 (And.intro r0 hb2))))
  have HE3 := hide (And.intro e3 ho9)
  clear hv9 hb2 B3 z3 r0 hb3 n3 HCk e3 ho9
  go_upto_region 2 with fail
  rw [HE3.out.1, HE3.out.2]
  go_wp2_with fail
  clear t0 t1
  refine C1.mono ?_
  clear C1
  rintro e w4 ⟨⟨v10, rfl, hv10⟩, hb4⟩
  have hb4' : Below W1.heap.size W1 w4 := HB3.out.1.trans (hb4.mono HB3.out.1.size)
  obtain ⟨p3, k3, p4, k4, rfl, -, -⟩ := (hv10 w4 (HQ.out w4 hb4').1 (Keeps.refl _ _)).form
  rw [nk] at hv10 ⊢
  generalize Y.shape.length = SJ at *
  obtain ⟨o10, ho10⟩ : ∃ o10, w4.heap.size = o10 := ⟨_, rfl⟩
  obtain ⟨W5, e5⟩ : ∃ W5, w4.alloc (.cells #[.slice p3 SJ k3, .slice p4 M k4] 25) = W5 := ⟨_, rfl⟩
  have B5 : Below w4.heap.size w4 W5 := by rw [← e5]; exact one_alloc _ _
  have z5 : W5.heap.size = o10 + 1 := by rw [← e5, ← ho10]; simp
  have r1 : W5.cell? ⟨o10, 1, none⟩ = some (.slice p4 M k4) := by rw [← e5, ← ho10]; exact cell_new0 w4 _ 25 1 _ rfl
  have hb35 : Below W3.heap.size W3 W5 := hb4.trans (B5.mono hb4.size)
  have r0 : W5.cell? ⟨o9, 1, none⟩ = some (.slice p2 M k2) := (hb35.cell (p := ⟨o9, 1, none⟩) (by have := HB3.out.2.2.1; show o9 < _; omega)).trans HB3.out.2.2.2.1
  have hb5 : Below W1.heap.size W1 W5 := HB3.out.1.trans (hb35.mono HB3.out.1.size)
  have hbw := (HQ.out W5 hb5).1
  have hw25 : Below w2.heap.size w2 W5 := HB3.out.2.1.trans (hb35.mono HB3.out.2.1.size)
  obtain ⟨s1, s2, s3, s4, hvx, -, hcX⟩ := (HV9.out W5 hbw (keeps_below hw25)).form
  obtain ⟨s5, s6, s7, s8, hvy, -, hcY⟩ := (hv10 W5 hbw (keeps_below B5)).form
  simp only [Value.agg.injEq, Array.mk.injEq, List.cons.injEq, Value.slice.injEq, and_true] at hvx hvy
  rw [← hvx.2.1] at hcX
  rw [← hvy.2.1] at hcY
  obtain ⟨abX, cbX, hfX⟩ := cells_fn hcX
  obtain ⟨abY, cbY, hfY⟩ := cells_fn hcY
  have HFX := hide hfX
  have HFY := hide hfY
  have HB5 := hide (And.intro hbw (And.intro r0 (And.intro r1 (And.intro z5 (show o9 < W5.heap.size by have := hb35.size; have := HB3.out.2.2.1; omega)))))
  have HE5 := hide (And.intro e5 ho10)
  clear hvx hvy hcX hcY hfX hfY hv10 HV9 hb4 hb4' hb35 hb5 hbw hw25 B5 z5 r0 r1 HB3 HE3 HQ e5 ho10 s1 s2 s3 s4 s5 s6 s7 s8
  go_upto_region 3 with fail
  rw [HE5.out.1, HE5.out.2]
  clear HE5
  go_wp2
  go_loopg [11] M (fun g iv wr => ∃ j : Nat, g + j = M ∧ iv = .int .i64 (j : Int) ∧ firstUp F j = 0 ∧ Below W5.heap.size W5 wr)
  case atStart => exact ⟨0, rfl, rfl, rfl, Below.refl _ _⟩
  case round =>
    obtain ⟨j, hg, rfl, hz, hbr⟩ := hrel
    have hh := HB5.out
    have g0 := (hbr.cell (p := ⟨o9, 1, none⟩) hh.2.2.2.2).trans hh.2.1
    have g1 := (hbr.cell (p := ⟨o10, 1, none⟩) (by show o10 < _; omega)).trans hh.2.2.1
    have HBR := hide (hh.1.trans (hbr.mono hh.1.size))
    have HZ := hide hz
    by_cases hlt : j < M
    · have hltz : (j : Int) < (M : Int) := by omega
      obtain ⟨bx, fx, rfl, -, hbx, hcx⟩ := HFX.out (by omega)
      obtain ⟨by', fy, rfl, -, hby, hcy⟩ := HFY.out (by omega)
      obtain ⟨x0, x1, x2, hX⟩ := hcx j (by omega)
      obtain ⟨y0, y1, y2, hY⟩ := hcy j (by omega)
      have HCL : Hid (∀ W, Below wr.heap.size wr W → Calls Try.prog 21 #[.agg #[.int .i64 (cAt X.cells j).1, .int .i64 (cAt X.cells j).2.1, .slice (abX j) (cAt X.cells j).2.2.length (cbX j)], .agg #[.int .i64 (cAt Y.cells j).1, .int .i64 (cAt Y.cells j).2.1, .slice (abY j) (cAt Y.cells j).2.2.length (cbY j)]] W fun e w' => e = .returned (.int .i64 (F j)) ∧ Below wr.heap.size wr w') := fun W h => by
        have hW := hbr.trans (h.mono hbr.size)
        refine (rcell_any n (rcmp_any n) (cAt X.cells j) (cAt Y.cells j) 0 0 W _ _ _ _ _ _ (hX.mono (Nat.le_refl _) hW fun x v h => h.next hW) (hY.mono (Nat.le_refl _) hW fun x v h => h.next hW)).mono ?_
        rintro e w' ⟨rfl, hw'⟩
        exact ⟨by rw [HF.out], h.trans (hw'.mono h.size)⟩
      have KS : Hid (∀ W, Below wr.heap.size wr W → Below wr.heap.size wr W ∧ W.cell? ⟨o9, 1, none⟩ = some (.slice (some ⟨bx, fx, none⟩) M k2) ∧ W.cell? ⟨o10, 1, none⟩ = some (.slice (some ⟨by', fy, none⟩) M k4) ∧ W.cell? ⟨bx, fx + j * 3, none⟩ = some (.int .i64 (cAt X.cells j).1) ∧ W.cell? ⟨bx, fx + j * 3 + 1, none⟩ = some (.int .i64 (cAt X.cells j).2.1) ∧ W.cell? ⟨bx, fx + j * 3 + 2, none⟩ = some (.slice (abX j) (cAt X.cells j).2.2.length (cbX j)) ∧ W.cell? ⟨by', fy + j * 3, none⟩ = some (.int .i64 (cAt Y.cells j).1) ∧ W.cell? ⟨by', fy + j * 3 + 1, none⟩ = some (.int .i64 (cAt Y.cells j).2.1) ∧ W.cell? ⟨by', fy + j * 3 + 2, none⟩ = some (.slice (abY j) (cAt Y.cells j).2.2.length (cbY j))) := fun W h => by
        have hW := hbr.trans (h.mono hbr.size)
        exact ⟨h, (hW.cell (p := ⟨o9, 1, none⟩) hh.2.2.2.2).trans hh.2.1, (hW.cell (p := ⟨o10, 1, none⟩) (by show o10 < _; omega)).trans hh.2.2.1, (hW.cell (p := ⟨bx, fx + j * 3, none⟩) hbx).trans x0, (hW.cell (p := ⟨bx, fx + j * 3 + 1, none⟩) hbx).trans x1, (hW.cell (p := ⟨bx, fx + j * 3 + 2, none⟩) hbx).trans x2, (hW.cell (p := ⟨by', fy + j * 3, none⟩) hby).trans y0, (hW.cell (p := ⟨by', fy + j * 3 + 1, none⟩) hby).trans y1, (hW.cell (p := ⟨by', fy + j * 3 + 2, none⟩) hby).trans y2⟩
      have hd0 : Below wr.heap.size wr wr.drew := (Below.refl _ _).drew
      have HBR2 := hide hbr
      generalize (cAt X.cells j).1 = ca at *
      generalize (cAt X.cells j).2.1 = cb' at *
      generalize (cAt X.cells j).2.2.length = cc at *
      generalize (cAt Y.cells j).1 = da at *
      generalize (cAt Y.cells j).2.1 = db at *
      generalize (cAt Y.cells j).2.2.length = dc at *
      generalize abX j = ax at *
      generalize cbX j = kx at *
      generalize abY j = ay at *
      generalize cbY j = ky at *
      clear hcx hcy x0 x1 x2 y0 y1 y2 hX hY hh hbr hbx hby HFX HFY hz
      go_upto_region 6 with fail
      clear g0 g1
      obtain ⟨r, hr⟩ : ∃ r, F j = r := ⟨_, rfl⟩
      rw [hr] at HCL
      have HR := hide hr
      clear hr
      go_region_held3 (fun W => Below wr.heap.size wr W ∧ W.cell? ⟨o9, 1, none⟩ = some (.slice (some ⟨bx, fx, none⟩) M k2) ∧ W.cell? ⟨o10, 1, none⟩ = some (.slice (some ⟨by', fy, none⟩) M k4) ∧ W.cell? ⟨bx, fx + j * 3, none⟩ = some (.int .i64 ca) ∧ W.cell? ⟨bx, fx + j * 3 + 1, none⟩ = some (.int .i64 cb') ∧ W.cell? ⟨bx, fx + j * 3 + 2, none⟩ = some (.slice ax cc kx) ∧ W.cell? ⟨by', fy + j * 3, none⟩ = some (.int .i64 da) ∧ W.cell? ⟨by', fy + j * 3 + 1, none⟩ = some (.int .i64 db) ∧ W.cell? ⟨by', fy + j * 3 + 2, none⟩ = some (.slice ay dc ky))
        (first | with_reducible exact KS.out _ (by with_reducible assumption))
        (first | (go_at_call 21; refine (HCL.out _ (by with_reducible assumption)).mono ?_; rintro e w6 ⟨rfl, hb6⟩))
      all_goals
        by_cases hr0 : r = 0
        · subst hr0
          have HN : Hid (Below W5.heap.size W5 w6) := HBR2.out.trans (hb6.mono HBR2.out.size)
          clear hb6
          go_wp2
          go_roundg (M - (j + 1))
          case rel => exact ⟨j + 1, by omega, by go_num, by rw [firstUp_step HZ.out]; exact HR.out, HN.out⟩
          case measure => omega
        · have hrb : (r != 0) = true := by simp; exact hr0
          have HFM : Hid (firstUp F M = r) := by unfold Hid; rw [firstUp_hit HZ.out (by rw [HR.out]; exact hr0) M hlt]; exact HR.out
          have HN : Hid (Below w.heap.size w w6) := HBR.out.trans (hb6.mono HBR.out.size)
          clear hb6
          go_wp2
          go_ret
          exact ⟨retB (by rw [← HRB.out, HFM.out, if_pos hr0]; rfl), HN.out⟩
    · have hje : j = M := by omega
      subst hje
      clear hh hbr hz
      go_wp2
      go_ret
      exact ⟨retB (by rw [← HRB.out, HZ.out]; simp), HBR.out⟩
end Go.Proofs.Ytimkcpbgnoekcaa
namespace Go.Proofs.Ytimkcpbgnoekcaa
open Go.ChangeShapes Go.WideShapes Go.ChangeAt Go.RowKit
set_option linter.unusedVariables false
set_option maxRecDepth 100000
theorem chk_kind {f : Ar → Int} {c : Ce} (h : chkC f c = 0) : c.1 = 0 ∨ c.1 = 1 ∨ c.1 = 2 := by
  unfold chkC at h
  by_cases h1 : c.1 = 2 ∧ c.2.1 = 0 ∧ c.2.2.length = 1
  · exact Or.inr (Or.inr h1.1)
  · rw [if_neg h1] at h
    by_cases h2 : c.2.2.length = 0 ∧ (c.1 = 0 ∨ c.1 = 1 ∧ Good c.2.1)
    · rcases h2.2 with h3 | h3
      · exact Or.inl h3
      · exact Or.inr (Or.inl h3.1)
    · rw [if_neg h2] at h; omega
end Go.Proofs.Ytimkcpbgnoekcaa
namespace Go.Proofs.Ytimkcpbgnoekcaa
open Go.ChangeShapes Go.WideShapes Go.ChangeAt Go.RowKit
set_option linter.unusedVariables false
set_option maxRecDepth 100000
theorem blk_exists {N : Nat} {c : Int → Int → Int} (O : OrdN N c) : ∃ g, Blk c g 0 N := by
  have key : ∀ i, i ≤ N → ∃ g : Nat → Int, Rng N g ∧ (∀ x, i ≤ x → g x = (x : Int)) ∧ Srt c g 0 i ∧ ∀ x, x < i → 0 ≤ g x ∧ g x < (i : Int) := by
    intro i
    induction i with
    | zero => intro _; exact ⟨fun x => (x : Int), fun x hx => by show 0 ≤ (x : Int) ∧ (x : Int) < N; omega, fun _ _ => rfl, fun a b _ _ h => by omega, fun x hx => by omega⟩
    | succ i ih =>
      intro hi
      obtain ⟨g, hR, hid, hS, hb⟩ := ih (by omega)
      have hgi := hid i (Nat.le_refl _)
      obtain ⟨j, hj⟩ : ∃ j, fstZ (fun x => if ltB c (g i) (g x) then 0 else 1) i = j := ⟨_, rfl⟩
      have hle := fstZ_le (fun x => if ltB c (g i) (g x) then (0 : Int) else 1) i
      have hsp := fstZ_spec (fun x => if ltB c (g i) (g x) then (0 : Int) else 1) i
      rw [hj] at hle hsp
      have h1 : ∀ x, j ≤ x → x < i → ltc c (g i) (g x) := fun x hx1 hx2 => by
        have hj2 := hsp.2 (by omega)
        have hl : ltB c (g i) (g j) = true := by
          cases hh : ltB c (g i) (g j)
          · simp only [hh] at hj2; simp at hj2
          · rfl
        have hl' := ltB_iff.1 hl
        by_cases e : x = j
        · rw [e]; exact hl'
        · have ri := hR i (by omega)
          have rj := hR j (by omega)
          have rx := hR x (by omega)
          exact O.tr _ _ _ ri.1 ri.2 rj.1 rj.2 rx.1 rx.2 hl' (hS j x (Nat.zero_le _) (by omega) hx2)
      have h2 : 0 < j → ltc c (g (j - 1)) (g i) := fun h0 => by
        have hj1 := hsp.1 (j - 1) (by omega)
        have hn : ¬ ltc c (g i) (g (j - 1)) := fun h => hj1 (by simp only [ltB_iff.2 h, if_true])
        have ri := hR i (by omega)
        have rj := hR (j - 1) (by omega)
        have hbj := hb (j - 1) (by omega)
        exact O.tot _ _ ri.1 ri.2 rj.1 rj.2 (by omega) hn
      have hs' := ins_srt O hR (A := 0) (i := i) (j := j) (by omega) (Nat.zero_le _) hle hS h1 h2
      have hmv := ins_mv g (A := 0) (i := i) (j := j) (Nat.zero_le _) hle
      refine ⟨ins g i j, hmv.rng (by omega) hR, fun x hx => ?_, hs', fun x hx => ?_⟩
      · rw [hmv.out x (by omega)]; exact hid x (by omega)
      · obtain ⟨y, -, hy, e⟩ := hmv.img x (Nat.zero_le _) hx
        rw [e]
        by_cases hyi : y = i
        · rw [hyi, hgi]; omega
        · have := hb y (by omega); omega
  obtain ⟨g, hR, -, hS, hb⟩ := key N (Nat.le_refl _)
  exact ⟨g, hS, fun i _ hi => by have := hb i hi; omega⟩
theorem countP_step (p : Nat → Bool) (j : Nat) : (List.range (j + 1)).countP p = (List.range j).countP p + if p j then 1 else 0 := by
  rw [List.range_succ, List.countP_append, List.countP_singleton]
/-- All kinds alike, and no boxes: all numbers, or all signs. -/
theorem kinds_ok {x : Ar} (hx : chkA 8 x = 0) (h : ∀ t, t < x.cells.length → (cAt x.cells t).1 ≠ 2 ∧ (cAt x.cells t).1 = (cAt x.cells 0).1) : ¬ (allK 0 x.cells = false ∧ allK 1 x.cells = false) := by
  rintro ⟨h0, h1⟩
  unfold allK at h0 h1
  rw [decide_eq_false_iff_not] at h0 h1
  by_cases hc : 0 < x.cells.length
  · have hk := chk_kind (((chkA_iff 8 x).1 hx).2.2.2 0 hc)
    have hn := (h 0 hc).1
    rcases hk with hk | hk | hk
    · exact h0 fun i hi => by rw [(h i hi).2, hk]
    · exact h1 fun i hi => by rw [(h i hi).2, hk]
    · exact hn hk
  · exact h0 fun i hi => by omega
theorem kinds_bad {x : Ar} {j : Nat} (hj : j < x.cells.length) (h : (cAt x.cells j).1 = 2 ∨ (cAt x.cells j).1 ≠ (cAt x.cells 0).1) : allK 0 x.cells = false ∧ allK 1 x.cells = false := by
  unfold allK
  rw [decide_eq_false_iff_not, decide_eq_false_iff_not]
  refine ⟨fun ha => ?_, fun ha => ?_⟩
  · have a := ha j hj
    have b := ha 0 (by omega)
    rcases h with h | h <;> omega
  · have a := ha j hj
    have b := ha 0 (by omega)
    rcases h with h | h <;> omega
/-- The cells that grade fills: those whose number is below i. -/
structure GrE (W : World) (bc N : Nat) (g : Nat → Int) (i : Nat) (wr : World) : Prop where
  io : Below 0 W wr
  keep : ∀ b, b < W.heap.size → b ≠ bc → wr.heap[b]? = W.heap[b]?
  row : ∀ s, s < N → (wr.cell? ⟨bc, s * 3, none⟩ = some (.int .i64 0) ∧ wr.frozen? ⟨bc, s * 3, none⟩ = false) ∧ (wr.cell? ⟨bc, s * 3 + 1, none⟩ = some (.int .i64 (if g s < (i : Int) then g s else 0)) ∧ wr.frozen? ⟨bc, s * 3 + 1, none⟩ = false) ∧ (wr.cell? ⟨bc, s * 3 + 2, none⟩ = some (.slice none 0 0) ∧ wr.frozen? ⟨bc, s * 3 + 2, none⟩ = false)
theorem GrE.next {W wr w1 : World} {bc N i : Nat} {g : Nat → Int} (h : GrE W bc N g i wr) (hbc : bc < W.heap.size) (hb : Below wr.heap.size wr w1) : GrE W bc N g i w1 := by
  have hl : bc < wr.heap.size := Nat.lt_of_lt_of_le hbc h.io.size
  have e : w1.heap[bc]? = wr.heap[bc]? := hb.block bc hl
  have ec : ∀ o, w1.cell? ⟨bc, o, none⟩ = wr.cell? ⟨bc, o, none⟩ := fun o => World.cell?_of_block (w := wr) (a := ⟨bc, o, none⟩) e
  have ef : ∀ o, w1.frozen? ⟨bc, o, none⟩ = wr.frozen? ⟨bc, o, none⟩ := fun o => World.frozen?_of_block (w := wr) (a := ⟨bc, o, none⟩) e
  refine ⟨h.io.trans (hb.mono (Nat.zero_le _)), fun b hb1 hne => (hb.block b (Nat.lt_of_lt_of_le hb1 h.io.size)).trans (h.keep b hb1 hne), fun s hs => ?_⟩
  rw [ec, ec, ec, ef, ef, ef]
  exact h.row s hs
theorem GrE.put {W wr : World} {bc N i k : Nat} {g : Nat → Int} (h : GrE W bc N g i wr) (hk : k < N) (hgk : g k = (i : Int)) (hinj : ∀ s, s < N → g s = (i : Int) → s = k) :
    GrE W bc N g (i + 1) (((wr.setCell ⟨bc, k * 3, none⟩ (.int .i64 0)).setCell ⟨bc, k * 3 + 1, none⟩ (.int .i64 (i : Int))).setCell ⟨bc, k * 3 + 2, none⟩ (.slice none 0 0)) := by
  refine ⟨((h.io.setCell (p := ⟨bc, k * 3, none⟩) (Nat.zero_le _) _).setCell (p := ⟨bc, k * 3 + 1, none⟩) (Nat.zero_le _) _).setCell (p := ⟨bc, k * 3 + 2, none⟩) (Nat.zero_le _) _, fun b hb hne => ?_, fun s hs => ?_⟩
  · rw [Below.heap_setCell _ _ _ _ (by show b ≠ bc; exact hne), Below.heap_setCell _ _ _ _ (by show b ≠ bc; exact hne), Below.heap_setCell _ _ _ _ (by show b ≠ bc; exact hne)]
    exact h.keep b hb hne
  · obtain ⟨⟨r0, f0⟩, ⟨r1, f1⟩, ⟨r2, f2⟩⟩ := h.row s hs
    obtain ⟨⟨k0, -⟩, ⟨k1, -⟩, ⟨k2, -⟩⟩ := h.row k hk
    refine ⟨⟨?_, frozen_set _ _ _ _ (frozen_set _ _ _ _ (frozen_set _ _ _ _ f0))⟩, ⟨?_, frozen_set _ _ _ _ (frozen_set _ _ _ _ (frozen_set _ _ _ _ f1))⟩, ⟨?_, frozen_set _ _ _ _ (frozen_set _ _ _ _ (frozen_set _ _ _ _ f2))⟩⟩
    · rw [World.cell?_setCell_other _ _ _ _ (by first | (simp; done) | (simp; omega)), World.cell?_setCell_other _ _ _ _ (by first | (simp; done) | (simp; omega))]
      by_cases e : s = k
      · rw [e]; exact World.cell?_setCell_same' _ _ _ (by rw [k0]; rfl)
      · rw [World.cell?_setCell_other _ _ _ _ (by first | (simp; done) | (simp; omega))]; exact r0
    · rw [World.cell?_setCell_other _ _ _ _ (by first | (simp; done) | (simp; omega))]
      by_cases e : s = k
      · subst e
        rw [if_pos (by omega), hgk]
        exact World.cell?_setCell_same' _ _ _ (by rw [World.cell?_setCell_other _ _ _ _ (by simp), r1]; rfl)
      · rw [World.cell?_setCell_other _ _ _ _ (by first | (simp; done) | (simp; omega)), World.cell?_setCell_other _ _ _ _ (by first | (simp; done) | (simp; omega)), r1]
        have hne : g s ≠ (i : Int) := fun h => e (hinj s hs h)
        by_cases h1 : g s < (i : Int)
        · rw [if_pos h1, if_pos (by omega)]
        · rw [if_neg h1, if_neg (by omega)]
    · by_cases e : s = k
      · subst e
        exact World.cell?_setCell_same' _ _ _ (by rw [World.cell?_setCell_other _ _ _ _ (by simp), World.cell?_setCell_other _ _ _ _ (by simp), r2]; rfl)
      · rw [World.cell?_setCell_other _ _ _ _ (by first | (simp; done) | (simp; omega)), World.cell?_setCell_other _ _ _ _ (by first | (simp; done) | (simp; omega)), World.cell?_setCell_other _ _ _ _ (by first | (simp; done) | (simp; omega))]; exact r2
theorem grE_new {W : World} {bc N : Nat} {g : Nat → Int} (hg : ∀ s, s < N → 0 ≤ g s) (h : W.rowIs bc 39 (N * 3) zero3) : GrE W bc N g 0 W := by
  refine ⟨Below.refl _ _, fun _ _ _ => rfl, fun s hs => ?_⟩
  have e0 := h.cell (i := s * 3) (by omega)
  have e1 := h.cell (i := s * 3 + 1) (by omega)
  have e2 := h.cell (i := s * 3 + 2) (by omega)
  have m0 : s * 3 % 3 = 0 := by omega
  have m1 : (s * 3 + 1) % 3 = 1 := by omega
  have m2 : (s * 3 + 2) % 3 = 2 := by omega
  simp only [zero3, m0, m1, m2] at e0 e1 e2
  have := hg s hs
  rw [if_neg (by omega)]
  exact ⟨⟨by simpa using e0, h.frozen _⟩, ⟨by simpa using e1, h.frozen _⟩, ⟨by simpa using e2, h.frozen _⟩⟩
theorem GrE.cells {W wr : World} {bc N n lo : Nat} {g : Nat → Int} (h : GrE W bc N g N wr) (hbc : bc < W.heap.size) (hlo : lo ≤ bc) (hg : ∀ s, s < N → g s < (N : Int)) : CellsIn n lo wr (numCs 0 ((List.range N).map g)) (some ⟨bc, 0, none⟩) := by
  refine Or.inr ⟨bc, 0, rfl, hlo, Nat.lt_of_lt_of_le hbc h.io.size, fun i hi => ?_⟩
  rw [numCs_len, List.length_map, List.length_range] at hi
  obtain ⟨⟨r0, -⟩, ⟨r1, -⟩, ⟨r2, -⟩⟩ := h.row i hi
  rw [if_pos (hg i hi)] at r1
  rw [numCs_at _ _ _ (by simpa using hi)]
  refine ⟨_, _, _, by rw [Nat.zero_add]; exact r0, by rw [Nat.zero_add]; exact r1, by rw [Nat.zero_add]; exact r2, rfl, ?_, none, 0, rfl, by simp, Or.inl rfl⟩
  simp [hi]
end Go.Proofs.Ytimkcpbgnoekcaa
namespace Go.Proofs.Ytimkcpbgnoekcaa
open Go.ChangeShapes Go.WideShapes Go.ChangeAt Go.RowKit
set_option linter.unusedVariables false
set_option maxRecDepth 100000
theorem gives2_lo {n : Nat} {x : Ar} {E : Int} {w w' : World} {v : Value} (hx : ArIn n w.heap.size w' x v) (hb : Below w.heap.size w w') : Gives2 n w.heap.size x E w (.returned (.tuple #[v, .int .i64 E])) w' := ⟨⟨v, rfl, hx⟩, hb⟩
set_option maxHeartbeats 4000000 in
theorem grade33 {n lo : Nat} {x : Ar} {va : Value} {w : World} (down : Bool) (hx : ArIn (n + 1) lo w x va) (hcx : chkA 8 x = 0) (hcap : Caps va) :
    Calls Try.prog 33 #[va, .bool down] w fun e w' => Gives2 (n + 1) w.heap.size (gradR down n x).1 (gradR down n x).2 w e w' := by
  obtain ⟨a1, c1, a2, c2, rfl, R, hc⟩ := hx.form
  obtain ⟨lx8, cx16⟩ := chk_len hcx
  obtain ⟨ab, cb, hcf⟩ := cells_fn hc
  have I := in2_new w (.slice a1 x.shape.length c1) (.slice a2 x.cells.length c2)
  obtain ⟨W2, e2⟩ : ∃ W2, (w.alloc (.cells #[.slice a1 x.shape.length c1, .slice a2 x.cells.length c2] 25)).alloc (.cells #[.slice none 0 0, .slice none 0 0] 25) = W2 := ⟨_, rfl⟩
  rw [e2] at I
  have q0 := I.q0
  have p0 := I.p0
  have p1 := I.p1
  have f0 := I.f0
  have f1 := I.f1
  by_cases h0 : x.shape.length = 0
  · have HE : Hid (gradR down n x = (zeroA, 6)) := by unfold Hid gradR; rw [if_pos h0]
    have HT := hide (I.put (.slice none 0 0) (.slice none 0 0))
    have HF : Hid (∀ u v, Gives2 (n + 1) w.heap.size (gradR down n x).1 (gradR down n x).2 w (.returned (.tuple #[.agg #[.slice none 0 0, .slice none 0 0], .int .i64 6])) ((W2.setCell ⟨w.heap.size + 1, 0, none⟩ u).setCell ⟨w.heap.size + 1, 1, none⟩ v)) := fun u v => by
      rw [HE.out]
      exact gives2_lo (zeroA_in _ _ _) (I.fin u v)
    simp only [h0] at e2 q0 ⊢
    generalize x.cells.length = CX at *
    clear hx hcx hcap R hc hcf lx8 cx16 I h0
    go_enter Try.func33, Try.ntmps33
    go_wp2
    exact bodyPost_ret (v := .tuple #[.agg #[.slice none 0 0, .slice none 0 0], .int .i64 6]) (by simp [results, Try.results33, go_sem, HT.out.1, HT.out.2]) rfl (HF.out _ _)
  have hS : 0 < x.shape.length := by omega
  obtain ⟨wdA, wdB, wdC, wdD, wdE⟩ := wid hcx hS
  obtain ⟨b1, o1, rfl, hb1, hcl⟩ := row_at R (j := 0) hS
  have n0 : w.cell? ⟨b1, o1, none⟩ = some (.int .i64 (nW x : Int)) := by rw [← wdA]; exact hcl
  obtain ⟨g, hblk⟩ := blk_exists (byD_ord down n x (nW x))
  have hself := (byD_full down n x).self
  have HG : Hid (∀ s, s < nW x → 0 ≤ g s ∧ g s < (nW x : Int) ∧ rk (byD down n x) (nW x) (g s).toNat = s) := fun s hs => by
    have := hblk.2 s (Nat.zero_le _) hs
    exact ⟨by omega, this.2, rk_at (byD_ord down n x (nW x)) hself hblk hs⟩
  have HALL : Hid (∀ i : Nat, i < nW x → ∃ s, s < nW x ∧ g s = (i : Int) ∧ rk (byD down n x) (nW x) i = s) := fun i hi => by
    obtain ⟨s, hs, e⟩ := blk_all (n := nW x) hblk hself i hi
    have := HG.out s hs
    rw [e, Int.toNat_natCast] at this
    exact ⟨s, hs, e, this.2.2⟩
  have HINJ : Hid (∀ s t, s < nW x → t < nW x → g s = g t → s = t) := fun s t hs ht e => blk_inj hblk hself hs ht e
  have HSL : Hid ((List.range (nW x)).map g = sortL (byD down n x) (nW x)) := sortL_is (byD_ord down n x (nW x)) hself hblk
  have HAH : Hid (∀ W (j i : Nat), Below w.heap.size w W → j < nW x → i < nW x → Calls Try.prog 60 #[.agg #[.slice (some ⟨b1, o1, none⟩) x.shape.length c1, .slice a2 x.cells.length c2], .int .i64 (j : Int), .int .i64 (i : Int), .bool down] W fun e w' => e = .returned (.bool (ltB (byD down n x) (j : Int) (i : Int))) ∧ Below W.heap.size W w') := fun W j i h hj hi => ahead60 down (hx.next h) hcx hcap hS hj hi
  have HGR : Hid (gradR down n x = if allK 0 x.cells = false ∧ allK 1 x.cells = false then (zeroA, 5) else (numsA (sortL (byD down n x) (nW x)), 0)) := by unfold Hid gradR; rw [if_neg h0]
  have HKO := hide (kinds_ok hcx)
  have HKB : Hid (∀ j, j < x.cells.length → ((cAt x.cells j).1 = 2 ∨ (cAt x.cells j).1 ≠ (cAt x.cells 0).1) → allK 0 x.cells = false ∧ allK 1 x.cells = false) := fun j hj h => kinds_bad hj h
  have HCF : Hid (∀ W, Below w.heap.size w W → ∀ t, t < x.cells.length → ∃ b off, a2 = some ⟨b, off, none⟩ ∧ W.cell? ⟨b, off + t * 3, none⟩ = some (.int .i64 (cAt x.cells t).1) ∧ W.cell? ⟨b, off, none⟩ = some (.int .i64 (cAt x.cells 0).1)) := fun W h t ht => by
    obtain ⟨b, off, ha, -, hb, hcs⟩ := hcf (by omega)
    refine ⟨b, off, ha, (h.cell (p := ⟨b, off + t * 3, none⟩) hb).trans (hcs t ht).1, (h.cell (p := ⟨b, off, none⟩) hb).trans ?_⟩
    have := (hcs 0 (by omega)).1
    rw [Nat.zero_mul, Nat.add_zero] at this
    exact this
  obtain ⟨K, hK⟩ : ∃ K : Nat → Int, (fun t => (cAt x.cells t).1) = K := ⟨_, rfl⟩
  have hKt : ∀ t, (cAt x.cells t).1 = K t := fun t => by rw [← hK]
  simp only [hKt] at HKO HKB HCF
  obtain ⟨GR, hGR⟩ : ∃ G, gradR down n x = G := ⟨_, rfl⟩
  rw [hGR] at HGR ⊢
  obtain ⟨AB, hAB⟩ : ∃ AB : Prop, (allK 0 x.cells = false ∧ allK 1 x.cells = false) = AB := ⟨_, rfl⟩
  have HG5 : Hid (AB → GR = (zeroA, 5)) := fun h => by rw [HGR.out, if_pos (by rw [hAB]; exact h)]
  have HG0 : Hid (¬ AB → GR = (numsA (sortL (byD down n x) (nW x)), 0)) := fun h => by rw [HGR.out, if_neg (by rw [hAB]; exact h)]
  rw [hAB] at HKO
  simp only [hAB] at HKB
  generalize byD down n x = c at *
  obtain ⟨N, hN⟩ : ∃ N, nW x = N := ⟨_, rfl⟩
  rw [hN] at n0 wdD
  simp only [hN] at HG HALL HINJ HSL HAH HG0
  have hb01 : ((x.shape.length : Int) == 0) = false := beq_eq_false_iff_ne.2 (by omega)
  have n2 := (I.bel.cell (p := ⟨b1, o1, none⟩) hb1).trans n0
  have HN0 := hide (And.intro n0 hb1)
  have HI := hide I
  have hSXz : (0 : Int) < (x.shape.length : Int) := by omega
  generalize x.shape.length = SX at *
  generalize x.cells.length = CX at *
  clear hx hcx hcap R hc hcf lx8 I h0 hS wdA wdB wdC wdE hb1 hcl n0 hblk hself HGR hGR hAB hK hKt hN n2
  go_enter Try.func33, Try.ntmps33
  go_wp2
  clear e2 q0 p0 p1 f0 f1
  go_loopg [6] CX (fun gg iv wr => ∃ j : Nat, gg + j = CX ∧ iv = .int .i64 (j : Int) ∧ (∀ t, t < j → K t ≠ 2 ∧ K t = K 0) ∧ In2 w (.slice (some ⟨b1, o1, none⟩) SX c1) (.slice a2 CX c2) wr)
  case atStart => exact ⟨0, rfl, rfl, fun t ht => by omega, HI.out⟩
  case round =>
    clear HI
    obtain ⟨j, hg, rfl, hks, hI⟩ := hrel
    have HKS := hide hks
    have HI := hide hI
    have q0 := hI.q0
    have q1 := hI.q1
    clear hks
    by_cases hlt : j < CX
    · have hltz : (j : Int) < (CX : Int) := by omega
      have hCXz : (0 : Int) < (CX : Int) := by omega
      obtain ⟨b, off, rfl, k0, k1⟩ := HCF.out wr hI.bel j hlt
      have p0 := hI.p0
      have p1 := hI.p1
      have f0 := hI.f0
      have f1 := hI.f1
      have HNX : Hid (K j ≠ 2 → K j = K 0 → ∀ t, t < j + 1 → K t ≠ 2 ∧ K t = K 0) := fun h1 h2 t ht => by
        by_cases e : t = j
        · rw [e]; exact ⟨h1, h2⟩
        · exact HKS.out t (by omega)
      have HBD : Hid ((K j = 2 ∨ K j ≠ K 0) → GR = (zeroA, 5)) := fun h => HG5.out (HKB.out j hlt h)
      have HT : Hid (∀ m : Nat, ((wr.drewN m).setCell ⟨w.heap.size + 1, 0, none⟩ (.slice none 0 0)).cell? ⟨w.heap.size + 1, 0, none⟩ = some (.slice none 0 0) ∧ (((wr.drewN m).setCell ⟨w.heap.size + 1, 0, none⟩ (.slice none 0 0)).setCell ⟨w.heap.size + 1, 1, none⟩ (.slice none 0 0)).cell? ⟨w.heap.size + 1, 1, none⟩ = some (.slice none 0 0)) := fun m => (hI.next (drewN_below (Below.refl _ _) m)).put (.slice none 0 0) (.slice none 0 0)
      have HF : Hid (GR = (zeroA, 5) → ∀ (m : Nat) u v, Gives2 (n + 1) w.heap.size GR.1 GR.2 w (.returned (.tuple #[.agg #[.slice none 0 0, .slice none 0 0], .int .i64 5])) (((wr.drewN m).setCell ⟨w.heap.size + 1, 0, none⟩ u).setCell ⟨w.heap.size + 1, 1, none⟩ v)) := fun h m u v => by
        rw [h]
        have hb := hI.fin u v
        exact gives2_lo (zeroA_in _ _ _) ⟨hb.os, hb.tape, hb.output, hb.size, hb.block⟩
      have HND : Hid (∀ m, In2 w (.slice (some ⟨b1, o1, none⟩) SX c1) (.slice (some ⟨b, off, none⟩) CX c2) (wr.drewN m)) := fun m => hI.next (drewN_below (Below.refl _ _) m)
      generalize hkj : K j = kj at *
      generalize hk0 : K 0 = k0' at *
      clear hI HKB HCF HKS HKO HG5
      by_cases h2 : kj = 2
      · have hb2 : (kj == 2) = true := by simp; exact h2
        have HX := hide (HF.out (HBD.out (.inl h2)))
        have HNB := hide HND.out
        clear HND HNX HBD HF h2
        go_wp2
        go_quiet (fail)
        all_goals
          go_wp2
          exact bodyPost_ret (v := .tuple #[.agg #[.slice none 0 0, .slice none 0 0], .int .i64 5]) (by simp [results, Try.results33, go_sem, (HT.out _).1, (HT.out _).2]) rfl (HX.out _ _ _)
      · have hb2 : (kj == 2) = false := by simp; exact h2
        by_cases h3 : kj = k0'
        · have hb3 : (kj != k0') = false := by simp; exact h3
          have HX := hide (HNX.out h2 h3)
          clear HNX HBD HF HT h2 h3
          go_wp2
          go_quiet (fail)
          all_goals
            go_wp2
            go_roundg (CX - (j + 1))
            case rel => exact ⟨j + 1, by omega, by go_num, HX.out, HND.out _⟩
            case measure => omega
        · have hb3 : (kj != k0') = true := by simp; exact h3
          have HX := hide (HF.out (HBD.out (.inr h3)))
          have HNB := hide HND.out
          clear HND HNX HBD HF h2 h3
          go_wp2
          go_quiet (fail)
          all_goals
            go_wp2
            exact bodyPost_ret (v := .tuple #[.agg #[.slice none 0 0, .slice none 0 0], .int .i64 5]) (by simp [results, Try.results33, go_sem, (HT.out _).1, (HT.out _).2]) rfl (HX.out _ _ _)
    · have hje : j = CX := by omega
      subst hje
      have HGV := hide (HG0.out (HKO.out HKS.out))
      have n2 := (hI.bel.cell (p := ⟨b1, o1, none⟩) HN0.out.2).trans HN0.out.1
      have mk := make_cells N (by omega)
      obtain ⟨B, hB⟩ : ∃ B, wr.heap.size = B := ⟨_, rfl⟩
      obtain ⟨W5, e5⟩ : ∃ W5, ((wr.alloc (.cells #[.int .i64 (N : Int)] 3)).alloc (.cells (madeCells #[.int .i64 0, .int .i64 0, .slice none 0 0] (N * 3)) 39)).alloc (.cells #[.slice (some ⟨B, 0, none⟩) 1 1, .slice (some ⟨B + 1, 0, none⟩) N N] 25) = W5 := ⟨_, rfl⟩
      have HE5 := hide (And.intro e5 hB)
      clear HG0 HKO HKS HKB HCF HG5 hg hlt
      go_upto_region 10 with fail
      clear e5 hB mk n2 q0 q1
      obtain ⟨wo, hwo⟩ : ∃ wo, wo = wr := ⟨_, rfl⟩
      subst hwo
      have hB := HE5.out.2
      have e5 := HE5.out.1
      have hBs : w.heap.size + 2 ≤ B := by rw [← hB]; exact hI.size
      obtain ⟨W4, e4⟩ : ∃ W4, (wo.alloc (.cells #[.int .i64 (N : Int)] 3)).alloc (.cells (madeCells #[.int .i64 0, .int .i64 0, .slice none 0 0] (N * 3)) 39) = W4 := ⟨_, rfl⟩
      have z4 : W4.heap.size = B + 2 := by rw [← e4, ← hB]; simp
      have G4 : GrE W4 (B + 1) N g 0 W4 := grE_new (fun s hs => (HG.out s hs).1) (by
        have := rowIs_made3 (wo.alloc (.cells #[.int .i64 (N : Int)] 3)) (N * 3)
        rw [show (wo.alloc (.cells #[.int .i64 (N : Int)] 3)).heap.size = B + 1 by rw [← hB]; simp, e4] at this
        exact this)
      rw [e4] at e5
      have z5 : W5.heap.size = B + 3 := by rw [← e5]; simp [z4]
      have b45 : Below W4.heap.size W4 W5 := by rw [← e5]; exact one_alloc _ _
      have HG5 : Hid (GrE W5 (B + 1) N g 0 W5) := ⟨Below.refl _ _, fun _ _ _ => rfl, (G4.next (by omega) b45).row⟩
      have I5 : In2 w (.slice (some ⟨b1, o1, none⟩) SX c1) (.slice a2 j c2) W5 := by
        rw [← e5, ← e4]
        exact ((hI.alloc _).alloc _).alloc _
      have HS5 : Hid (W5.cell? ⟨B, 0, none⟩ = some (.int .i64 (N : Int))) := by
        refine (b45.cell (p := ⟨B, 0, none⟩) (by show B < _; omega)).trans ?_
        rw [← e4, ← hB]
        exact cell_new1 wo _ 3 (0, 0) _ 0 _ rfl
      have HO5 : Hid (W5.cell? ⟨B + 1 + 1, 0, none⟩ = some (.slice (some ⟨B, 0, none⟩) 1 1) ∧ W5.cell? ⟨B + 1 + 1, 1, none⟩ = some (.slice (some ⟨B + 1, 0, none⟩) N N)) := by
        rw [← e5, show B + 1 + 1 = W4.heap.size by omega]
        exact ⟨cell_new0 W4 _ 25 0 _ rfl, cell_new0 W4 _ 25 1 _ rfl⟩
      have HI5 := hide I5
      have HZ5 := hide (And.intro z5 hBs)
      clear hI HI HE5 e5 e4 z4 G4 z5 b45 I5 hBs hB W4
      go_wp2
      go_loopg [9] N (fun gg iv wr => ∃ i : Nat, gg + i = N ∧ iv = .int .i64 (i : Int) ∧ GrE W5 (B + 1) N g i wr)
      case atStart => exact ⟨0, rfl, rfl, HG5.out⟩
      case round =>
        clear HG5
        obtain ⟨i, hgi, rfl, hgr⟩ := hrel
        have HGR := hide hgr
        have HIN : Hid (∀ W i, GrE W5 (B + 1) N g i W → In2 w (.slice (some ⟨b1, o1, none⟩) SX c1) (.slice a2 j c2) W ∧ W.cell? ⟨B + 1 + 1, 0, none⟩ = some (.slice (some ⟨B, 0, none⟩) 1 1) ∧ W.cell? ⟨B + 1 + 1, 1, none⟩ = some (.slice (some ⟨B + 1, 0, none⟩) N N) ∧ W.cell? ⟨B, 0, none⟩ = some (.int .i64 (N : Int))) := fun W i h => by
          have hz := HZ5.out
          have hb : Below (B + 1) W5 W := ⟨h.io.os, h.io.tape, h.io.output, h.io.size, fun k hk => h.keep k (by omega) (by omega)⟩
          have hk := fun o => World.cell?_of_block (w := W5) (a := ⟨B + 1 + 1, o, none⟩) (h.keep (B + 1 + 1) (by omega) (by omega))
          exact ⟨HI5.out.belowS hb (by omega), (hk 0).trans HO5.out.1, (hk 1).trans HO5.out.2, (hb.cell (p := ⟨B, 0, none⟩) (by show B < _; omega)).trans HS5.out⟩
        by_cases hlt2 : i < N
        · have hltz : (i : Int) < (N : Int) := by omega
          clear hgr
          go_wp2
          go_loopg [10, 11] N (fun gg kv jv wr => ∃ t : Nat, gg + t = N ∧ jv = .int .i64 (t : Int) ∧ kv = .int .i64 (((List.range t).countP (rkP c i) : Nat) : Int) ∧ GrE W5 (B + 1) N g i wr)
          case atStart => exact ⟨0, rfl, rfl, rfl, HGR.out⟩
          case round =>
            clear HGR
            obtain ⟨t, hgt, rfl, rfl, hgr⟩ := hrel
            have HGR := hide hgr
            obtain ⟨I6, u0, u1, u2⟩ := HIN.out wr i hgr
            have q0 := I6.q0
            have q1 := I6.q1
            have HST := hide (countP_step (rkP c i) t)
            have hcle : (List.range t).countP (rkP c i) ≤ t := by have := List.countP_le_length (p := rkP c i) (l := List.range t); rw [List.length_range] at this; exact this
            by_cases hlt3 : t < N
            · have hltz3 : (t : Int) < (N : Int) := by omega
              by_cases hti : t = i
              · have HR : Hid (rkP c i t = false) := by unfold Hid rkP; simp [hti]
                have htb : ((t : Int) != (i : Int)) = false := by simp; omega
                rw [HR.out] at HST
                generalize hKK : (List.range t).countP (rkP c i) = KK at *
                clear hKK hti I6 u0 u1 u2 hgr
                go_wp2
                go_roundg (N - (t + 1))
                case rel => exact ⟨t + 1, by omega, by go_num, by rw [HST.out]; simp, HGR.out⟩
                case measure => omega
              · have htb : ((t : Int) != (i : Int)) = true := by simp; omega
                have C := HAH.out wr t i I6.bel hlt3 hlt2
                obtain ⟨lb, hlb⟩ : ∃ lb, ltB c (t : Int) (i : Int) = lb := ⟨_, rfl⟩
                have HR : Hid (rkP c i t = lb) := by unfold Hid rkP; rw [hlb]; simp [hti]
                rw [hlb] at C
                rw [HR.out] at HST
                generalize hKK : (List.range t).countP (rkP c i) = KK at *
                clear hKK hti I6 u0 u1 u2 hgr hlb
                go_wp2_with fail
                refine C.mono ?_
                clear C q0 q1
                rintro e w6 ⟨rfl, hb6⟩
                have HN6 := hide (HGR.out.next (by have := HZ5.out; omega) hb6)
                clear hb6
                cases lb
                · go_wp2
                  go_roundg (N - (t + 1))
                  case rel => exact ⟨t + 1, by omega, by go_num, by rw [HST.out]; simp, HN6.out⟩
                  case measure => omega
                · go_wp2
                  go_roundg (N - (t + 1))
                  case rel => exact ⟨t + 1, by omega, by go_num, by rw [HST.out]; simp, HN6.out⟩
                  case measure => omega
            · have hte : t = N := by omega
              subst hte
              obtain ⟨s, hs, hgs, hrk⟩ := HALL.out i hlt2
              unfold rk at hrk
              simp only [hrk]
              obtain ⟨⟨c0, fz0⟩, ⟨c1', fz1⟩, ⟨c2', fz2⟩⟩ := hgr.row s hs
              have hsz : (s : Int) < (t : Int) := by omega
              have HNX := hide (hgr.put hs hgs (fun s' hs' e => HINJ.out s' s hs' hs (by rw [e, hgs])))
              obtain ⟨zz, hzz⟩ : ∃ z, (if g s < (i : Int) then g s else 0) = z := ⟨_, rfl⟩
              rw [hzz] at c1'
              clear hgr I6 u0 u2 HST hcle hgs hrk hzz q0 q1
              go_wp2
              go_roundg (t - (i + 1))
              case rel => exact ⟨i + 1, by omega, by go_num, HNX.out⟩
              case measure => omega
        · have hie : i = N := by omega
          subst hie
          obtain ⟨I6, u0, u1, u2⟩ := HIN.out wr i hgr
          have p0 := I6.p0
          have p1 := I6.p1
          have f0 := I6.f0
          have f1 := I6.f1
          have hz := HZ5.out
          have hcs : CellsIn n (w.heap.size + 2) wr (numCs 0 ((List.range i).map g)) (some ⟨B + 1, 0, none⟩) := hgr.cells (by omega) (by omega) fun s hs => (HG.out s hs).2.1
          have hrow : Row (w.heap.size + 2) wr (some ⟨B, 0, none⟩) [(i : Int)] := row_one (by have := hgr.io.size; omega) hz.2 u2
          have hin : ArIn (n + 1) (w.heap.size + 2) wr (numsA ((List.range i).map g)) (.agg #[.slice (some ⟨B, 0, none⟩) 1 1, .slice (some ⟨B + 1, 0, none⟩) i i]) := by
            refine arIn_mk (x := numsA ((List.range i).map g)) ?_ ?_ hcs rfl ?_
            · show Row _ _ _ [(((List.range i).map g).length : Int)]
              rw [List.length_map, List.length_range]
              exact hrow
            · show (numCs 0 _).length ≤ _
              rw [numCs_len, List.length_map, List.length_range]
              omega
            · show (numCs 0 _).length = _
              rw [numCs_len, List.length_map, List.length_range]
          rw [HSL.out] at hin
          have HT := hide (I6.put (.slice (some ⟨B, 0, none⟩) 1 1) (.slice (some ⟨B + 1, 0, none⟩) i i))
          have HF : Hid (∀ u v, Gives2 (n + 1) w.heap.size GR.1 GR.2 w (.returned (.tuple #[.agg #[.slice (some ⟨B, 0, none⟩) 1 1, .slice (some ⟨B + 1, 0, none⟩) i i], .int .i64 0])) ((wr.setCell ⟨w.heap.size + 1, 0, none⟩ u).setCell ⟨w.heap.size + 1, 1, none⟩ v)) := fun u v => by
            rw [HGV.out]
            exact gives2_lo (I6.give hin (Nat.le_refl _) u v) (I6.fin u v)
          clear hgr I6 hcs hrow hin hz u2 HGV HGR HG HALL HINJ HSL HAH HIN
          go_wp2
          exact bodyPost_ret (v := .tuple #[.agg #[.slice (some ⟨B, 0, none⟩) 1 1, .slice (some ⟨B + 1, 0, none⟩) i i], .int .i64 0]) (by simp [results, Try.results33, go_sem, HT.out.1, HT.out.2]) rfl (HF.out _ _)
end Go.Proofs.Ytimkcpbgnoekcaa
