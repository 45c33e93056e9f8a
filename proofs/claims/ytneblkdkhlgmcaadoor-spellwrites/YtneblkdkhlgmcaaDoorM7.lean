/-
  The document's own look whether something is done fewer than 0 times; for all programs that have their parts in place.
  The document's own Write: a program as a text, or that it can't be written; for all grammars and programs.
  An array's weight is at least the number of its cells and axes, a program's that of its nodes and cells: the contracts of both; for all arrays and programs.
  What is waited for: the contracts of names, nameless, empty and light; for all grammars and programs.
  The contracts of layer 3's Atom and of the document's, and of layer 3's trial run: it answers true.
  What a call of layer 3's statements is told of a slice of numbers that came in: it is a row of numbers; and Places' answer as one row and one error.
  What a call of layer 3's statements is told of an array or a cell that came in: it is one of the plain arrays or cells, as deep as it may be; no condition.
  What a call of layer 10's statements is told of a program that came in: it is one of the plain programs, as deep as it may be; no condition.
  What a call of layer 16's statements is told of a program that came in: it is one of the plain programs, as deep as it may be, its numbers are of 64 bits; no condition.
  The program's walk and the document's words come to the same: the plain mathematics of it, kind by kind.
  Nodes that are made: Prim, Lit, One, Two, With, and what a node without parts is; for all parts.
  The contracts of layer 3's Places and of the document's: where a cell stands, axis by axis, in memory of its own; for all shapes and numbers.
  The contract of layer 3's Text; and what the document's Nums and Text rest on: a row of cells put together by append.
  The contracts of the document's Nums and Text: numbers and signs as arrays, put together by append; at most 16384 numbers.
  The grammars of the three dialects, as far as a writer reads them; an array and a program of the trial run.
-/
import Derived.Test.YtneblkdkhlgmcaaDoorM6
import Derived.Shelf.Strconv.Itoa4
import Derived.Test.YtneblkdkhlgmcaaDoorProg
import Derived.WalkKit
import Derived.Test.YtneblkdkhlgmcaaDoorChecked
import GoSem.Claim
import GoSem.ClaimJoined
import GoSem.ClaimMapViews
import Derived.JoinedTies
import Derived.KernelRfl
import Derived.ProofKit
import Derived.Below
import Derived.Deep.OwnRows
import Derived.Deep.QuietTactic
import Derived.BigQuiet
import Derived.Deep.RegionWith
import Derived.Lib.AppendIntMem
import Derived.Lib.ConvBytes
import Derived.Lib.Builder
import Derived.Lib.AppendStr
import Derived.Lib.UnsafeStr
import Derived.Deep.LoopGhost
import Derived.Deep.RegionHeld3
import Derived.Lib.MakeNoZero
import Derived.Laws.MakeOwn
import Derived.Laws.BitsAllLaws
import Derived.Lib.Bits
import Derived.Deep.Cut
import Derived.Deep.MidRow
import Derived.OpenShut
import Derived.ChangeOld
import Derived.SizedLaws
import Derived.Deep.Slices
import Derived.Deep.Strs
import Derived.Deep.RegionLaw
import GoSem.ClaimSeven
import Derived.LaidByTextLater
import Derived.SevenTiedAt
import Derived.LaidSub
import Derived.LaidOnce
import Derived.Deep.DeepHandedRow
import Derived.Lib.LaidTab
import Derived.Lay
namespace Go.Proofs.YtneblkdkhlgmcaaDoor
open Go.ChangeShapes Go.WideShapes Go.ChangeAt Go.RowKit
set_option maxRecDepth 100000
set_option linter.unusedVariables false
set_option linter.unusedSimpArgs false
/-- What that look promises. -/
def LowC (lone : Bool) (m : Nat) : Prop := ∀ n x lo va w (f : Bool), NdIn m n lo w x va → okN m f x → Calls Tryd.prog 29 #[va, .bool lone] w fun e w' => (∃ b : Bool, e = .returned (.bool b) ∧ (b = true ↔ lowN lone m 0 x)) ∧ Below w.heap.size w w'
/-- A part, with its own part where a part of NMo is done a number of times. -/
theorem kid_low {lone : Bool} {m n lo : Nat} {w : World} {x : Nd} {ak : Option Addr} (IH : LowC lone m) (h : KidsIn m n lo w x.kids ak) (ok : ∀ i, i < x.kids.length → okN m (fnP x.kind i) (kp x i)) (j : Nat) (hj : j < x.kids.length) :
    ∃ b off k1 o1 s1 d1 l1 e1 d2 l2 e2 dk lk ek p1, ak = some ⟨b, off, none⟩ ∧ (kp x j).kind = k1 ∧ (k1 = 26 → fnP x.kind j = true ∧ lk = 1) ∧ (∀ wr, Below w.heap.size w wr → (wr.cell? ⟨b, off + j * 7, none⟩ = some (.int .i64 k1) ∧ wr.cell? ⟨b, off + j * 7 + 1, none⟩ = some (.int .i64 o1) ∧ wr.cell? ⟨b, off + j * 7 + 2, none⟩ = some (.string s1) ∧ wr.cell? ⟨b, off + j * 7 + 3, none⟩ = some (.slice d1 l1 e1) ∧ wr.cell? ⟨b, off + j * 7 + 4, none⟩ = some (.slice d2 l2 e2) ∧ wr.cell? ⟨b, off + j * 7 + 5, none⟩ = some (.slice dk lk ek) ∧ wr.cell? ⟨b, off + j * 7 + 6, none⟩ = some (.int .i64 p1))) ∧
      (∀ wr, Below w.heap.size w wr → Calls Tryd.prog 29 #[.agg #[.int .i64 k1, .int .i64 o1, .string s1, .slice d1 l1 e1, .slice d2 l2 e2, .slice dk lk ek, .int .i64 p1], .bool lone] wr fun e w' => (∃ b : Bool, e = .returned (.bool b) ∧ (b = true ↔ lowN lone m 0 (kp x j))) ∧ Below wr.heap.size wr w') ∧
      (lone = true → x.kind = 5 → k1 = 26 → ∃ b2 off2 k2 o2 s2 f1 m1 g1 f2 m2 g2 fk mk gk p2, dk = some ⟨b2, off2, none⟩ ∧ ∀ wr, Below w.heap.size w wr → (wr.cell? ⟨b2, off2, none⟩ = some (.int .i64 k2) ∧ wr.cell? ⟨b2, off2 + 1, none⟩ = some (.int .i64 o2) ∧ wr.cell? ⟨b2, off2 + 2, none⟩ = some (.string s2) ∧ wr.cell? ⟨b2, off2 + 3, none⟩ = some (.slice f1 m1 g1) ∧ wr.cell? ⟨b2, off2 + 4, none⟩ = some (.slice f2 m2 g2) ∧ wr.cell? ⟨b2, off2 + 5, none⟩ = some (.slice fk mk gk) ∧ wr.cell? ⟨b2, off2 + 6, none⟩ = some (.int .i64 p2)) ∧
        Calls Tryd.prog 29 #[.agg #[.int .i64 k2, .int .i64 o2, .string s2, .slice f1 m1 g1, .slice f2 m2 g2, .slice fk mk gk, .int .i64 p2], .bool lone] wr fun e w' => (∃ b : Bool, e = .returned (.bool b) ∧ (b = true ↔ lowN lone m 5 (kp x j))) ∧ Below wr.heap.size wr w') := by
  obtain ⟨b, off, d1, e1, d2, e2, dk, ek, ha, hlo, hb, hw⟩ := kid_at h hj
  have okj := ok j hj
  refine ⟨b, off, _, _, _, d1, _, e1, d2, _, e2, dk, _, ek, _, ha, rfl, fun h26 => ?_, fun wr hwr => (hw wr hwr).1, fun wr hwr => IH n _ lo _ wr _ (hw wr hwr).2 okj, fun hlone hx5 h26 => ?_⟩
  · cases m with
    | zero => exact okj.elim
    | succ m =>
      have h1 := okj.1
      have h2 := okj.2.1
      have h26' : (nAt x.kids j).kind = 26 := h26
      constructor
      · rw [h2]
        show decide (21 ≤ (nAt x.kids j).kind) = true
        rw [h26']
        rfl
      · have : ((nAt x.kids j).kids.length : Int) = arK (nAt x.kids j).kind := h1
        rw [h26', show arK 26 = 1 from rfl] at this
        omega
  · obtain ⟨m, rfl⟩ : ∃ m', m = m' + 1 := by
      cases m with
      | zero => exact okj.elim
      | succ m => exact ⟨m, rfl⟩
    have h26' : (nAt x.kids j).kind = 26 := h26
    have hl1 : (nAt x.kids j).kids.length = 1 := by
      have : ((nAt x.kids j).kids.length : Int) = arK (nAt x.kids j).kind := okj.1
      rw [h26', show arK 26 = 1 from rfl] at this
      omega
    obtain ⟨m', hm', a1', c1', a2', c2', ak', ck', hv, -, -, -, hK'⟩ := (hw w (Below.refl _ _)).2.letters
    obtain rfl : m = m' := by omega
    unfold ndV at hv
    simp only [Value.agg.injEq, Array.mk.injEq, List.cons.injEq, and_true, true_and, Value.slice.injEq] at hv
    obtain ⟨-, -, hv3, -⟩ := hv
    subst hv3
    obtain ⟨b2, off2, f1, g1, f2, g2, fk, gk, ha2, hlo2, hb2, hw2⟩ := kid_at hK' (j := 0) (by omega)
    have ok0 := okj.2.2.2 0 (by show 0 < (nAt x.kids j).kids.length; omega)
    refine ⟨b2, off2, _, _, _, f1, _, g1, f2, _, g2, fk, _, gk, _, ha2, fun wr hwr => ⟨by simpa only [Seven, Nat.zero_mul, Nat.add_zero] using (hw2 wr hwr).1, ?_⟩⟩
    refine (IH n _ lo _ wr _ (hw2 wr hwr).2.deeper ok0.deeper).mono ?_
    rintro e w' ⟨⟨bk, he, hbk⟩, hb'⟩
    refine ⟨⟨bk, he, hbk.trans ?_⟩, hb'⟩
    exact (low_deeper ok0).trans (low_in hlone h26' hl1).symm
set_option maxHeartbeats 4000000 in
theorem low_step {lone : Bool} {m : Nat} (IH : LowC lone m) : LowC lone (m + 1) := by
  intro n x lo va w f hx hok
  obtain ⟨m', hm', a1, c1, a2, c2, ak, ck, rfl, hA, hl, hs, hK⟩ := hx.letters
  obtain rfl : m = m' := by omega
  have HKS := hide (kid_low IH hK hok.2.2.2)
  have HLK : Hid (∀ j, ¬ (lone = true ∧ x.kind = 5 ∧ (kp x j).kind = 26) → (lowN lone m x.kind (kp x j) ↔ lowN lone m 0 (kp x j))) := hide fun j h => low_kid h
  have HFP : Hid (x.kind = 5 → ∀ j, fnP x.kind j = true → j = 0) := hide fun h5 j hj => by
    rw [h5] at hj
    simpa [fnP] using hj
  have HOK : Hid (lowN lone (m + 1) 0 x ↔ ((x.kind = 26 ∧ x.op < 0 ∧ ¬ (lone = true ∧ (0 : Int) = 5)) ∨ ∃ i, i < x.kids.length ∧ lowN lone m x.kind (kp x i))) := hide Iff.rfl
  obtain ⟨OK, hOK⟩ : ∃ OK, lowN lone (m + 1) 0 x = OK := ⟨_, rfl⟩
  rw [hOK] at HOK ⊢
  generalize hQ : (fun (k : Int) (i : Nat) => lowN lone m k (kp x i)) = Q at *
  have HQ : Hid (∀ k i, lowN lone m k (kp x i) = Q k i) := hide (fun f i => by rw [← hQ])
  simp only [HQ.out] at HOK HKS HLK
  generalize hKK : (fun (i : Nat) => (kp x i).kind) = KK at *
  have HKK : Hid (∀ i, (kp x i).kind = KK i) := hide (fun i => by rw [← hKK])
  simp only [HKK.out] at HKS HLK
  clear IH hx hok hA hK hs hm' hOK hQ HQ hKK HKK
  generalize x.kids.length = L at *
  generalize x.kind = K0 at *
  generalize x.op = O0 at *
  generalize x.name = S0 at *
  generalize x.pos = P0 at *
  generalize x.lit.shape.length = L10 at *
  generalize x.lit.cells.length = L20 at *
  have hb0 := one_alloc w (.cells #[.int .i64 K0, .int .i64 O0, .string S0, .slice a1 L10 c1, .slice a2 L20 c2, .slice ak L ck, .int .i64 P0] 34)
  have q0 := cell_new0 w #[.int .i64 K0, .int .i64 O0, .string S0, .slice a1 L10 c1, .slice a2 L20 c2, .slice ak L ck, .int .i64 P0] 34 0 _ rfl
  have q1 := cell_new0 w #[.int .i64 K0, .int .i64 O0, .string S0, .slice a1 L10 c1, .slice a2 L20 c2, .slice ak L ck, .int .i64 P0] 34 1 _ rfl
  have q5 := cell_new0 w #[.int .i64 K0, .int .i64 O0, .string S0, .slice a1 L10 c1, .slice a2 L20 c2, .slice ak L ck, .int .i64 P0] 34 5 _ rfl
  have HQ := hide (And.intro hb0 (And.intro q5 (And.intro q0 (show w.heap.size < (w.alloc (.cells #[.int .i64 K0, .int .i64 O0, .string S0, .slice a1 L10 c1, .slice a2 L20 c2, .slice ak L ck, .int .i64 P0] 34)).heap.size by simp))))
  clear hb0
  by_cases hneg : K0 = 26 ∧ O0 < 0
  · obtain ⟨rfl, ho⟩ := hneg
    have HY : Hid OK := hide (HOK.out.2 (Or.inl ⟨rfl, ho, fun h => absurd h.2 (by decide)⟩))
    clear HOK HKS HLK HFP
    go_enter Tryd.func29, Tryd.ntmps29
    go_wp2
    go_ret
    exact ⟨⟨true, rfl, ⟨fun _ => HY.out, fun _ => rfl⟩⟩, HQ.out.1⟩
  · have HOK2 : Hid (OK ↔ ∃ i, i < L ∧ Q K0 i) := hide ⟨fun h => by
      rcases HOK.out.1 h with h | h
      · exact absurd ⟨h.1, h.2.1⟩ hneg
      · exact h, fun h => HOK.out.2 (Or.inr h)⟩
    clear HOK
    by_cases hk26 : K0 = 26
    · subst hk26
      have ho : ¬ O0 < 0 := fun h => hneg ⟨rfl, h⟩
      have ho2 : 0 ≤ O0 := by omega
      have ho3 : decide (O0 < 0) = false := decide_eq_false ho
      go_enter Tryd.func29, Tryd.ntmps29
      go_wp2
      clear q0 q1 q5 ho ho2 ho3 hneg
      go_loopg [5] L (fun g i wr => ∃ (j : Nat), g + j = L ∧ i = .int .i64 (j : Int) ∧ (∀ i, i < j → ¬ Q 26 i) ∧ Below w.heap.size w wr ∧ wr.cell? ⟨w.heap.size, 5, none⟩ = some (.slice ak L ck) ∧ wr.cell? ⟨w.heap.size, 0, none⟩ = some (.int .i64 26) ∧ w.heap.size < wr.heap.size)
      case atStart => exact ⟨0, rfl, rfl, fun i hi => absurd hi (by omega), HQ.out.1, HQ.out.2.1, HQ.out.2.2.1, HQ.out.2.2.2⟩
      case round =>
        clear HQ
        obtain ⟨j, hj, rfl, hall, hnx, hcl, hcl0, hsz2⟩ := hrel
        have HSZ := hide hsz2
        have HALL := hide hall
        clear hsz2 hall
        by_cases hlt : j < L
        · obtain ⟨b, off, k1, o1, s1, d1, l1, e1, d2, l2, e2, dk, lk, ek, p1, rfl, hk1, h26, hw, hc, hd⟩ := HKS.out j hlt
          obtain ⟨g0, g1, g2, g3, g4, g5, g6⟩ := hw _ hnx
          have HLJ := hide (HLK.out j)
          rw [hk1] at HLJ
          have HFJ : Hid ((26 : Int) = 5 → k1 = 26 → j = 0) := hide (fun h5 h => HFP.out h5 j (h26 h).1)
          have HLK1 : Hid (k1 = 26 → lk = 1) := hide (fun h => (h26 h).2)
          have HC := hide hc
          have HD := hide hd
          clear hw hc hd HKS hk1 h26 HLK HFP
          obtain ⟨W5, hW5⟩ : ∃ W5, wr.alloc (.cells #[.int .i64 k1, .int .i64 o1, .string s1, .slice d1 l1 e1, .slice d2 l2 e2, .slice dk lk ek, .int .i64 p1] 34) = W5 := ⟨_, rfl⟩
          have hb5 : Below wr.heap.size wr W5 := by rw [← hW5]; exact alloc_one _ _
          have hx5 : W5.heap[wr.heap.size]? = some (.cells #[.int .i64 k1, .int .i64 o1, .string s1, .slice d1 l1 e1, .slice d2 l2 e2, .slice dk lk ek, .int .i64 p1] 34 (0, 0)) := by rw [← hW5]; exact heap_alloc_new wr _
          have HB5 := hide (hnx.trans (hb5.mono hnx.size))
          have y0 : W5.cell? ⟨wr.heap.size, 0, none⟩ = some (.int .i64 k1) := (Lib.cell_of_heap hx5 0).trans rfl
          have y1 : W5.cell? ⟨wr.heap.size, 1, none⟩ = some (.int .i64 o1) := (Lib.cell_of_heap hx5 1).trans rfl
          have y2 : W5.cell? ⟨wr.heap.size, 2, none⟩ = some (.string s1) := (Lib.cell_of_heap hx5 2).trans rfl
          have y3 : W5.cell? ⟨wr.heap.size, 3, none⟩ = some (.slice d1 l1 e1) := (Lib.cell_of_heap hx5 3).trans rfl
          have y4 : W5.cell? ⟨wr.heap.size, 4, none⟩ = some (.slice d2 l2 e2) := (Lib.cell_of_heap hx5 4).trans rfl
          have y5 : W5.cell? ⟨wr.heap.size, 5, none⟩ = some (.slice dk lk ek) := (Lib.cell_of_heap hx5 5).trans rfl
          have y6 : W5.cell? ⟨wr.heap.size, 6, none⟩ = some (.int .i64 p1) := (Lib.cell_of_heap hx5 6).trans rfl
          have z0 := (hb5.cell (p := ⟨w.heap.size, 0, none⟩) HSZ.out).trans hcl0
          have z5 := (hb5.cell (p := ⟨w.heap.size, 5, none⟩) HSZ.out).trans hcl
          have HS5 : Hid (w.heap.size < W5.heap.size) := hide (Nat.lt_of_lt_of_le HSZ.out hb5.size)
          go_upto_region 7 with fail
          try rw [hW5]
          clear g0 g1 g2 g3 g4 g5 g6 hW5 hb5 hx5 hcl hcl0 HSZ hnx
          cases lone with
          | false =>
            have HX := hide ((HC.out W5 HB5.out).mono (R' := fun e w' => (∃ b : Bool, e = .returned (.bool b) ∧ (b = true ↔ Q 26 j)) ∧ Below W5.heap.size W5 w') (by
              rintro e w' ⟨⟨bk, he, hbk⟩, hb'⟩
              exact ⟨⟨bk, he, hbk.trans (HLJ.out (fun h => absurd h.1 (by decide))).symm⟩, hb'⟩))
            clear HC HD HLJ HFJ HLK1
            go_wp2_with fail
            refine HX.out.mono ?_
            rintro e w1 ⟨⟨bk, rfl, hbk⟩, hb1⟩
            have HBK := hide hbk
            have h0' := (hb1.cell (p := ⟨w.heap.size, 0, none⟩) HS5.out).trans z0
            have h5' := (hb1.cell (p := ⟨w.heap.size, 5, none⟩) HS5.out).trans z5
            have HB6 := hide (HB5.out.trans (hb1.mono HB5.out.size))
            have HS6 : Hid (w.heap.size < w1.heap.size) := hide (Nat.lt_of_lt_of_le HS5.out hb1.size)
            clear hbk y0 y1 y2 y3 y4 y5 y6 z0 z5 hb1 HB5 HS5 HX
            cases bk with
            | true =>
              have HY : Hid OK := hide (HOK2.out.2 ⟨j, hlt, HBK.out.1 rfl⟩)
              clear HOK2 HBK HALL
              go_wp2
              go_ret
              exact ⟨⟨true, rfl, ⟨fun _ => HY.out, fun _ => rfl⟩⟩, HB6.out⟩
            | false =>
              have HNQ : Hid (¬ Q 26 j) := hide (fun h => absurd (HBK.out.2 h) (by decide))
              clear HBK
              go_wp2
              go_roundg (L - (j + 1))
              case rel =>
                refine ⟨j + 1, by omega, by go_num, fun i hi => ?_, HB6.out, h5', h0', HS6.out⟩
                by_cases hij : i = j
                · subst hij; exact HNQ.out
                · exact HALL.out i (by omega)
              case measure => omega
          | true =>
            by_cases hj0 : j = 0
            · have hji : ((j : Int) == 0) = true := beq_iff_eq.2 (by omega)
              clear hj0
              have hK5' : ((26 : Int) == 5) = false := by decide
              have HX := hide ((HC.out W5 HB5.out).mono (R' := fun e w' => (∃ b : Bool, e = .returned (.bool b) ∧ (b = true ↔ Q 26 j)) ∧ Below W5.heap.size W5 w') (by
                rintro e w' ⟨⟨bk, he, hbk⟩, hb'⟩
                exact ⟨⟨bk, he, hbk.trans (HLJ.out (fun h => absurd h.2.1 (by decide))).symm⟩, hb'⟩))
              clear HC HD HLJ HFJ HLK1
              go_wp2_with fail
              refine HX.out.mono ?_
              rintro e w1 ⟨⟨bk, rfl, hbk⟩, hb1⟩
              have HBK := hide hbk
              have h0' := (hb1.cell (p := ⟨w.heap.size, 0, none⟩) HS5.out).trans z0
              have h5' := (hb1.cell (p := ⟨w.heap.size, 5, none⟩) HS5.out).trans z5
              have HB6 := hide (HB5.out.trans (hb1.mono HB5.out.size))
              have HS6 : Hid (w.heap.size < w1.heap.size) := hide (Nat.lt_of_lt_of_le HS5.out hb1.size)
              clear hbk y0 y1 y2 y3 y4 y5 y6 z0 z5 hb1 HB5 HS5 HX
              cases bk with
              | true =>
                have HY : Hid OK := hide (HOK2.out.2 ⟨j, hlt, HBK.out.1 rfl⟩)
                clear HOK2 HBK HALL
                go_wp2
                go_ret
                exact ⟨⟨true, rfl, ⟨fun _ => HY.out, fun _ => rfl⟩⟩, HB6.out⟩
              | false =>
                have HNQ : Hid (¬ Q 26 j) := hide (fun h => absurd (HBK.out.2 h) (by decide))
                clear HBK
                go_wp2
                go_roundg (L - (j + 1))
                case rel =>
                  refine ⟨j + 1, by omega, by go_num, fun i hi => ?_, HB6.out, h5', h0', HS6.out⟩
                  by_cases hij : i = j
                  · subst hij; exact HNQ.out
                  · exact HALL.out i (by omega)
                case measure => omega
            · have hji : ((j : Int) == 0) = false := beq_eq_false_iff_ne.2 (by omega)
              have HX := hide ((HC.out W5 HB5.out).mono (R' := fun e w' => (∃ b : Bool, e = .returned (.bool b) ∧ (b = true ↔ Q 26 j)) ∧ Below W5.heap.size W5 w') (by
                rintro e w' ⟨⟨bk, he, hbk⟩, hb'⟩
                exact ⟨⟨bk, he, hbk.trans (HLJ.out (fun h => hj0 (HFJ.out h.2.1 h.2.2))).symm⟩, hb'⟩))
              clear HC HD HLJ HFJ HLK1
              go_wp2_with fail
              refine HX.out.mono ?_
              rintro e w1 ⟨⟨bk, rfl, hbk⟩, hb1⟩
              have HBK := hide hbk
              have h0' := (hb1.cell (p := ⟨w.heap.size, 0, none⟩) HS5.out).trans z0
              have h5' := (hb1.cell (p := ⟨w.heap.size, 5, none⟩) HS5.out).trans z5
              have HB6 := hide (HB5.out.trans (hb1.mono HB5.out.size))
              have HS6 : Hid (w.heap.size < w1.heap.size) := hide (Nat.lt_of_lt_of_le HS5.out hb1.size)
              clear hbk y0 y1 y2 y3 y4 y5 y6 z0 z5 hb1 HB5 HS5 HX
              cases bk with
              | true =>
                have HY : Hid OK := hide (HOK2.out.2 ⟨j, hlt, HBK.out.1 rfl⟩)
                clear HOK2 HBK HALL
                go_wp2
                go_ret
                exact ⟨⟨true, rfl, ⟨fun _ => HY.out, fun _ => rfl⟩⟩, HB6.out⟩
              | false =>
                have HNQ : Hid (¬ Q 26 j) := hide (fun h => absurd (HBK.out.2 h) (by decide))
                clear HBK
                go_wp2
                go_roundg (L - (j + 1))
                case rel =>
                  refine ⟨j + 1, by omega, by go_num, fun i hi => ?_, HB6.out, h5', h0', HS6.out⟩
                  by_cases hij : i = j
                  · subst hij; exact HNQ.out
                  · exact HALL.out i (by omega)
                case measure => omega
        · have hje : j = L := by omega
          subst hje
          have HN : Hid (¬ OK) := hide fun h => by
            obtain ⟨i, hi, hq⟩ := HOK2.out.1 h
            exact HALL.out i hi hq
          clear HKS HLK HFP HOK2 HALL
          go_wp2
          go_ret
          exact ⟨⟨false, rfl, ⟨fun h => absurd h (by decide), fun h => absurd h HN.out⟩⟩, hnx⟩
    · have hk26' : (K0 == 26) = false := beq_eq_false_iff_ne.2 hk26
      go_enter Tryd.func29, Tryd.ntmps29
      go_wp2
      clear q0 q1 q5 hneg hk26 hk26'
      go_loopg [5] L (fun g i wr => ∃ (j : Nat), g + j = L ∧ i = .int .i64 (j : Int) ∧ (∀ i, i < j → ¬ Q K0 i) ∧ Below w.heap.size w wr ∧ wr.cell? ⟨w.heap.size, 5, none⟩ = some (.slice ak L ck) ∧ wr.cell? ⟨w.heap.size, 0, none⟩ = some (.int .i64 K0) ∧ w.heap.size < wr.heap.size)
      case atStart => exact ⟨0, rfl, rfl, fun i hi => absurd hi (by omega), HQ.out.1, HQ.out.2.1, HQ.out.2.2.1, HQ.out.2.2.2⟩
      case round =>
        clear HQ
        obtain ⟨j, hj, rfl, hall, hnx, hcl, hcl0, hsz2⟩ := hrel
        have HSZ := hide hsz2
        have HALL := hide hall
        clear hsz2 hall
        by_cases hlt : j < L
        · obtain ⟨b, off, k1, o1, s1, d1, l1, e1, d2, l2, e2, dk, lk, ek, p1, rfl, hk1, h26, hw, hc, hd⟩ := HKS.out j hlt
          obtain ⟨g0, g1, g2, g3, g4, g5, g6⟩ := hw _ hnx
          have HLJ := hide (HLK.out j)
          rw [hk1] at HLJ
          have HFJ : Hid (K0 = 5 → k1 = 26 → j = 0) := hide (fun h5 h => HFP.out h5 j (h26 h).1)
          have HLK1 : Hid (k1 = 26 → lk = 1) := hide (fun h => (h26 h).2)
          have HC := hide hc
          have HD := hide hd
          clear hw hc hd HKS hk1 h26 HLK HFP
          obtain ⟨W5, hW5⟩ : ∃ W5, wr.alloc (.cells #[.int .i64 k1, .int .i64 o1, .string s1, .slice d1 l1 e1, .slice d2 l2 e2, .slice dk lk ek, .int .i64 p1] 34) = W5 := ⟨_, rfl⟩
          have hb5 : Below wr.heap.size wr W5 := by rw [← hW5]; exact alloc_one _ _
          have hx5 : W5.heap[wr.heap.size]? = some (.cells #[.int .i64 k1, .int .i64 o1, .string s1, .slice d1 l1 e1, .slice d2 l2 e2, .slice dk lk ek, .int .i64 p1] 34 (0, 0)) := by rw [← hW5]; exact heap_alloc_new wr _
          have HB5 := hide (hnx.trans (hb5.mono hnx.size))
          have y0 : W5.cell? ⟨wr.heap.size, 0, none⟩ = some (.int .i64 k1) := (Lib.cell_of_heap hx5 0).trans rfl
          have y1 : W5.cell? ⟨wr.heap.size, 1, none⟩ = some (.int .i64 o1) := (Lib.cell_of_heap hx5 1).trans rfl
          have y2 : W5.cell? ⟨wr.heap.size, 2, none⟩ = some (.string s1) := (Lib.cell_of_heap hx5 2).trans rfl
          have y3 : W5.cell? ⟨wr.heap.size, 3, none⟩ = some (.slice d1 l1 e1) := (Lib.cell_of_heap hx5 3).trans rfl
          have y4 : W5.cell? ⟨wr.heap.size, 4, none⟩ = some (.slice d2 l2 e2) := (Lib.cell_of_heap hx5 4).trans rfl
          have y5 : W5.cell? ⟨wr.heap.size, 5, none⟩ = some (.slice dk lk ek) := (Lib.cell_of_heap hx5 5).trans rfl
          have y6 : W5.cell? ⟨wr.heap.size, 6, none⟩ = some (.int .i64 p1) := (Lib.cell_of_heap hx5 6).trans rfl
          have z0 := (hb5.cell (p := ⟨w.heap.size, 0, none⟩) HSZ.out).trans hcl0
          have z5 := (hb5.cell (p := ⟨w.heap.size, 5, none⟩) HSZ.out).trans hcl
          have HS5 : Hid (w.heap.size < W5.heap.size) := hide (Nat.lt_of_lt_of_le HSZ.out hb5.size)
          go_upto_region 7 with fail
          try rw [hW5]
          clear g0 g1 g2 g3 g4 g5 g6 hW5 hb5 hx5 hcl hcl0 HSZ hnx
          cases lone with
          | false =>
            have HX := hide ((HC.out W5 HB5.out).mono (R' := fun e w' => (∃ b : Bool, e = .returned (.bool b) ∧ (b = true ↔ Q K0 j)) ∧ Below W5.heap.size W5 w') (by
              rintro e w' ⟨⟨bk, he, hbk⟩, hb'⟩
              exact ⟨⟨bk, he, hbk.trans (HLJ.out (fun h => absurd h.1 (by decide))).symm⟩, hb'⟩))
            clear HC HD HLJ HFJ HLK1
            go_wp2_with fail
            refine HX.out.mono ?_
            rintro e w1 ⟨⟨bk, rfl, hbk⟩, hb1⟩
            have HBK := hide hbk
            have h0' := (hb1.cell (p := ⟨w.heap.size, 0, none⟩) HS5.out).trans z0
            have h5' := (hb1.cell (p := ⟨w.heap.size, 5, none⟩) HS5.out).trans z5
            have HB6 := hide (HB5.out.trans (hb1.mono HB5.out.size))
            have HS6 : Hid (w.heap.size < w1.heap.size) := hide (Nat.lt_of_lt_of_le HS5.out hb1.size)
            clear hbk y0 y1 y2 y3 y4 y5 y6 z0 z5 hb1 HB5 HS5 HX
            cases bk with
            | true =>
              have HY : Hid OK := hide (HOK2.out.2 ⟨j, hlt, HBK.out.1 rfl⟩)
              clear HOK2 HBK HALL
              go_wp2
              go_ret
              exact ⟨⟨true, rfl, ⟨fun _ => HY.out, fun _ => rfl⟩⟩, HB6.out⟩
            | false =>
              have HNQ : Hid (¬ Q K0 j) := hide (fun h => absurd (HBK.out.2 h) (by decide))
              clear HBK
              go_wp2
              go_roundg (L - (j + 1))
              case rel =>
                refine ⟨j + 1, by omega, by go_num, fun i hi => ?_, HB6.out, h5', h0', HS6.out⟩
                by_cases hij : i = j
                · subst hij; exact HNQ.out
                · exact HALL.out i (by omega)
              case measure => omega
          | true =>
            by_cases hj0 : j = 0
            · have hji : ((j : Int) == 0) = true := beq_iff_eq.2 (by omega)
              clear hj0
              by_cases hK5 : K0 = 5
              · subst hK5
                by_cases hk26 : k1 = 26
                · subst hk26
                  have HL1 := HLK1.out rfl
                  subst HL1
                  obtain ⟨b2, off2, k2, o2, s2, f1, m1, g1, f2, m2, g2, fk, mk, gk, p2, rfl, hw2⟩ := HD.out rfl rfl rfl
                  obtain ⟨⟨x0, x1, x2, x3, x4, x5, x6⟩, hc2⟩ := hw2 W5 HB5.out
                  have HX := hide hc2
                  clear hw2 hc2 HC HD HLJ HFJ HLK1
                  go_wp2_with fail
                  refine HX.out.mono ?_
                  clear x0 x1 x2 x3 x4 x5 x6
                  rintro e w1 ⟨⟨bk, rfl, hbk⟩, hb1⟩
                  have HBK := hide hbk
                  have h0' := (hb1.cell (p := ⟨w.heap.size, 0, none⟩) HS5.out).trans z0
                  have h5' := (hb1.cell (p := ⟨w.heap.size, 5, none⟩) HS5.out).trans z5
                  have HB6 := hide (HB5.out.trans (hb1.mono HB5.out.size))
                  have HS6 : Hid (w.heap.size < w1.heap.size) := hide (Nat.lt_of_lt_of_le HS5.out hb1.size)
                  clear hbk y0 y1 y2 y3 y4 y5 y6 z0 z5 hb1 HB5 HS5 HX
                  cases bk with
                  | true =>
                    have HY : Hid OK := hide (HOK2.out.2 ⟨j, hlt, HBK.out.1 rfl⟩)
                    clear HOK2 HBK HALL
                    go_wp2
                    go_ret
                    exact ⟨⟨true, rfl, ⟨fun _ => HY.out, fun _ => rfl⟩⟩, HB6.out⟩
                  | false =>
                    have HNQ : Hid (¬ Q 5 j) := hide (fun h => absurd (HBK.out.2 h) (by decide))
                    clear HBK
                    go_wp2
                    go_roundg (L - (j + 1))
                    case rel =>
                      refine ⟨j + 1, by omega, by go_num, fun i hi => ?_, HB6.out, h5', h0', HS6.out⟩
                      by_cases hij : i = j
                      · subst hij; exact HNQ.out
                      · exact HALL.out i (by omega)
                    case measure => omega
                · have hk26' : (k1 == 26) = false := beq_eq_false_iff_ne.2 hk26
                  have HX := hide ((HC.out W5 HB5.out).mono (R' := fun e w' => (∃ b : Bool, e = .returned (.bool b) ∧ (b = true ↔ Q 5 j)) ∧ Below W5.heap.size W5 w') (by
                    rintro e w' ⟨⟨bk, he, hbk⟩, hb'⟩
                    exact ⟨⟨bk, he, hbk.trans (HLJ.out (fun h => hk26 h.2.2)).symm⟩, hb'⟩))
                  clear HC HD HLJ HFJ HLK1
                  go_wp2_with fail
                  refine HX.out.mono ?_
                  rintro e w1 ⟨⟨bk, rfl, hbk⟩, hb1⟩
                  have HBK := hide hbk
                  have h0' := (hb1.cell (p := ⟨w.heap.size, 0, none⟩) HS5.out).trans z0
                  have h5' := (hb1.cell (p := ⟨w.heap.size, 5, none⟩) HS5.out).trans z5
                  have HB6 := hide (HB5.out.trans (hb1.mono HB5.out.size))
                  have HS6 : Hid (w.heap.size < w1.heap.size) := hide (Nat.lt_of_lt_of_le HS5.out hb1.size)
                  clear hbk y0 y1 y2 y3 y4 y5 y6 z0 z5 hb1 HB5 HS5 HX
                  cases bk with
                  | true =>
                    have HY : Hid OK := hide (HOK2.out.2 ⟨j, hlt, HBK.out.1 rfl⟩)
                    clear HOK2 HBK HALL
                    go_wp2
                    go_ret
                    exact ⟨⟨true, rfl, ⟨fun _ => HY.out, fun _ => rfl⟩⟩, HB6.out⟩
                  | false =>
                    have HNQ : Hid (¬ Q 5 j) := hide (fun h => absurd (HBK.out.2 h) (by decide))
                    clear HBK
                    go_wp2
                    go_roundg (L - (j + 1))
                    case rel =>
                      refine ⟨j + 1, by omega, by go_num, fun i hi => ?_, HB6.out, h5', h0', HS6.out⟩
                      by_cases hij : i = j
                      · subst hij; exact HNQ.out
                      · exact HALL.out i (by omega)
                    case measure => omega
              · have hK5' : (K0 == 5) = false := beq_eq_false_iff_ne.2 hK5
                have HX := hide ((HC.out W5 HB5.out).mono (R' := fun e w' => (∃ b : Bool, e = .returned (.bool b) ∧ (b = true ↔ Q K0 j)) ∧ Below W5.heap.size W5 w') (by
                  rintro e w' ⟨⟨bk, he, hbk⟩, hb'⟩
                  exact ⟨⟨bk, he, hbk.trans (HLJ.out (fun h => hK5 h.2.1)).symm⟩, hb'⟩))
                clear HC HD HLJ HFJ HLK1
                go_wp2_with fail
                refine HX.out.mono ?_
                rintro e w1 ⟨⟨bk, rfl, hbk⟩, hb1⟩
                have HBK := hide hbk
                have h0' := (hb1.cell (p := ⟨w.heap.size, 0, none⟩) HS5.out).trans z0
                have h5' := (hb1.cell (p := ⟨w.heap.size, 5, none⟩) HS5.out).trans z5
                have HB6 := hide (HB5.out.trans (hb1.mono HB5.out.size))
                have HS6 : Hid (w.heap.size < w1.heap.size) := hide (Nat.lt_of_lt_of_le HS5.out hb1.size)
                clear hbk y0 y1 y2 y3 y4 y5 y6 z0 z5 hb1 HB5 HS5 HX
                cases bk with
                | true =>
                  have HY : Hid OK := hide (HOK2.out.2 ⟨j, hlt, HBK.out.1 rfl⟩)
                  clear HOK2 HBK HALL
                  go_wp2
                  go_ret
                  exact ⟨⟨true, rfl, ⟨fun _ => HY.out, fun _ => rfl⟩⟩, HB6.out⟩
                | false =>
                  have HNQ : Hid (¬ Q K0 j) := hide (fun h => absurd (HBK.out.2 h) (by decide))
                  clear HBK
                  go_wp2
                  go_roundg (L - (j + 1))
                  case rel =>
                    refine ⟨j + 1, by omega, by go_num, fun i hi => ?_, HB6.out, h5', h0', HS6.out⟩
                    by_cases hij : i = j
                    · subst hij; exact HNQ.out
                    · exact HALL.out i (by omega)
                  case measure => omega
            · have hji : ((j : Int) == 0) = false := beq_eq_false_iff_ne.2 (by omega)
              have HX := hide ((HC.out W5 HB5.out).mono (R' := fun e w' => (∃ b : Bool, e = .returned (.bool b) ∧ (b = true ↔ Q K0 j)) ∧ Below W5.heap.size W5 w') (by
                rintro e w' ⟨⟨bk, he, hbk⟩, hb'⟩
                exact ⟨⟨bk, he, hbk.trans (HLJ.out (fun h => hj0 (HFJ.out h.2.1 h.2.2))).symm⟩, hb'⟩))
              clear HC HD HLJ HFJ HLK1
              go_wp2_with fail
              refine HX.out.mono ?_
              rintro e w1 ⟨⟨bk, rfl, hbk⟩, hb1⟩
              have HBK := hide hbk
              have h0' := (hb1.cell (p := ⟨w.heap.size, 0, none⟩) HS5.out).trans z0
              have h5' := (hb1.cell (p := ⟨w.heap.size, 5, none⟩) HS5.out).trans z5
              have HB6 := hide (HB5.out.trans (hb1.mono HB5.out.size))
              have HS6 : Hid (w.heap.size < w1.heap.size) := hide (Nat.lt_of_lt_of_le HS5.out hb1.size)
              clear hbk y0 y1 y2 y3 y4 y5 y6 z0 z5 hb1 HB5 HS5 HX
              cases bk with
              | true =>
                have HY : Hid OK := hide (HOK2.out.2 ⟨j, hlt, HBK.out.1 rfl⟩)
                clear HOK2 HBK HALL
                go_wp2
                go_ret
                exact ⟨⟨true, rfl, ⟨fun _ => HY.out, fun _ => rfl⟩⟩, HB6.out⟩
              | false =>
                have HNQ : Hid (¬ Q K0 j) := hide (fun h => absurd (HBK.out.2 h) (by decide))
                clear HBK
                go_wp2
                go_roundg (L - (j + 1))
                case rel =>
                  refine ⟨j + 1, by omega, by go_num, fun i hi => ?_, HB6.out, h5', h0', HS6.out⟩
                  by_cases hij : i = j
                  · subst hij; exact HNQ.out
                  · exact HALL.out i (by omega)
                case measure => omega
        · have hje : j = L := by omega
          subst hje
          have HN : Hid (¬ OK) := hide fun h => by
            obtain ⟨i, hi, hq⟩ := HOK2.out.1 h
            exact HALL.out i hi hq
          clear HKS HLK HFP HOK2 HALL
          go_wp2
          go_ret
          exact ⟨⟨false, rfl, ⟨fun h => absurd h (by decide), fun h => absurd h HN.out⟩⟩, hnx⟩
theorem low29 (lone : Bool) (m : Nat) : LowC lone m := by
  induction m with
  | zero => intro n x lo va w f hx; exact hx.elim
  | succ m IH => exact low_step IH
end Go.Proofs.YtneblkdkhlgmcaaDoor
namespace Go.Proofs.YtneblkdkhlgmcaaDoor
open Go.ChangeShapes Go.WideShapes Go.ChangeAt Go.RowKit
set_option maxRecDepth 100000
set_option linter.unusedVariables false
set_option linter.unusedSimpArgs false
set_option maxHeartbeats 8000000 in
theorem rwrite12 {n m : Nat} {w : World} {G : Gs} {x : Nd} {v : Value} (AM : Rm G) (hx : NdIn m n 0 w x v) (hs : sndA x) (hsz : sizeN m x ≤ 4000) (hl : okN m false x → ((TX G m).E G.right x).length ≤ 140737488355328) :
    Calls Tryd.prog 12 #[gV G, v] w fun e w' => e = .returned (.tuple #[.string (str (wrS G m x)), .int .i64 (wrE G m x)]) ∧ Below w.heap.size w w' := by
  have hx0 := hx
  obtain ⟨v1, v2, v3, rfl, hv1⟩ := nd_form hx
  obtain ⟨⟨la1, ll1, lc1, rfl⟩, ⟨la2, ll2, lc2, rfl⟩, ⟨la3, ll3, lc3, rfl⟩⟩ := nd_slices hx0
  have HZ : Hid ((wrB G m x = true → wrE G m x = 0 ∧ wrS G m x = (TX G m).E G.right x) ∧ (wrB G m x = false → wrE G m x = 1 ∧ wrS G m x = [])) := hide (by
    unfold wrE wrS
    constructor <;> intro h <;> rw [h] <;> exact ⟨rfl, rfl⟩)
  have HB : Hid (wrB G m x = true ↔ (sizeN m x ≤ 2048 ∧ okN m false x) ∧ ¬ lowN G.lone m 0 x) := hide (wrB_iff G m x)
  have HCS := hide (fun W (hW : Below w.heap.size w W) => size13 m n x 0 _ W (hx.next hW) hsz)
  have HCR := hide (fun W (hW : Below w.heap.size w W) => right28 m n x 0 _ W false (hx.next hW))
  have HCL := hide (fun (hok : okN m false x) W (hW : Below w.heap.size w W) => low29 G.lone m n x 0 _ W false (hx.next hW) hok)
  have HCE := hide (fun (hok : okN m false x) W (hW : Below w.heap.size w W) => (rwriters (w0 := w) AM n m).2.1 G.right W x _ hx hok hs hW (hl hok))
  have hsl := AM.hsl
  obtain ⟨OK, hOK⟩ : ∃ z, okN m false x = z := ⟨_, rfl⟩
  obtain ⟨LW, hLW⟩ : ∃ z, lowN G.lone m 0 x = z := ⟨_, rfl⟩
  obtain ⟨SZ, hSZ⟩ : ∃ z, sizeN m x = z := ⟨_, rfl⟩
  obtain ⟨WB, hWB⟩ : ∃ z, wrB G m x = z := ⟨_, rfl⟩
  obtain ⟨LE, hLE⟩ : ∃ z, wrE G m x = z := ⟨_, rfl⟩
  obtain ⟨LS, hLS⟩ : ∃ z, wrS G m x = z := ⟨_, rfl⟩
  obtain ⟨ET, hET⟩ : ∃ z, (TX G m).E G.right x = z := ⟨_, rfl⟩
  rw [hOK] at HB HCL HCR HCE
  rw [hLW] at HB HCL
  rw [hSZ] at HB HCS hsz
  rw [hWB] at HB HZ
  rw [hLE] at HZ ⊢
  rw [hLS] at HZ ⊢
  rw [hET] at HZ HCE
  clear hx hx0 hs hl AM hOK hLW hSZ hWB hLE hLS hET hv1
  unfold tV at HCE
  unfold gV
  generalize x.kind = k at *
  generalize x.op = o at *
  generalize x.name = nm at *
  generalize x.pos = ps at *
  generalize G.s1 = S1 at *
  generalize G.s2 = S2 at *
  generalize G.s3 = S3 at *
  obtain ⟨a1, n1, c1, a2, n2, c2, a3, n3, c3, rfl, rfl, rfl⟩ := hsl
  obtain ⟨W2, hW2⟩ : ∃ W2, (w.alloc (.cells #[.slice a1 n1 c1, .slice a2 n2 c2, .slice a3 n3 c3, .string G.outer, .string G.power, .string G.opn, .string G.cls, .string G.left, .string G.right, .string G.minus, .string G.quote, .bool G.trains, .bool G.lone, .bool G.square] 27)).alloc (.cells (sv (k) (o) nm (.slice la1 ll1 lc1) (.slice la2 ll2 lc2) (.slice la3 ll3 lc3) (ps)) 34) = W2 := ⟨_, rfl⟩
  have hb2 : Below w.heap.size w W2 := by rw [← hW2]; exact two_allocs _ _ _
  have s2 : W2.heap.size = w.heap.size + 2 := by rw [← hW2]; simp
  have hA : W2.heap[w.heap.size]? = some (.cells #[.slice a1 n1 c1, .slice a2 n2 c2, .slice a3 n3 c3, .string G.outer, .string G.power, .string G.opn, .string G.cls, .string G.left, .string G.right, .string G.minus, .string G.quote, .bool G.trains, .bool G.lone, .bool G.square] 27 (0, 0)) := by
    rw [← hW2]; exact (Lib.alloc_old _ _ w.heap.size (by simp)).trans (heap_alloc_new w _)
  have hNb : W2.heap[w.heap.size + 1]? = some (.cells (sv (k) (o) nm (.slice la1 ll1 lc1) (.slice la2 ll2 lc2) (.slice la3 ll3 lc3) (ps)) 34 (0, 0)) := by
    have h := heap_alloc_new (w.alloc (.cells #[.slice a1 n1 c1, .slice a2 n2 c2, .slice a3 n3 c3, .string G.outer, .string G.power, .string G.opn, .string G.cls, .string G.left, .string G.right, .string G.minus, .string G.quote, .bool G.trains, .bool G.lone, .bool G.square] 27)) (.cells (sv (k) (o) nm (.slice la1 ll1 lc1) (.slice la2 ll2 lc2) (.slice la3 ll3 lc3) (ps)) 34)
    have e : (w.alloc (.cells #[.slice a1 n1 c1, .slice a2 n2 c2, .slice a3 n3 c3, .string G.outer, .string G.power, .string G.opn, .string G.cls, .string G.left, .string G.right, .string G.minus, .string G.quote, .bool G.trains, .bool G.lone, .bool G.square] 27)).heap.size = w.heap.size + 1 := by simp
    rw [e] at h
    rw [← hW2]; exact h
  have HB2 := hide hb2
  have KS : Hid (∀ W, Below W2.heap.size W2 W → W.cell? ⟨w.heap.size, 0, none⟩ = some (.slice a1 n1 c1) ∧ W.cell? ⟨w.heap.size, 1, none⟩ = some (.slice a2 n2 c2) ∧ W.cell? ⟨w.heap.size, 2, none⟩ = some (.slice a3 n3 c3) ∧ W.cell? ⟨w.heap.size, 3, none⟩ = some (.string G.outer) ∧ W.cell? ⟨w.heap.size, 4, none⟩ = some (.string G.power) ∧ W.cell? ⟨w.heap.size, 5, none⟩ = some (.string G.opn) ∧ W.cell? ⟨w.heap.size, 6, none⟩ = some (.string G.cls) ∧ W.cell? ⟨w.heap.size, 7, none⟩ = some (.string G.left) ∧ W.cell? ⟨w.heap.size, 8, none⟩ = some (.string G.right) ∧ W.cell? ⟨w.heap.size, 9, none⟩ = some (.string G.minus) ∧ W.cell? ⟨w.heap.size, 10, none⟩ = some (.string G.quote) ∧ W.cell? ⟨w.heap.size, 11, none⟩ = some (.bool G.trains) ∧ W.cell? ⟨w.heap.size, 12, none⟩ = some (.bool G.lone) ∧ W.cell? ⟨w.heap.size, 13, none⟩ = some (.bool G.square) ∧ W.cell? ⟨w.heap.size + 1, 0, none⟩ = some (.int .i64 k) ∧ W.cell? ⟨w.heap.size + 1, 1, none⟩ = some (.int .i64 o) ∧ W.cell? ⟨w.heap.size + 1, 2, none⟩ = some (.string nm) ∧ W.cell? ⟨w.heap.size + 1, 3, none⟩ = some (.slice la1 ll1 lc1) ∧ W.cell? ⟨w.heap.size + 1, 4, none⟩ = some (.slice la2 ll2 lc2) ∧ W.cell? ⟨w.heap.size + 1, 5, none⟩ = some (.slice la3 ll3 lc3) ∧ W.cell? ⟨w.heap.size + 1, 6, none⟩ = some (.int .i64 ps)) := hide fun W h => by
    have hA2 := (h.block w.heap.size (by omega)).trans hA
    have hN2 := (h.block (w.heap.size + 1) (by omega)).trans hNb
    exact ⟨(Lib.cell_of_heap hA2 0).trans rfl, (Lib.cell_of_heap hA2 1).trans rfl, (Lib.cell_of_heap hA2 2).trans rfl, (Lib.cell_of_heap hA2 3).trans rfl, (Lib.cell_of_heap hA2 4).trans rfl, (Lib.cell_of_heap hA2 5).trans rfl, (Lib.cell_of_heap hA2 6).trans rfl, (Lib.cell_of_heap hA2 7).trans rfl, (Lib.cell_of_heap hA2 8).trans rfl, (Lib.cell_of_heap hA2 9).trans rfl, (Lib.cell_of_heap hA2 10).trans rfl, (Lib.cell_of_heap hA2 11).trans rfl, (Lib.cell_of_heap hA2 12).trans rfl, (Lib.cell_of_heap hA2 13).trans rfl, (Lib.cell_of_heap hN2 0).trans rfl, (Lib.cell_of_heap hN2 1).trans rfl, (Lib.cell_of_heap hN2 2).trans rfl, (Lib.cell_of_heap hN2 3).trans rfl, (Lib.cell_of_heap hN2 4).trans rfl, (Lib.cell_of_heap hN2 5).trans rfl, (Lib.cell_of_heap hN2 6).trans rfl⟩
  have HBW : Hid (∀ W, Below W2.heap.size W2 W → Below w.heap.size w W) := hide fun W h => hb2.trans (h.mono hb2.size)
  obtain ⟨g0, g1, g2, g3, g4, g5, g6, g7, g8, g9, g10, g11, g12, g13, u0, u1, u2, u3, u4, u5, u6⟩ := KS.out W2 (Below.refl _ _)
  have HC1 := hide (HCS.out W2 hb2)
  clear HCS
  go_enter Tryd.func12, Tryd.ntmps12
  go_upto_region 1 with fail
  try rw [hW2]
  clear hW2 hA hNb s2 hb2
  go_wp2_with fail
  refine HC1.out.mono ?_
  rintro e w3 ⟨rfl, hb3⟩
  have HB3 := hide hb3
  clear HC1 g0 g1 g2 g3 g4 g5 g6 g7 g8 g9 g10 g11 g12 g13 u0 u1 u2 u3 u4 u5 u6
  have hb3 := HB3.out
  by_cases hsz2 : SZ ≤ 2048
  · have hd : decide ((SZ : Int) > 2048) = false := decide_eq_false (by omega)
    have hd' : ¬ ((2048 : Int) < (SZ : Int)) := by omega
    obtain ⟨g0, g1, g2, g3, g4, g5, g6, g7, g8, g9, g10, g11, g12, g13, u0, u1, u2, u3, u4, u5, u6⟩ := KS.out w3 hb3
    have HC2 := hide (HCR.out w3 (HBW.out _ hb3))
    clear HCR
    go_wp2_with fail
    refine HC2.out.mono ?_
    rintro e w4 ⟨⟨bk, rfl, hbk⟩, hb4⟩
    have HBK := hide hbk
    have hb5 := HB3.out.trans (hb4.mono HB3.out.size)
    have HB5 := hide hb5
    clear HC2 hbk hb4 hb3 g0 g1 g2 g3 g4 g5 g6 g7 g8 g9 g10 g11 g12 g13 u0 u1 u2 u3 u4 u5 u6
    cases bk with
    | false =>
      have HF : Hid (WB = false) := hide (by
        cases hh : WB with
        | false => rfl
        | true => exact absurd (HBK.out.2 (HB.out.1 hh).1.2) (by decide))
      clear HCL HCE HBK
      obtain ⟨rfl, rfl⟩ := HZ.out.2 HF.out
      clear HZ HB
      go_wp2
      go_ret2
      exact ⟨rfl, HBW.out _ (by with_reducible assumption)⟩
    | true =>
      have hok := HBK.out.1 rfl
      have HC3 := hide (HCL.out hok w4 (HBW.out _ hb5))
      have HE := hide (HCE.out hok)
      have HOK := hide hok
      clear HCL HCE HBK hok
      obtain ⟨g0, g1, g2, g3, g4, g5, g6, g7, g8, g9, g10, g11, g12, g13, u0, u1, u2, u3, u4, u5, u6⟩ := KS.out w4 hb5
      go_wp2_with fail
      refine HC3.out.mono ?_
      rintro e w6 ⟨⟨bl, rfl, hbl⟩, hb6⟩
      have HBL := hide hbl
      have hb7 := HB5.out.trans (hb6.mono HB5.out.size)
      have HB7 := hide hb7
      clear HC3 hbl hb6 hb5 g0 g1 g2 g3 g4 g5 g6 g7 g8 g9 g10 g11 g12 g13 u0 u1 u2 u3 u4 u5 u6
      cases bl with
      | true =>
        have HF : Hid (WB = false) := hide (by
          cases hh : WB with
          | false => rfl
          | true => exact absurd (HBL.out.1 rfl) (HB.out.1 hh).2)
        clear HE HOK HBL
        obtain ⟨rfl, rfl⟩ := HZ.out.2 HF.out
        clear HZ HB
        go_wp2
        go_ret2
        exact ⟨rfl, HBW.out _ (by with_reducible assumption)⟩
      | false =>
        have HF : Hid (WB = true) := hide (HB.out.2 ⟨⟨hsz2, HOK.out⟩, fun h => absurd (HBL.out.2 h) (by decide)⟩)
        obtain ⟨rfl, rfl⟩ := HZ.out.1 HF.out
        clear HBL HOK HB HZ HF
        obtain ⟨g0, g1, g2, g3, g4, g5, g6, g7, g8, g9, g10, g11, g12, g13, u0, u1, u2, u3, u4, u5, u6⟩ := KS.out w6 hb7
        obtain ⟨W8, hW8⟩ : ∃ W8, w6.alloc (.cells #[.slice a1 n1 c1, .slice a2 n2 c2, .slice a3 n3 c3, .string G.outer, .string G.power, .string G.opn, .string G.cls, .string G.left, .string G.right, .string G.minus, .string G.quote, .bool G.trains, .bool G.lone, .bool G.square, .string G.right] 66) = W8 := ⟨_, rfl⟩
        have hb8 : Below w6.heap.size w6 W8 := by rw [← hW8]; exact alloc_one _ _
        have hT : W8.heap[w6.heap.size]? = some (.cells #[.slice a1 n1 c1, .slice a2 n2 c2, .slice a3 n3 c3, .string G.outer, .string G.power, .string G.opn, .string G.cls, .string G.left, .string G.right, .string G.minus, .string G.quote, .bool G.trains, .bool G.lone, .bool G.square, .string G.right] 66 (0, 0)) := by rw [← hW8]; exact heap_alloc_new w6 _
        have hb9 := hb7.trans (hb8.mono hb7.size)
        have HB9 := hide hb9
        have HKS9 := hide (KS.out W8 hb9)
        have HC4 := hide (HE.out W8 (HBW.out _ hb9))
        have HT := hide hT
        have HW8 := hide hW8
        clear HE hT hb8 hb9 hW8 KS
        go_upto_region 4 with fail
        try rw [HW8.out]
        clear HW8 g0 g1 g2 g3 g4 g5 g6 g7 g8 g9 g10 g11 g12 g13 u0 u1 u2 u3 u4 u5 u6
        obtain ⟨g0, g1, g2, g3, g4, g5, g6, g7, g8, g9, g10, g11, g12, g13, u0, u1, u2, u3, u4, u5, u6⟩ := HKS9.out
        have hT := HT.out
        have t0 : W8.cell? ⟨w6.heap.size, 0, none⟩ = some (.slice a1 n1 c1) := (Lib.cell_of_heap hT 0).trans rfl
        have t1 : W8.cell? ⟨w6.heap.size, 1, none⟩ = some (.slice a2 n2 c2) := (Lib.cell_of_heap hT 1).trans rfl
        have t2 : W8.cell? ⟨w6.heap.size, 2, none⟩ = some (.slice a3 n3 c3) := (Lib.cell_of_heap hT 2).trans rfl
        have t3 : W8.cell? ⟨w6.heap.size, 3, none⟩ = some (.string G.outer) := (Lib.cell_of_heap hT 3).trans rfl
        have t4 : W8.cell? ⟨w6.heap.size, 4, none⟩ = some (.string G.power) := (Lib.cell_of_heap hT 4).trans rfl
        have t5 : W8.cell? ⟨w6.heap.size, 5, none⟩ = some (.string G.opn) := (Lib.cell_of_heap hT 5).trans rfl
        have t6 : W8.cell? ⟨w6.heap.size, 6, none⟩ = some (.string G.cls) := (Lib.cell_of_heap hT 6).trans rfl
        have t7 : W8.cell? ⟨w6.heap.size, 7, none⟩ = some (.string G.left) := (Lib.cell_of_heap hT 7).trans rfl
        have t8 : W8.cell? ⟨w6.heap.size, 8, none⟩ = some (.string G.right) := (Lib.cell_of_heap hT 8).trans rfl
        have t9 : W8.cell? ⟨w6.heap.size, 9, none⟩ = some (.string G.minus) := (Lib.cell_of_heap hT 9).trans rfl
        have t10 : W8.cell? ⟨w6.heap.size, 10, none⟩ = some (.string G.quote) := (Lib.cell_of_heap hT 10).trans rfl
        have t11 : W8.cell? ⟨w6.heap.size, 11, none⟩ = some (.bool G.trains) := (Lib.cell_of_heap hT 11).trans rfl
        have t12 : W8.cell? ⟨w6.heap.size, 12, none⟩ = some (.bool G.lone) := (Lib.cell_of_heap hT 12).trans rfl
        have t13 : W8.cell? ⟨w6.heap.size, 13, none⟩ = some (.bool G.square) := (Lib.cell_of_heap hT 13).trans rfl
        have t14 : W8.cell? ⟨w6.heap.size, 14, none⟩ = some (.string G.right) := (Lib.cell_of_heap hT 14).trans rfl
        clear hT HT HKS9 hb7
        go_wp2_with fail
        refine HC4.out.mono ?_
        rintro e w9 ⟨rfl, hb10⟩
        have HF := hide (HBW.out _ (HB9.out.trans (hb10.mono HB9.out.size)))
        clear hb10 HC4 g0 g1 g2 g3 g4 g5 g6 g7 g8 g9 g10 g11 g12 g13 u0 u1 u2 u3 u4 u5 u6 t0 t1 t2 t3 t4 t5 t6 t7 t8 t9 t10 t11 t12 t13 t14
        go_wp2
        go_ret2
        exact ⟨rfl, HF.out⟩
  · have hd : decide ((SZ : Int) > 2048) = true := decide_eq_true (by omega)
    have hd' : (2048 : Int) < (SZ : Int) := by omega
    have HF : Hid (WB = false) := hide (by
      cases hh : WB with
      | false => rfl
      | true => exact absurd (HB.out.1 hh).1.1 hsz2)
    clear HCL HCE HCR
    obtain ⟨rfl, rfl⟩ := HZ.out.2 HF.out
    clear HZ HB
    go_wp2
    go_ret2
    exact ⟨rfl, HBW.out _ (by with_reducible assumption)⟩
end Go.Proofs.YtneblkdkhlgmcaaDoor
namespace Go.Proofs.YtneblkdkhlgmcaaDoor
open Go.ChangeShapes Go.WideShapes Go.ChangeAt Go.RowKit
set_option maxRecDepth 100000
set_option linter.unusedVariables false
/-- What the weighing of an array no deeper than d promises. -/
def WeighD (d : Nat) : Prop := ∀ n x lo va w (M : Int), ArIn n lo w x va → 0 ≤ M → M ≤ 4000 → Calls Tryd.prog 75 #[va, .int .i64 M, .int .i64 (d : Int)] w fun e w' => (∃ r : Int, e = .returned (.int .i64 r) ∧ 0 ≤ r ∧ r ≤ 147000000000000 + 5000 * (d : Int) ∧ (x.cells.length : Int) + (x.shape.length : Int) ≤ r) ∧ Below w.heap.size w w'
set_option maxHeartbeats 4000000 in
theorem weighD_step (d : Nat) (hd : d ≤ 16) (IH : ∀ d', d = d' + 1 → WeighD d') : WeighD d := by
  intro n x lo va w M hx hM0 hM
  cases n with
  | zero => exact hx.elim
  | succ n =>
  obtain ⟨a1, c1, a2, c2, rfl, R, hl, hc⟩ := hx
  have hlR := R.1
  have hb0 := one_alloc w (.cells #[.slice a1 x.shape.length c1, .slice a2 x.cells.length c2] 31)
  have q := cell_new0 w #[.slice a1 x.shape.length c1, .slice a2 x.cells.length c2] 31 1 _ rfl
  have HB := hide (boxes_at hc)
  /- A world later on: the memory that came in, and the array's own cells. -/
  have HQ := hide (And.intro hb0 (And.intro q (show w.heap.size < (w.alloc (.cells #[.slice a1 x.shape.length c1, .slice a2 x.cells.length c2] 31)).heap.size by simp)))
  clear R hc hb0 q
  generalize hNL : (fun i => (cAt x.cells i).2.2.length) = NL at *
  generalize hY : (fun i k => bAt (cAt x.cells i).2.2 k) = Y at *
  have HB' : Hid (∀ i, i < x.cells.length → ∃ b off ab cb, a2 = some ⟨b, off, none⟩ ∧ NL i ≤ 5864062014805 ∧ (∀ wr, Below w.heap.size w wr → wr.cell? ⟨b, off + i * 3 + 2, none⟩ = some (.slice ab (NL i) cb)) ∧
      ∀ k, k < NL i → ∃ bb ob u0 u1, ab = some ⟨bb, ob, none⟩ ∧ ∀ wr, Below w.heap.size w wr → wr.cell? ⟨bb, ob + k * 2, none⟩ = some u0 ∧ wr.cell? ⟨bb, ob + k * 2 + 1, none⟩ = some u1 ∧ ArIn n lo wr (Y i k) (.agg #[u0, u1])) := by
    subst hNL hY
    exact HB.out
  clear HB hNL hY
  generalize x.shape.length = SA at *
  generalize x.cells.length = CA at *
  go_enter Tryd.func75, Tryd.ntmps75
  go_wp2
  go_loopg [7, 8] CA (fun g nv i wr => ∃ (j : Nat) (N : Int), g + j = CA ∧ i = .int .i64 (j : Int) ∧ nv = .int .i64 N ∧ 0 ≤ N ∧ N ≤ 147000000000000 + 5000 * (d : Int) ∧ (CA : Int) + (SA : Int) ≤ N ∧ Below w.heap.size w wr ∧ wr.cell? ⟨w.heap.size, 1, none⟩ = some (.slice a2 CA c2) ∧ w.heap.size < wr.heap.size)
  case atStart => exact ⟨0, (CA : Int) + (SA : Int), rfl, rfl, by go_num, by omega, by omega, by omega, HQ.out.1, HQ.out.2.1, HQ.out.2.2⟩
  case round =>
    clear HQ
    obtain ⟨j, N, hj, rfl, rfl, hN0, hN1, hthin, hnx, hcl, hsz⟩ := hrel
    have HTH := hide hthin
    have HSZ := hide hsz
    clear hthin hsz
    by_cases hlt : j < CA
    · by_cases hNM : N ≤ M
      · obtain ⟨b, off, ab, cb, rfl, hnl, hbox, hboxes⟩ := HB'.out j hlt
        have HBOX := hide hbox
        have HBXS := hide hboxes
        have HS1 : Hid (NL j = NL j) := rfl
        clear hbox hboxes HB'
        obtain ⟨L, hL⟩ : ∃ L, NL j = L := ⟨_, rfl⟩
        have HLL := hide hL
        rw [hL] at hnl HBOX HBXS
        clear hL HS1
        go_wp2
        go_loopg [7, 9] L (fun g nv kv wr => ∃ (k : Nat) (N' : Int), g + k = L ∧ kv = .int .i64 (k : Int) ∧ nv = .int .i64 N' ∧ 0 ≤ N' ∧ N' ≤ 147000000000000 + 5000 * (d : Int) ∧ (CA : Int) + (SA : Int) ≤ N' ∧ Below w.heap.size w wr ∧ wr.cell? ⟨w.heap.size, 1, none⟩ = some (.slice (some ⟨b, off, none⟩) CA c2) ∧ w.heap.size < wr.heap.size)
        case atStart => exact ⟨0, N, rfl, rfl, rfl, hN0, hN1, HTH.out, hnx, hcl, HSZ.out⟩
        case round =>
          clear hnx hcl HSZ hN0 hN1 hNM
          obtain ⟨k, N', hk, rfl, rfl, hN0, hN1, hthin, hnx, hcl, hsz⟩ := hrel
          have HTH := hide hthin
          have HSZ := hide hsz
          have hbx := HBOX.out _ hnx
          clear hthin hsz
          by_cases hkl : k < L
          · by_cases hNM : N' ≤ M
            · by_cases hd0 : d = 0
              · subst hd0
                clear HBXS HBOX
                go_wp2
                go_ret
                exact ⟨⟨M + 1, by go_num, by omega, by omega, by have := HTH.out; omega⟩, hnx⟩
              · obtain ⟨d', rfl⟩ : ∃ d', d = d' + 1 := ⟨d - 1, by omega⟩
                obtain ⟨bb, ob, u0, u1, rfl, hcs⟩ := HBXS.out k hkl
                obtain ⟨g0, g1, g2⟩ := hcs _ hnx
                have C : Hid (∀ D : Int, D = (d' : Int) → Calls Tryd.prog 75 #[.agg #[u0, u1], .int .i64 (M - N'), .int .i64 D] wr fun e w' => (∃ r : Int, e = .returned (.int .i64 r) ∧ 0 ≤ r ∧ r ≤ 147000000000000 + 5000 * (d' : Int) ∧ True) ∧ Below wr.heap.size wr w') := by
                  rintro D rfl
                  exact (IH d' rfl n _ lo _ wr (M - N') g2 (by omega) (by omega)).mono fun e w' ⟨⟨r, h1, h2, h3, _⟩, h5⟩ => ⟨⟨r, h1, h2, h3, trivial⟩, h5⟩
                have hd1 : ((d' + 1 : Nat) : Int) ≠ 0 := by omega
                clear hcs g2 HBXS hd0
                go_wp2_with fail
                refine (C.out _ (by omega)).mono ?_
                rintro e w1 ⟨⟨r, rfl, hr0, hr1, hrt⟩, hb1⟩
                clear hrt C
                go_wp2
                go_roundg (L - (k + 1))
                case rel =>
                  refine ⟨k + 1, N' + 1 + r, by omega, by go_num, by go_num, by omega, by omega, by have := HTH.out; omega, hnx.trans (hb1.mono hnx.size), (hb1.cell (p := ⟨w.heap.size, 1, none⟩) HSZ.out).trans hcl, Nat.lt_of_lt_of_le HSZ.out hb1.size⟩
                case measure => omega
            · clear HBXS HBOX
              go_wp2
              go_roundg (CA - (j + 1))
              case rel => exact ⟨j + 1, N', by omega, by go_num, rfl, hN0, hN1, HTH.out, hnx, hcl, HSZ.out⟩
              case measure => omega
          · have hke : k = L := by omega
            subst hke
            clear HBXS HBOX
            go_wp2
            go_roundg (CA - (j + 1))
            case rel =>
              refine ⟨j + 1, N', by omega, by go_num, rfl, hN0, hN1, HTH.out, hnx, hcl, HSZ.out⟩
            case measure => omega
      · go_wp2
        go_ret
        exact ⟨⟨N, rfl, hN0, hN1, HTH.out⟩, hnx⟩
    · have hje : j = CA := by omega
      subst hje
      clear HB'
      go_wp2
      go_ret
      exact ⟨⟨N, rfl, hN0, hN1, HTH.out⟩, hnx⟩
theorem weighD_any (d : Nat) (hd : d ≤ 16) : WeighD d := by
  induction d with
  | zero => exact weighD_step 0 hd fun d' h => absurd h (by omega)
  | succ d ih =>
    refine weighD_step (d + 1) hd fun d' h => ?_
    have : d' = d := by omega
    subst this
    exact ih (by omega)
set_option maxHeartbeats 1000000 in
theorem weightM {n lo : Nat} {x : Ar} {va : Value} {w : World} (M : Int) (h0 : 0 ≤ M) (hM : M ≤ 4000) (hx : ArIn n lo w x va) : Calls Tryd.prog 59 #[va, .int .i64 M] w fun e w' => (∃ r : Int, e = .returned (.int .i64 r) ∧ 0 ≤ r ∧ r ≤ 147000000080000 ∧ (x.cells.length : Int) + (x.shape.length : Int) ≤ r) ∧ Below w.heap.size w w' := by
  have C := fun w' hb => weighD_any 16 (Nat.le_refl _) n x lo va w' M (hx.next hb) h0 hM
  cases n with
  | zero => exact hx.elim
  | succ n =>
    obtain ⟨a1, c1, a2, c2, rfl, -⟩ := hx
    generalize x.shape.length = SA at *
    generalize x.cells.length = CA at *
    have C1 := C _ (one_alloc w (.cells #[.slice a1 SA c1, .slice a2 CA c2] 31))
    clear C
    go_enter Tryd.func59, Tryd.ntmps59
    go_wp2_with fail
    refine C1.mono ?_
    rintro e w1 ⟨⟨r, rfl, hr0, hr1, hr⟩, hb1⟩
    go_wp2
    go_ret
    exact ⟨⟨r, rfl, hr0, by omega, hr⟩, (one_alloc _ _).trans (hb1.mono (one_alloc _ _).size)⟩
/-- How many nodes and cells there are. -/
def wN : Nat → Nd → Nat
  | 0, _ => 0
  | m + 1, x => 1 + x.lit.cells.length + sumUp (fun i => wN m (nAt x.kids i)) x.kids.length
/-- What the weighing of a program promises. -/
def WeiC (d : Nat) : Prop := ∀ m n x lo va w (M : Int), NdIn m n lo w x va → 0 ≤ M → M ≤ 4000 → Calls Tryd.prog 35 #[va, .int .i64 M, .int .i64 (d : Int)] w fun e w' => (∃ r : Int, e = .returned (.int .i64 r) ∧ 0 ≤ r ∧ r ≤ 148000000000000 + 5000 * (d : Int) ∧ (r ≤ M → (wN m x : Int) ≤ r)) ∧ Below w.heap.size w w'
theorem kid_wei {m n lo d : Nat} {w : World} {x : Nd} {ak : Option Addr} (IH : WeiC d) (h : KidsIn m n lo w x.kids ak) (j : Nat) (hj : j < x.kids.length) :
    ∃ b off K O S A1 L1 C1 A2 L2 C2 AK LK CK P, ak = some ⟨b, off, none⟩ ∧ ∀ wr, Below w.heap.size w wr → (wr.cell? ⟨b, off + j * 7, none⟩ = some (.int .i64 K) ∧ wr.cell? ⟨b, off + j * 7 + 1, none⟩ = some (.int .i64 O) ∧ wr.cell? ⟨b, off + j * 7 + 2, none⟩ = some (.string S) ∧ wr.cell? ⟨b, off + j * 7 + 3, none⟩ = some (.slice A1 L1 C1) ∧ wr.cell? ⟨b, off + j * 7 + 4, none⟩ = some (.slice A2 L2 C2) ∧ wr.cell? ⟨b, off + j * 7 + 5, none⟩ = some (.slice AK LK CK) ∧ wr.cell? ⟨b, off + j * 7 + 6, none⟩ = some (.int .i64 P)) ∧
      ∀ M D : Int, 0 ≤ M → M ≤ 4000 → D = (d : Int) → Calls Tryd.prog 35 #[.agg #[.int .i64 K, .int .i64 O, .string S, .slice A1 L1 C1, .slice A2 L2 C2, .slice AK LK CK, .int .i64 P], .int .i64 M, .int .i64 D] wr fun e w' => (∃ r : Int, e = .returned (.int .i64 r) ∧ 0 ≤ r ∧ r ≤ 148000000000000 + 5000 * (d : Int) ∧ (r ≤ M → (wN m (nAt x.kids j) : Int) ≤ r)) ∧ Below wr.heap.size wr w' := by
  obtain ⟨b, off, K, O, S, A1, L1, C1, A2, L2, C2, AK, LK, CK, P, ha, hb, hw⟩ := kid_cells h hj
  exact ⟨b, off, K, O, S, A1, L1, C1, A2, L2, C2, AK, LK, CK, P, ha, fun wr hwr => ⟨(hw wr hwr).1, fun M D h0 h1 hD => by subst hD; exact IH m n _ lo _ wr M (hw wr hwr).2 h0 h1⟩⟩
set_option maxHeartbeats 4000000 in
theorem wei_step (d : Nat) (hd : d ≤ 40) (IH : ∀ d', d = d' + 1 → WeiC d') : WeiC d := by
  intro m n x lo va w M hx hM0 hM
  obtain ⟨m', hm', a1, c1, a2, c2, ak, ck, rfl, hA, hl, hs, hK⟩ := hx.letters
  subst hm'
  have HKS := hide (fun d' hd' j hj => kid_wei (IH d' hd') hK j hj)
  have HLIT := hide (fun W (hW : Below w.heap.size w W) => weightM (w := W) M hM0 hM (hA.next hW))
  have HW : Hid (wN (m' + 1) x = 1 + x.lit.cells.length + sumUp (fun i => wN m' (nAt x.kids i)) x.kids.length) := hide rfl
  obtain ⟨WN, hWN⟩ : ∃ z, wN (m' + 1) x = z := ⟨_, rfl⟩
  rw [hWN] at HW ⊢
  generalize hF : (fun i => wN m' (nAt x.kids i)) = F at *
  have HF : Hid (∀ j, wN m' (nAt x.kids j) = F j) := hide fun j => by rw [← hF]
  simp only [HF.out] at HKS
  clear hF HF IH hK hA hs hWN hx
  generalize x.kids.length = L at *
  generalize x.kind = K0 at *
  generalize x.op = O0 at *
  generalize x.name = S0 at *
  generalize x.pos = P0 at *
  generalize x.lit.shape.length = L10 at *
  generalize x.lit.cells.length = L20 at *
  have hb0 := one_alloc w (.cells #[.int .i64 K0, .int .i64 O0, .string S0, .slice a1 L10 c1, .slice a2 L20 c2, .slice ak L ck, .int .i64 P0] 34)
  have q3 := cell_new0 w #[.int .i64 K0, .int .i64 O0, .string S0, .slice a1 L10 c1, .slice a2 L20 c2, .slice ak L ck, .int .i64 P0] 34 3 _ rfl
  have q4 := cell_new0 w #[.int .i64 K0, .int .i64 O0, .string S0, .slice a1 L10 c1, .slice a2 L20 c2, .slice ak L ck, .int .i64 P0] 34 4 _ rfl
  have HQ := hide (And.intro hb0 (And.intro (cell_new0 w #[.int .i64 K0, .int .i64 O0, .string S0, .slice a1 L10 c1, .slice a2 L20 c2, .slice ak L ck, .int .i64 P0] 34 5 _ rfl) (show w.heap.size < (w.alloc (.cells #[.int .i64 K0, .int .i64 O0, .string S0, .slice a1 L10 c1, .slice a2 L20 c2, .slice ak L ck, .int .i64 P0] 34)).heap.size by simp)))
  have HL2 := hide (HLIT.out _ hb0)
  clear hb0 HLIT
  go_enter Tryd.func35, Tryd.ntmps35
  go_wp2_with fail
  refine HL2.out.mono ?_
  rintro e w1 ⟨⟨r0, rfl, hr0, hr1, hr2⟩, hb1⟩
  have HQ1 : Hid (Below w.heap.size w w1 ∧ w1.cell? ⟨w.heap.size, 5, none⟩ = some (.slice ak L ck) ∧ w.heap.size < w1.heap.size) := hide ⟨HQ.out.1.trans (hb1.mono HQ.out.1.size), (hb1.cell (p := ⟨w.heap.size, 5, none⟩) HQ.out.2.2).trans HQ.out.2.1, Nat.lt_of_lt_of_le HQ.out.2.2 hb1.size⟩
  clear hb1 HQ HL2 q3 q4
  go_wp2
  go_loopg [7, 8] L (fun g nv i wr => ∃ (j : Nat) (N : Int), g + j = L ∧ i = .int .i64 (j : Int) ∧ nv = .int .i64 N ∧ 0 ≤ N ∧ N ≤ 148000000000000 + 5000 * (d : Int) ∧ (N ≤ M → ((1 + L20 + sumUp F j : Nat) : Int) ≤ N) ∧ Below w.heap.size w wr ∧ wr.cell? ⟨w.heap.size, 5, none⟩ = some (.slice ak L ck) ∧ w.heap.size < wr.heap.size)
  case atStart => exact ⟨0, 1 + r0, rfl, rfl, by go_num, by omega, by omega, fun _ => by simp only [sumUp]; omega, HQ1.out.1, HQ1.out.2.1, HQ1.out.2.2⟩
  case round =>
    clear HQ1 hr0 hr1 hr2
    obtain ⟨j, N, hj, rfl, rfl, hN0, hN1, hN2, hnx, hcl, hsz⟩ := hrel
    have HTH := hide hN2
    have HSZ := hide hsz
    clear hN2 hsz
    by_cases hlt : j < L
    · by_cases hNM : N ≤ M
      · by_cases hd0 : d = 0
        · subst hd0
          clear HKS HTH HW
          go_wp2
          go_ret
          exact ⟨⟨M + 1, by go_num, by omega, by omega, fun h => by omega⟩, hnx⟩
        · obtain ⟨d', rfl⟩ : ∃ d', d = d' + 1 := ⟨d - 1, by omega⟩
          obtain ⟨b, off, K, O, S, A1, L1, C1, A2, L2, C2, AK, LK, CK, P, rfl, hw⟩ := HKS.out d' rfl j hlt
          obtain ⟨⟨g0, g1, g2, g3, g4, g5, g6⟩, C⟩ := hw _ hnx
          have HC := hide (fun D => C (M - N) D (by omega) (by omega))
          have hd1 : ((d' + 1 : Nat) : Int) ≠ 0 := by omega
          have hst := HTH.out hNM
          have HST := hide hst
          clear C hw HKS HW HTH hd0 hst
          go_wp2_with fail
          refine (HC.out _ (by omega)).mono ?_
          rintro e w1 ⟨⟨r, rfl, hr0, hr1, hr2⟩, hb1⟩
          have HR2 := hide hr2
          clear HC hr2 g0 g1 g2 g3 g4 g5 g6
          go_wp2
          go_roundg (L - (j + 1))
          case rel =>
            refine ⟨j + 1, N + r, by omega, by go_num, by go_num, by omega, by omega, fun h => ?_, hnx.trans (hb1.mono hnx.size), (hb1.cell (p := ⟨w.heap.size, 5, none⟩) HSZ.out).trans hcl, Nat.lt_of_lt_of_le HSZ.out hb1.size⟩
            have h1 := HR2.out (by omega)
            have h2 := HST.out
            show ((1 + L20 + (sumUp F j + F j) : Nat) : Int) ≤ _
            omega
          case measure => omega
      · clear HKS HTH HW
        go_wp2
        go_ret
        exact ⟨⟨N, rfl, hN0, hN1, fun h => by omega⟩, hnx⟩
    · have hje : j = L := by omega
      subst hje
      clear HKS
      go_wp2
      go_ret
      exact ⟨⟨N, rfl, hN0, hN1, fun h => by rw [HW.out]; exact HTH.out h⟩, hnx⟩
theorem wei_any (d : Nat) (hd : d ≤ 40) : WeiC d := by
  induction d with
  | zero => exact wei_step 0 hd fun d' h => absurd h (by omega)
  | succ d ih =>
    refine wei_step (d + 1) hd fun d' h => ?_
    have : d' = d := by omega
    subst this
    exact ih (by omega)
theorem weight22 {m n lo : Nat} {x : Nd} {va : Value} {w : World} (hx : NdIn m n lo w x va) : Calls Tryd.prog 22 #[va, .int .i64 1000] w fun e w' => (∃ r : Int, e = .returned (.int .i64 r) ∧ 0 ≤ r ∧ (r ≤ 1000 → (wN m x : Int) ≤ r)) ∧ Below w.heap.size w w' := by
  obtain ⟨m', hm', a1, c1, a2, c2, ak, ck, rfl, hA, hl, hs, hK⟩ := hx.letters
  have HC := hide (fun W (hW : Below w.heap.size w W) => wei_any 40 (Nat.le_refl _) m n x lo _ W 1000 (hx.next hW) (by decide) (by decide))
  obtain ⟨WN, hWN⟩ : ∃ z, wN m x = z := ⟨_, rfl⟩
  rw [hWN] at HC ⊢
  clear hK hA hs hWN hx
  generalize x.kids.length = L at *
  generalize x.kind = K0 at *
  generalize x.op = O0 at *
  generalize x.name = S0 at *
  generalize x.pos = P0 at *
  generalize x.lit.shape.length = L10 at *
  generalize x.lit.cells.length = L20 at *
  have hb0 := one_alloc w (.cells #[.int .i64 K0, .int .i64 O0, .string S0, .slice a1 L10 c1, .slice a2 L20 c2, .slice ak L ck, .int .i64 P0] 34)
  have q0 := cell_new0 w #[.int .i64 K0, .int .i64 O0, .string S0, .slice a1 L10 c1, .slice a2 L20 c2, .slice ak L ck, .int .i64 P0] 34 0 _ rfl
  have q1 := cell_new0 w #[.int .i64 K0, .int .i64 O0, .string S0, .slice a1 L10 c1, .slice a2 L20 c2, .slice ak L ck, .int .i64 P0] 34 1 _ rfl
  have q2 := cell_new0 w #[.int .i64 K0, .int .i64 O0, .string S0, .slice a1 L10 c1, .slice a2 L20 c2, .slice ak L ck, .int .i64 P0] 34 2 _ rfl
  have q3 := cell_new0 w #[.int .i64 K0, .int .i64 O0, .string S0, .slice a1 L10 c1, .slice a2 L20 c2, .slice ak L ck, .int .i64 P0] 34 3 _ rfl
  have q4 := cell_new0 w #[.int .i64 K0, .int .i64 O0, .string S0, .slice a1 L10 c1, .slice a2 L20 c2, .slice ak L ck, .int .i64 P0] 34 4 _ rfl
  have q5 := cell_new0 w #[.int .i64 K0, .int .i64 O0, .string S0, .slice a1 L10 c1, .slice a2 L20 c2, .slice ak L ck, .int .i64 P0] 34 5 _ rfl
  have q6 := cell_new0 w #[.int .i64 K0, .int .i64 O0, .string S0, .slice a1 L10 c1, .slice a2 L20 c2, .slice ak L ck, .int .i64 P0] 34 6 _ rfl
  have HB0 := hide hb0
  have HC1 := hide (HC.out _ hb0)
  clear hb0 HC
  go_enter Tryd.func22, Tryd.ntmps22
  go_wp2_with fail
  refine HC1.out.mono ?_
  rintro e w1 ⟨⟨r, rfl, hr0, hr1, hr⟩, hb1⟩
  have HF := hide (HB0.out.trans (hb1.mono HB0.out.size))
  clear hb1 HC1 q0 q1 q2 q3 q4 q5 q6
  go_wp2
  go_ret
  exact ⟨⟨r, rfl, hr0, hr⟩, HF.out⟩
end Go.Proofs.YtneblkdkhlgmcaaDoor
namespace Go.Proofs.YtneblkdkhlgmcaaDoor
open Go.ChangeShapes Go.WideShapes Go.ChangeAt Go.RowKit
set_option maxRecDepth 100000
set_option linter.unusedVariables false
set_option linter.unusedSimpArgs false
/-- No name is longer than 20 bytes. -/
def nmN : Nat → Nd → Prop
  | 0, _ => True
  | m + 1, x => x.name.size ≤ 20 ∧ ∀ i, i < x.kids.length → nmN m (nAt x.kids i)
def NamC (m : Nat) : Prop := ∀ n x lo va w, NdIn m n lo w x va → Calls Tryd.prog 23 #[va, .int .i64 20] w fun e w' => (∃ b : Bool, e = .returned (.bool b) ∧ (b = true → nmN m x)) ∧ Below w.heap.size w w'
def LesC (m : Nat) : Prop := ∀ n x lo va w, NdIn m n lo w x va → Calls Tryd.prog 10 #[va] w fun e w' => (∃ b : Bool, e = .returned (.bool b)) ∧ Below w.heap.size w w'
theorem kid_nam {m n lo : Nat} {w : World} {x : Nd} {ak : Option Addr} (IH : NamC m) (h : KidsIn m n lo w x.kids ak) (j : Nat) (hj : j < x.kids.length) :
    ∃ b off K O S A1 L1 C1 A2 L2 C2 AK LK CK P, ak = some ⟨b, off, none⟩ ∧ ∀ wr, Below w.heap.size w wr → (wr.cell? ⟨b, off + j * 7, none⟩ = some (.int .i64 K) ∧ wr.cell? ⟨b, off + j * 7 + 1, none⟩ = some (.int .i64 O) ∧ wr.cell? ⟨b, off + j * 7 + 2, none⟩ = some (.string S) ∧ wr.cell? ⟨b, off + j * 7 + 3, none⟩ = some (.slice A1 L1 C1) ∧ wr.cell? ⟨b, off + j * 7 + 4, none⟩ = some (.slice A2 L2 C2) ∧ wr.cell? ⟨b, off + j * 7 + 5, none⟩ = some (.slice AK LK CK) ∧ wr.cell? ⟨b, off + j * 7 + 6, none⟩ = some (.int .i64 P)) ∧
      Calls Tryd.prog 23 #[.agg #[.int .i64 K, .int .i64 O, .string S, .slice A1 L1 C1, .slice A2 L2 C2, .slice AK LK CK, .int .i64 P], .int .i64 20] wr fun e w' => (∃ b : Bool, e = .returned (.bool b) ∧ (b = true → nmN m (nAt x.kids j))) ∧ Below wr.heap.size wr w' := by
  obtain ⟨b, off, K, O, S, A1, L1, C1, A2, L2, C2, AK, LK, CK, P, ha, hb, hw⟩ := kid_cells h hj
  exact ⟨b, off, K, O, S, A1, L1, C1, A2, L2, C2, AK, LK, CK, P, ha, fun wr hwr => ⟨(hw wr hwr).1, IH n _ lo _ wr (hw wr hwr).2⟩⟩
theorem kid_les {m n lo : Nat} {w : World} {x : Nd} {ak : Option Addr} (IH : LesC m) (h : KidsIn m n lo w x.kids ak) (j : Nat) (hj : j < x.kids.length) :
    ∃ b off K O S A1 L1 C1 A2 L2 C2 AK LK CK P, ak = some ⟨b, off, none⟩ ∧ ∀ wr, Below w.heap.size w wr → (wr.cell? ⟨b, off + j * 7, none⟩ = some (.int .i64 K) ∧ wr.cell? ⟨b, off + j * 7 + 1, none⟩ = some (.int .i64 O) ∧ wr.cell? ⟨b, off + j * 7 + 2, none⟩ = some (.string S) ∧ wr.cell? ⟨b, off + j * 7 + 3, none⟩ = some (.slice A1 L1 C1) ∧ wr.cell? ⟨b, off + j * 7 + 4, none⟩ = some (.slice A2 L2 C2) ∧ wr.cell? ⟨b, off + j * 7 + 5, none⟩ = some (.slice AK LK CK) ∧ wr.cell? ⟨b, off + j * 7 + 6, none⟩ = some (.int .i64 P)) ∧
      Calls Tryd.prog 10 #[.agg #[.int .i64 K, .int .i64 O, .string S, .slice A1 L1 C1, .slice A2 L2 C2, .slice AK LK CK, .int .i64 P]] wr fun e w' => (∃ b : Bool, e = .returned (.bool b)) ∧ Below wr.heap.size wr w' := by
  obtain ⟨b, off, K, O, S, A1, L1, C1, A2, L2, C2, AK, LK, CK, P, ha, hb, hw⟩ := kid_cells h hj
  exact ⟨b, off, K, O, S, A1, L1, C1, A2, L2, C2, AK, LK, CK, P, ha, fun wr hwr => ⟨(hw wr hwr).1, IH n _ lo _ wr (hw wr hwr).2⟩⟩
set_option maxHeartbeats 4000000 in
theorem names23 (m : Nat) : NamC m := by
  induction m with
  | zero => intro n x lo va w hx; exact hx.elim
  | succ m IH =>
  intro n x lo va w hx
  obtain ⟨m', hm', a1, c1, a2, c2, ak, ck, rfl, hA, hl, hs, hK⟩ := hx.letters
  obtain rfl : m = m' := by omega
  have HKS := hide (kid_nam IH hK)
  have HW : Hid (nmN (m + 1) x ↔ (x.name.size ≤ 20 ∧ ∀ i, i < x.kids.length → nmN m (nAt x.kids i))) := hide Iff.rfl
  obtain ⟨WN, hWN⟩ : ∃ z, nmN (m + 1) x = z := ⟨_, rfl⟩
  rw [hWN] at HW ⊢
  generalize hF : (fun i => nmN m (nAt x.kids i)) = F at *
  have HF : Hid (∀ j, nmN m (nAt x.kids j) = F j) := hide fun j => by rw [← hF]
  simp only [HF.out] at HKS HW
  clear hF HF IH hK hA hWN hx hm'
  generalize x.kids.length = L at *
  generalize x.kind = K0 at *
  generalize x.op = O0 at *
  generalize x.name = S0 at *
  generalize x.pos = P0 at *
  generalize x.lit.shape.length = L10 at *
  generalize x.lit.cells.length = L20 at *
  have hb0 := one_alloc w (.cells #[.int .i64 K0, .int .i64 O0, .string S0, .slice a1 L10 c1, .slice a2 L20 c2, .slice ak L ck, .int .i64 P0] 34)
  have q2 := cell_new0 w #[.int .i64 K0, .int .i64 O0, .string S0, .slice a1 L10 c1, .slice a2 L20 c2, .slice ak L ck, .int .i64 P0] 34 2 _ rfl
  have q5 := cell_new0 w #[.int .i64 K0, .int .i64 O0, .string S0, .slice a1 L10 c1, .slice a2 L20 c2, .slice ak L ck, .int .i64 P0] 34 5 _ rfl
  have HQ := hide (And.intro hb0 (And.intro q5 (show w.heap.size < (w.alloc (.cells #[.int .i64 K0, .int .i64 O0, .string S0, .slice a1 L10 c1, .slice a2 L20 c2, .slice ak L ck, .int .i64 P0] 34)).heap.size by simp)))
  clear hb0
  by_cases hsz : S0.size ≤ 20
  · go_enter Tryd.func23, Tryd.ntmps23
    go_wp2
    clear q2 q5
    go_loopg [5] L (fun g i wr => ∃ (j : Nat), g + j = L ∧ i = .int .i64 (j : Int) ∧ (∀ i, i < j → F i) ∧ Below w.heap.size w wr ∧ wr.cell? ⟨w.heap.size, 5, none⟩ = some (.slice ak L ck) ∧ w.heap.size < wr.heap.size)
    case atStart => exact ⟨0, rfl, rfl, fun i hi => absurd hi (by omega), HQ.out.1, HQ.out.2.1, HQ.out.2.2⟩
    case round =>
      clear HQ
      obtain ⟨j, hj, rfl, hall, hnx, hcl, hsz2⟩ := hrel
      have HSZ := hide hsz2
      have HALL := hide hall
      clear hsz2 hall
      by_cases hlt : j < L
      · obtain ⟨b, off, K, O, S, A1, L1, C1, A2, L2, C2, AK, LK, CK, P, rfl, hw⟩ := HKS.out j hlt
        obtain ⟨⟨g0, g1, g2, g3, g4, g5, g6⟩, C⟩ := hw _ hnx
        have HC := hide C
        clear C hw HKS
        go_wp2_with fail
        refine HC.out.mono ?_
        rintro e w1 ⟨⟨bk, rfl, hbk⟩, hb1⟩
        clear HC g0 g1 g2 g3 g4 g5 g6
        have HBK := hide hbk
        clear hbk
        cases bk with
        | false =>
          clear HW
          go_wp2
          go_ret
          exact ⟨⟨false, rfl, fun h => by cases h⟩, hnx.trans (hb1.mono hnx.size)⟩
        | true =>
          go_wp2
          go_roundg (L - (j + 1))
          case rel =>
            refine ⟨j + 1, by omega, by go_num, fun i hi => ?_, hnx.trans (hb1.mono hnx.size), (hb1.cell (p := ⟨w.heap.size, 5, none⟩) HSZ.out).trans hcl, Nat.lt_of_lt_of_le HSZ.out hb1.size⟩
            by_cases hij : i = j
            · subst hij; exact HBK.out (by first | rfl | trivial)
            · exact HALL.out i (by omega)
          case measure => omega
      · have hje : j = L := by omega
        subst hje
        clear HKS
        go_wp2
        go_ret
        exact ⟨⟨true, rfl, fun _ => HW.out.2 ⟨hsz, HALL.out⟩⟩, hnx⟩
  · clear HKS HW
    go_enter Tryd.func23, Tryd.ntmps23
    go_wp2
    go_ret
    exact ⟨⟨false, rfl, fun h => by cases h⟩, HQ.out.1⟩
set_option maxHeartbeats 4000000 in
theorem nameless10 (m : Nat) : LesC m := by
  induction m with
  | zero => intro n x lo va w hx; exact hx.elim
  | succ m IH =>
  intro n x lo va w hx
  obtain ⟨m', hm', a1, c1, a2, c2, ak, ck, rfl, hA, hl, hs, hK⟩ := hx.letters
  obtain rfl : m = m' := by omega
  have HKS := hide (kid_les IH hK)
  clear IH hK hA hx hm'
  generalize x.kids.length = L at *
  generalize x.kind = K0 at *
  generalize x.op = O0 at *
  generalize x.name = S0 at *
  generalize x.pos = P0 at *
  generalize x.lit.shape.length = L10 at *
  generalize x.lit.cells.length = L20 at *
  have hb0 := one_alloc w (.cells #[.int .i64 K0, .int .i64 O0, .string S0, .slice a1 L10 c1, .slice a2 L20 c2, .slice ak L ck, .int .i64 P0] 34)
  have q0 := cell_new0 w #[.int .i64 K0, .int .i64 O0, .string S0, .slice a1 L10 c1, .slice a2 L20 c2, .slice ak L ck, .int .i64 P0] 34 0 _ rfl
  have q2 := cell_new0 w #[.int .i64 K0, .int .i64 O0, .string S0, .slice a1 L10 c1, .slice a2 L20 c2, .slice ak L ck, .int .i64 P0] 34 2 _ rfl
  have q5 := cell_new0 w #[.int .i64 K0, .int .i64 O0, .string S0, .slice a1 L10 c1, .slice a2 L20 c2, .slice ak L ck, .int .i64 P0] 34 5 _ rfl
  have HQ := hide (And.intro hb0 (And.intro q5 (show w.heap.size < (w.alloc (.cells #[.int .i64 K0, .int .i64 O0, .string S0, .slice a1 L10 c1, .slice a2 L20 c2, .slice ak L ck, .int .i64 P0] 34)).heap.size by simp)))
  clear hb0
  cases hsn : (S0.toList == []) with
  | false =>
    go_enter Tryd.func10, Tryd.ntmps10
    go_wp2
    clear q0 q2 q5 hsn
    go_loopg [3] L (fun g i wr => ∃ (j : Nat), g + j = L ∧ i = .int .i64 (j : Int) ∧ Below w.heap.size w wr ∧ wr.cell? ⟨w.heap.size, 5, none⟩ = some (.slice ak L ck) ∧ w.heap.size < wr.heap.size)
    case atStart => exact ⟨0, rfl, rfl, HQ.out.1, HQ.out.2.1, HQ.out.2.2⟩
    case round =>
      clear HQ
      obtain ⟨j, hj, rfl, hnx, hcl, hsz2⟩ := hrel
      have HSZ := hide hsz2
      clear hsz2
      by_cases hlt : j < L
      · obtain ⟨b, off, K, O, S, A1, L1, C1, A2, L2, C2, AK, LK, CK, P, rfl, hw⟩ := HKS.out j hlt
        obtain ⟨⟨g0, g1, g2, g3, g4, g5, g6⟩, C⟩ := hw _ hnx
        have HC := hide C
        clear C hw HKS
        go_wp2_with fail
        refine HC.out.mono ?_
        rintro e w1 ⟨⟨bk, rfl⟩, hb1⟩
        clear HC g0 g1 g2 g3 g4 g5 g6
        cases bk with
        | true =>
          go_wp2
          go_ret
          exact ⟨⟨true, rfl⟩, hnx.trans (hb1.mono hnx.size)⟩
        | false =>
          go_wp2
          go_roundg (L - (j + 1))
          case rel => exact ⟨j + 1, by omega, by go_num, hnx.trans (hb1.mono hnx.size), (hb1.cell (p := ⟨w.heap.size, 5, none⟩) HSZ.out).trans hcl, Nat.lt_of_lt_of_le HSZ.out hb1.size⟩
          case measure => omega
      · have hje : j = L := by omega
        subst hje
        clear HKS
        go_wp2
        go_ret
        exact ⟨⟨false, rfl⟩, hnx⟩
  | true =>
    by_cases h2 : K0 = 2
    · subst h2
      go_enter Tryd.func10, Tryd.ntmps10
      go_wp2
      go_ret
      exact ⟨⟨true, rfl⟩, HQ.out.1⟩
    · have h2' : (K0 == 2) = false := beq_eq_false_iff_ne.2 h2
      by_cases h3 : K0 = 21
      · subst h3
        go_enter Tryd.func10, Tryd.ntmps10
        go_wp2
        go_ret
        exact ⟨⟨true, rfl⟩, HQ.out.1⟩
      · have h3' : (K0 == 21) = false := beq_eq_false_iff_ne.2 h3
        go_enter Tryd.func10, Tryd.ntmps10
        go_wp2
        clear q0 q2 q5 hsn h2 h3 h2' h3'
        go_loopg [3] L (fun g i wr => ∃ (j : Nat), g + j = L ∧ i = .int .i64 (j : Int) ∧ Below w.heap.size w wr ∧ wr.cell? ⟨w.heap.size, 5, none⟩ = some (.slice ak L ck) ∧ w.heap.size < wr.heap.size)
        case atStart => exact ⟨0, rfl, rfl, HQ.out.1, HQ.out.2.1, HQ.out.2.2⟩
        case round =>
          clear HQ
          obtain ⟨j, hj, rfl, hnx, hcl, hsz2⟩ := hrel
          have HSZ := hide hsz2
          clear hsz2
          by_cases hlt : j < L
          · obtain ⟨b, off, K, O, S, A1, L1, C1, A2, L2, C2, AK, LK, CK, P, rfl, hw⟩ := HKS.out j hlt
            obtain ⟨⟨g0, g1, g2, g3, g4, g5, g6⟩, C⟩ := hw _ hnx
            have HC := hide C
            clear C hw HKS
            go_wp2_with fail
            refine HC.out.mono ?_
            rintro e w1 ⟨⟨bk, rfl⟩, hb1⟩
            clear HC g0 g1 g2 g3 g4 g5 g6
            cases bk with
            | true =>
              go_wp2
              go_ret
              exact ⟨⟨true, rfl⟩, hnx.trans (hb1.mono hnx.size)⟩
            | false =>
              go_wp2
              go_roundg (L - (j + 1))
              case rel => exact ⟨j + 1, by omega, by go_num, hnx.trans (hb1.mono hnx.size), (hb1.cell (p := ⟨w.heap.size, 5, none⟩) HSZ.out).trans hcl, Nat.lt_of_lt_of_le HSZ.out hb1.size⟩
              case measure => omega
          · have hje : j = L := by omega
            subst hje
            clear HKS
            go_wp2
            go_ret
            exact ⟨⟨false, rfl⟩, hnx⟩
set_option maxHeartbeats 4000000 in
theorem empty9 (G : Gs) (hsl : (∃ a n c, G.s1 = .slice a n c) ∧ (∃ a n c, G.s2 = .slice a n c) ∧ ∃ a n c, G.s3 = .slice a n c) (w : World) : Calls Tryd.prog 9 #[gV G] w fun e w' => (∃ b : Bool, e = .returned (.bool b)) ∧ Below w.heap.size w w' := by
  obtain ⟨W0, hW0⟩ : ∃ W, w.alloc (.cells #[G.s1, G.s2, G.s3, .string G.outer, .string G.power, .string G.opn, .string G.cls, .string G.left, .string G.right, .string G.minus, .string G.quote, .bool G.trains, .bool G.lone, .bool G.square] 27) = W := ⟨_, rfl⟩
  have hA : W0.heap[w.heap.size]? = some (.cells #[G.s1, G.s2, G.s3, .string G.outer, .string G.power, .string G.opn, .string G.cls, .string G.left, .string G.right, .string G.minus, .string G.quote, .bool G.trains, .bool G.lone, .bool G.square] 27 (0, 0)) := by rw [← hW0]; exact heap_alloc_new w _
  have HB := hide (show Below w.heap.size w W0 by rw [← hW0]; exact alloc_one _ _)
  have g0 : W0.cell? ⟨w.heap.size, 0, none⟩ = some (G.s1) := (Lib.cell_of_heap hA 0).trans rfl
  have g1 : W0.cell? ⟨w.heap.size, 1, none⟩ = some (G.s2) := (Lib.cell_of_heap hA 1).trans rfl
  have g2 : W0.cell? ⟨w.heap.size, 2, none⟩ = some (G.s3) := (Lib.cell_of_heap hA 2).trans rfl
  have g3 : W0.cell? ⟨w.heap.size, 3, none⟩ = some (.string G.outer) := (Lib.cell_of_heap hA 3).trans rfl
  have g4 : W0.cell? ⟨w.heap.size, 4, none⟩ = some (.string G.power) := (Lib.cell_of_heap hA 4).trans rfl
  have g5 : W0.cell? ⟨w.heap.size, 5, none⟩ = some (.string G.opn) := (Lib.cell_of_heap hA 5).trans rfl
  have g6 : W0.cell? ⟨w.heap.size, 6, none⟩ = some (.string G.cls) := (Lib.cell_of_heap hA 6).trans rfl
  have g7 : W0.cell? ⟨w.heap.size, 7, none⟩ = some (.string G.left) := (Lib.cell_of_heap hA 7).trans rfl
  have g8 : W0.cell? ⟨w.heap.size, 8, none⟩ = some (.string G.right) := (Lib.cell_of_heap hA 8).trans rfl
  have g9 : W0.cell? ⟨w.heap.size, 9, none⟩ = some (.string G.minus) := (Lib.cell_of_heap hA 9).trans rfl
  have g10 : W0.cell? ⟨w.heap.size, 10, none⟩ = some (.string G.quote) := (Lib.cell_of_heap hA 10).trans rfl
  have g11 : W0.cell? ⟨w.heap.size, 11, none⟩ = some (.bool G.trains) := (Lib.cell_of_heap hA 11).trans rfl
  have g12 : W0.cell? ⟨w.heap.size, 12, none⟩ = some (.bool G.lone) := (Lib.cell_of_heap hA 12).trans rfl
  have g13 : W0.cell? ⟨w.heap.size, 13, none⟩ = some (.bool G.square) := (Lib.cell_of_heap hA 13).trans rfl
  unfold gV
  go_enter Tryd.func9, Tryd.ntmps9
  go_upto_region 1 with fail
  try rw [hW0]
  clear hW0 hA
  cases h7 : (G.left.toList == []) with
  | true =>
    go_wp2
    go_ret
    exact ⟨⟨_, rfl⟩, HB.out⟩
  | false =>
  cases h8 : (G.right.toList == []) with
  | true =>
    go_wp2
    go_ret
    exact ⟨⟨_, rfl⟩, HB.out⟩
  | false =>
  cases h5 : (G.opn.toList == []) with
  | true =>
    go_wp2
    go_ret
    exact ⟨⟨_, rfl⟩, HB.out⟩
  | false =>
    go_wp2
    go_ret
    exact ⟨⟨_, rfl⟩, HB.out⟩
/-- All texts of a grammar are of a machine's size. -/
structure Lg (G : Gs) : Prop where
  h1 : G.minus.size ≤ 140737488355328
  h2 : G.quote.size ≤ 140737488355328
  h3 : G.outer.size ≤ 140737488355328
  h4 : G.power.size ≤ 140737488355328
  h5 : G.opn.size ≤ 140737488355328
  h6 : G.cls.size ≤ 140737488355328
  h7 : G.left.size ≤ 140737488355328
  h8 : G.right.size ≤ 140737488355328
set_option maxHeartbeats 4000000 in
theorem light8 {m n lo : Nat} {x : Nd} {va : Value} {w : World} {G : Gs} (LG : Lg G) (hx : NdIn m n lo w x va) :
    Calls Tryd.prog 8 #[gV G, va] w fun e w' => (∃ b : Bool, e = .returned (.bool b) ∧ (b = true → wN m x ≤ 1000 ∧ G.minus.size + G.quote.size + G.outer.size + G.power.size + G.opn.size + G.cls.size + G.left.size + G.right.size ≤ 100 ∧ nmN m x)) ∧ Below w.heap.size w w' := by
  obtain ⟨m', hm', a1, c1, a2, c2, ak, ck, rfl, hA, hl, hs, hK⟩ := hx.letters
  have HC22 := hide (fun W (hW : Below w.heap.size w W) => weight22 (hx.next hW))
  have HC23 := hide (fun W (hW : Below w.heap.size w W) => names23 m n x lo _ W (hx.next hW))
  obtain ⟨WN, hWN⟩ : ∃ z, wN m x = z := ⟨_, rfl⟩
  rw [hWN] at HC22 ⊢
  obtain ⟨NM, hNM⟩ : ∃ z, nmN m x = z := ⟨_, rfl⟩
  rw [hNM] at HC23 ⊢
  obtain ⟨l1, l2, l3, l4, l5, l6, l7, l8⟩ := LG
  clear hK hA hs hWN hx hm' hNM hl
  generalize x.kids.length = L at *
  generalize x.kind = K0 at *
  generalize x.op = O0 at *
  generalize x.name = S0 at *
  generalize x.pos = P0 at *
  generalize x.lit.shape.length = L10 at *
  generalize x.lit.cells.length = L20 at *
  obtain ⟨W0, hW0⟩ : ∃ W, w.alloc (.cells #[G.s1, G.s2, G.s3, .string G.outer, .string G.power, .string G.opn, .string G.cls, .string G.left, .string G.right, .string G.minus, .string G.quote, .bool G.trains, .bool G.lone, .bool G.square] 27) = W := ⟨_, rfl⟩
  have hA : W0.heap[w.heap.size]? = some (.cells #[G.s1, G.s2, G.s3, .string G.outer, .string G.power, .string G.opn, .string G.cls, .string G.left, .string G.right, .string G.minus, .string G.quote, .bool G.trains, .bool G.lone, .bool G.square] 27 (0, 0)) := by rw [← hW0]; exact heap_alloc_new w _
  have hb0 : Below w.heap.size w W0 := by rw [← hW0]; exact alloc_one _ _
  have s0 : W0.heap.size = w.heap.size + 1 := by rw [← hW0]; simp
  obtain ⟨W1, hW1⟩ : ∃ W, W0.alloc (.cells #[.int .i64 K0, .int .i64 O0, .string S0, .slice a1 L10 c1, .slice a2 L20 c2, .slice ak L ck, .int .i64 P0] 34) = W := ⟨_, rfl⟩
  have hN : W1.heap[w.heap.size + 1]? = some (.cells #[.int .i64 K0, .int .i64 O0, .string S0, .slice a1 L10 c1, .slice a2 L20 c2, .slice ak L ck, .int .i64 P0] 34 (0, 0)) := by rw [← hW1, ← s0]; exact heap_alloc_new W0 _
  have hb1 : Below W0.heap.size W0 W1 := by rw [← hW1]; exact alloc_one _ _
  have hA1 : W1.heap[w.heap.size]? = some (.cells #[G.s1, G.s2, G.s3, .string G.outer, .string G.power, .string G.opn, .string G.cls, .string G.left, .string G.right, .string G.minus, .string G.quote, .bool G.trains, .bool G.lone, .bool G.square] 27 (0, 0)) := (hb1.block w.heap.size (by omega)).trans hA
  have s1 : W1.heap.size = w.heap.size + 2 := by rw [← hW1]; simp [s0]
  have HB := hide (hb0.trans (hb1.mono hb0.size))
  have q0 : W1.cell? ⟨w.heap.size + 1, 0, none⟩ = some (.int .i64 K0) := (Lib.cell_of_heap hN 0).trans rfl
  have q1 : W1.cell? ⟨w.heap.size + 1, 1, none⟩ = some (.int .i64 O0) := (Lib.cell_of_heap hN 1).trans rfl
  have q2 : W1.cell? ⟨w.heap.size + 1, 2, none⟩ = some (.string S0) := (Lib.cell_of_heap hN 2).trans rfl
  have q3 : W1.cell? ⟨w.heap.size + 1, 3, none⟩ = some (.slice a1 L10 c1) := (Lib.cell_of_heap hN 3).trans rfl
  have q4 : W1.cell? ⟨w.heap.size + 1, 4, none⟩ = some (.slice a2 L20 c2) := (Lib.cell_of_heap hN 4).trans rfl
  have q5 : W1.cell? ⟨w.heap.size + 1, 5, none⟩ = some (.slice ak L ck) := (Lib.cell_of_heap hN 5).trans rfl
  have q6 : W1.cell? ⟨w.heap.size + 1, 6, none⟩ = some (.int .i64 P0) := (Lib.cell_of_heap hN 6).trans rfl
  have HC1 := hide (HC22.out W1 HB.out)
  have HAN := hide (And.intro hA1 hN)
  clear HC22 hb0 hb1
  unfold gV
  go_enter Tryd.func8, Tryd.ntmps8
  go_upto_region 1 with fail
  try rw [hW0]
  try rw [hW1]
  clear hW0 hA hW1 hN s0
  go_wp2_with fail
  refine HC1.out.mono ?_
  rintro e w2 ⟨⟨r, rfl, hr0, hr⟩, hb2⟩
  have HR := hide hr
  have HB2 := hide (HB.out.trans (hb2.mono HB.out.size))
  have hA2 := (hb2.block w.heap.size (by omega)).trans HAN.out.1
  have hN2 := (hb2.block (w.heap.size + 1) (by omega)).trans HAN.out.2
  clear HC1 hr hb2 HAN hA1 HB q0 q1 q2 q3 q4 q5 q6
  by_cases hr1 : r ≤ 1000
  · have HWN := hide (HR.out hr1)
    clear HR
    obtain ⟨T, hT⟩ : ∃ T, G.minus.size + G.quote.size + G.outer.size + G.power.size + G.opn.size + G.cls.size + G.left.size + G.right.size = T := ⟨_, rfl⟩
    have HC := hide (HC23.out w2 HB2.out)
    have g3 : w2.cell? ⟨w.heap.size, 3, none⟩ = some (.string G.outer) := (Lib.cell_of_heap hA2 3).trans rfl
    have g4 : w2.cell? ⟨w.heap.size, 4, none⟩ = some (.string G.power) := (Lib.cell_of_heap hA2 4).trans rfl
    have g5 : w2.cell? ⟨w.heap.size, 5, none⟩ = some (.string G.opn) := (Lib.cell_of_heap hA2 5).trans rfl
    have g6 : w2.cell? ⟨w.heap.size, 6, none⟩ = some (.string G.cls) := (Lib.cell_of_heap hA2 6).trans rfl
    have g7 : w2.cell? ⟨w.heap.size, 7, none⟩ = some (.string G.left) := (Lib.cell_of_heap hA2 7).trans rfl
    have g8 : w2.cell? ⟨w.heap.size, 8, none⟩ = some (.string G.right) := (Lib.cell_of_heap hA2 8).trans rfl
    have g9 : w2.cell? ⟨w.heap.size, 9, none⟩ = some (.string G.minus) := (Lib.cell_of_heap hA2 9).trans rfl
    have g10 : w2.cell? ⟨w.heap.size, 10, none⟩ = some (.string G.quote) := (Lib.cell_of_heap hA2 10).trans rfl
    have q0 : w2.cell? ⟨w.heap.size + 1, 0, none⟩ = some (.int .i64 K0) := (Lib.cell_of_heap hN2 0).trans rfl
    have q1 : w2.cell? ⟨w.heap.size + 1, 1, none⟩ = some (.int .i64 O0) := (Lib.cell_of_heap hN2 1).trans rfl
    have q2 : w2.cell? ⟨w.heap.size + 1, 2, none⟩ = some (.string S0) := (Lib.cell_of_heap hN2 2).trans rfl
    have q3 : w2.cell? ⟨w.heap.size + 1, 3, none⟩ = some (.slice a1 L10 c1) := (Lib.cell_of_heap hN2 3).trans rfl
    have q4 : w2.cell? ⟨w.heap.size + 1, 4, none⟩ = some (.slice a2 L20 c2) := (Lib.cell_of_heap hN2 4).trans rfl
    have q5 : w2.cell? ⟨w.heap.size + 1, 5, none⟩ = some (.slice ak L ck) := (Lib.cell_of_heap hN2 5).trans rfl
    have q6 : w2.cell? ⟨w.heap.size + 1, 6, none⟩ = some (.int .i64 P0) := (Lib.cell_of_heap hN2 6).trans rfl
    clear hA2 hN2 HC23
    by_cases hT1 : G.minus.size + G.quote.size + G.outer.size + G.power.size + G.opn.size + G.cls.size + G.left.size + G.right.size ≤ 100
    · go_wp2_with fail
      refine HC.out.mono ?_
      rintro e w3 ⟨⟨bk, rfl, hbk⟩, hb3⟩
      have HB3 := hide (HB2.out.trans (hb3.mono HB2.out.size))
      clear g3 g4 g5 g6 g7 g8 g9 g10 q0 q1 q2 q3 q4 q5 q6 HC hb3
      cases bk with
      | true =>
        go_wp2
        go_ret
        exact ⟨⟨true, rfl, fun _ => ⟨by have := HWN.out; omega, by omega, hbk (by first | rfl | trivial)⟩⟩, HB3.out⟩
      | false =>
        go_wp2
        go_ret
        exact ⟨⟨false, rfl, fun h => by cases h⟩, HB3.out⟩
    · have hT2 : decide ((G.minus.size : Int) + (G.quote.size : Int) + (G.outer.size : Int) + (G.power.size : Int) + (G.opn.size : Int) + (G.cls.size : Int) + (G.left.size : Int) + (G.right.size : Int) ≤ 100) = false := decide_eq_false (by omega)
      clear HC HWN hT
      go_wp2
      go_ret
      exact ⟨⟨false, rfl, fun h => by cases h⟩, HB2.out⟩
  · have hr2 : decide (r ≤ 1000) = false := decide_eq_false hr1
    clear HR
    go_wp2
    go_ret
    exact ⟨⟨false, rfl, fun h => by cases h⟩, HB2.out⟩
end Go.Proofs.YtneblkdkhlgmcaaDoor
namespace Go.Proofs.YtneblkdkhlgmcaaDoor
open Go.ChangeShapes Go.WideShapes Go.ChangeAt Go.RowKit
set_option maxRecDepth 100000
set_option linter.unusedVariables false
theorem row_nil (lo : Nat) (w : World) (a : Option Addr) : Row lo w a [] := ⟨by simp, Or.inl rfl⟩
theorem atom_cells (n : Nat) (z : Int) (w : World) (o : Obj) : ArIn (n + 1) w.heap.size ((w.alloc o).alloc (.cells #[.int .i64 0, .int .i64 z, .slice none 0 0] 72)) (atomA z) (.agg #[.slice none 0 0, .slice (some ⟨w.heap.size + 1, 0, none⟩) 1 1]) := by
  refine arIn_mk (x := atomA z) (row_nil _ _ _) (by simp [atomA, Ar.cells, numCs]) ?_ rfl (by simp [atomA, Ar.cells, numCs])
  refine Or.inr ⟨w.heap.size + 1, 0, rfl, by omega, by simp, ?_⟩
  intro i hi
  have : i = 0 := by simpa [atomA, Ar.cells, numCs] using hi
  subst this
  refine ⟨_, _, _, cell_new2 w #[.int .i64 0, .int .i64 z, .slice none 0 0] 72 (0, 0) o 0 _ rfl, cell_new2 w #[.int .i64 0, .int .i64 z, .slice none 0 0] 72 (0, 0) o 1 _ rfl, cell_new2 w #[.int .i64 0, .int .i64 z, .slice none 0 0] 72 (0, 0) o 2 _ rfl, rfl, rfl, none, 0, rfl, by simp [atomA, Ar.cells, numCs, cAt], Or.inl rfl⟩
set_option maxHeartbeats 1000000 in
theorem ratom_any (n : Nat) (z : Int) (w : World) : Calls Tryd.prog 20 #[.int .i64 z] w fun e w' => GivesA (n + 1) (atomA z) w e w' := by
  go_enter Tryd.func20, Tryd.ntmps20
  go_wp2
  exact bodyPost_ret (v := .agg #[.slice none 0 0, .slice (some ⟨w.heap.size + 1, 0, none⟩) 1 1]) (by simp [results, Tryd.results20, go_sem]) rfl ⟨⟨_, rfl, atom_cells n z w _⟩, two_allocs _ _ _⟩
end Go.Proofs.YtneblkdkhlgmcaaDoor
namespace Go.Proofs.YtneblkdkhlgmcaaDoor
open Go.ChangeShapes Go.WideShapes Go.ChangeAt Go.RowKit
set_option maxRecDepth 100000
set_option linter.unusedVariables false
theorem own : ownKnob Tryd.prog.godebug = none := by kernel_rfl
theorem laidOut : laidOutB Tryd.prog = true := by kernel_rfl
theorem bytes3 : Tryd.prog.bytesOf 3 = 8 := by kernel_rfl
/-- What Places tells: the places, and the error. -/
def plsL (l : List Int) (n : Int) : List Int := if sizeE l = 0 ∧ 0 ≤ n ∧ n < sizeV l then digits l n else []
def plsE (l : List Int) (n : Int) : Int := if sizeE l = 0 then (if 0 ≤ n ∧ n < sizeV l then 0 else 8) else sizeE l
theorem pls_ok {l : List Int} {n : Int} (h : plsE l n = 0) : sizeE l = 0 ∧ 0 ≤ n ∧ n < sizeV l ∧ plsL l n = digits l n := by
  unfold plsE at h
  by_cases hs : sizeE l = 0
  · by_cases ho : 0 ≤ n ∧ n < sizeV l
    · exact ⟨hs, ho.1, ho.2, by unfold plsL; rw [if_pos ⟨hs, ho⟩]⟩
    · rw [if_pos hs, if_neg ho] at h; omega
  · rw [if_neg hs] at h; exact absurd h hs
theorem plc_ok {l m : List Int} (h : plcE l m = 0) : sizeE l = 0 ∧ inAxes l m ∧ plcV l m = place l m := by
  unfold plcE at h
  by_cases hs : sizeE l = 0
  · by_cases hl : m.length = l.length
    · by_cases hi : inAxes l m
      · exact ⟨hs, hi, by unfold plcV; rw [if_pos ⟨hs, hi⟩]⟩
      · simp [hs, hl, hi] at h
    · simp [hs, hl] at h
  · simp [hs] at h
/-- The places of the cell at places. -/
theorem there {l m : List Int} (h : plcE l m = 0) : plsE l (plcV l m) = 0 ∧ plsL l (plcV l m) = m := by
  obtain ⟨hs, hi, hv⟩ := plc_ok h
  obtain ⟨b1, b2, b3, b4⟩ := place_bound hi
  obtain ⟨s1, s2, s3⟩ := sizeE_ok hs
  have hz : ¬ hasZero l := by
    rintro ⟨z, hz, e⟩
    have := b1 z hz
    omega
  rcases s3 with s3 | ⟨-, s4⟩
  · exact absurd s3 hz
  have sv : sizeV l = prodL l := (size_ok s1 s2 hz (by omega)).1
  have hr : 0 ≤ plcV l m ∧ plcV l m < sizeV l := by rw [hv, sv]; exact ⟨b2, b3⟩
  refine ⟨by unfold plsE; rw [if_pos hs, if_pos hr], ?_⟩
  unfold plsL
  rw [if_pos ⟨hs, hr⟩, hv]
  exact digits_place hi
/-- The cell at the places of a cell. -/
theorem back {l : List Int} {n : Int} (h : plsE l n = 0) : plcE l (plsL l n) = 0 ∧ plcV l (plsL l n) = n := by
  obtain ⟨hs, h0, h1, hL⟩ := pls_ok h
  obtain ⟨s1, s2, s3, s4⟩ := sizeV_in hs h0 h1
  obtain ⟨d1, d2⟩ := digits_in s2 h0 (by omega)
  rw [hL]
  have hl := digits_length l n
  refine ⟨by unfold plcE; simp [hs, hl, d1], ?_⟩
  unfold plcV
  rw [if_pos ⟨hs, d1⟩]
  exact d2
end Go.Proofs.YtneblkdkhlgmcaaDoor
namespace Go.Proofs.YtneblkdkhlgmcaaDoor
open Go.ChangeShapes Go.WideShapes Go.ChangeAt Go.RowKit Go.Deep
set_option maxRecDepth 100000
set_option linter.unusedVariables false
theorem cells25 : Tryd.prog.cellsOf 31 = 2 := by kernel_rfl
theorem cells33 : Tryd.prog.cellsOf 72 = 3 := by kernel_rfl
theorem cells22 : Tryd.prog.cellsOf 28 = 1 := by kernel_rfl
theorem cells23 : Tryd.prog.cellsOf 29 = 1 := by kernel_rfl
theorem cells31 : Tryd.prog.cellsOf 70 = 1 := by kernel_rfl
theorem cells3 : Tryd.prog.cellsOf 3 = 1 := by kernel_rfl
theorem cells2 : Tryd.prog.cellsOf 2 = 1 := by kernel_rfl
theorem bytes33 : Tryd.prog.bytesOf 72 = 40 := by kernel_rfl
theorem bytes25 : Tryd.prog.bytesOf 31 = 48 := by kernel_rfl
theorem weightsAll_mem {H : Type} {P : Program} {e : TypeId} {d : DataW H} : ∀ {l : List (DataW H)}, d ∈ l → ∀ n ∈ d.weights P e, n ∈ DataW.weightsAll P e l
  | x :: l, hd, n, hn => by
    simp only [DataW.weightsAll, List.mem_append]
    rcases List.mem_cons.1 hd with rfl | h
    · exact Or.inl hn
    · exact Or.inr (weightsAll_mem h n hn)
  | [], hd, _, _ => by simp at hd
def Fit {H : Type} (t : TypeId) (d : DataW H) : Prop := ∀ n ∈ d.weights Tryd.prog t, n ≤ reachBytes
theorem fit_slice {H : Type} {t e : TypeId} {elems spare : List (DataW H)} (hu : Tryd.prog.underlying t = some (.slice e)) (h : Fit t (.slice elems spare)) : (elems.length + spare.length) * Tryd.prog.bytesOf e ≤ reachBytes ∧ ∀ d ∈ elems, Fit e d := by
  unfold Fit at *
  simp only [DataW.weights, hu] at h
  refine ⟨h _ List.mem_cons_self, fun d hd n hn => h n ?_⟩
  exact List.mem_cons_of_mem _ (List.mem_append_left _ (weightsAll_mem hd n hn))
theorem fit_arr {H : Type} {d0 d1 : DataW H} (h : Fit 31 (.agg [d0, d1])) : Fit 28 d0 ∧ Fit 29 d1 := by
  unfold Fit at *
  simp only [DataW.weights, Tryd.underlying31, DataW.weightsEach, List.map_cons, List.map_nil, List.append_nil, List.mem_append] at h
  exact ⟨fun n hn => h n (Or.inl hn), fun n hn => h n (Or.inr hn)⟩
theorem fit_cell {H : Type} {d0 d1 d2 : DataW H} (h : Fit 72 (.agg [d0, d1, d2])) : Fit 70 d2 := by
  unfold Fit at *
  simp only [DataW.weights, Tryd.underlying72, DataW.weightsEach, List.map_cons, List.map_nil, List.append_nil, List.mem_append] at h
  exact fun n hn => h n (Or.inr (Or.inr hn))
theorem add_off (b off i : Nat) : (⟨b, off, none⟩ : Addr).add i = ⟨b, off + i, none⟩ := by
  unfold Addr.add
  split
  · subst_vars; rfl
  · rfl
theorem two_of {W : World} {a : Addr} {cs : List Value} (h : W.cells? 0 a 2 = some cs) : ∃ c0 c1, cs = [c0, c1] ∧ W.cell? a = some c0 ∧ W.cell? (a.add 1) = some c1 := by
  obtain ⟨_, hl, hc⟩ := World.cells?_some h
  match cs, hl with
  | [c0, c1], _ =>
    have h0 := hc 0 (by omega)
    have h1 := hc 1 (by omega)
    exact ⟨c0, c1, rfl, by simpa [Addr.add] using h0, by simpa using h1⟩
theorem three_of {W : World} {a : Addr} {cs : List Value} (h : W.cells? 0 a 3 = some cs) : ∃ c0 c1 c2, cs = [c0, c1, c2] ∧ W.cell? a = some c0 ∧ W.cell? (a.add 1) = some c1 ∧ W.cell? (a.add 2) = some c2 := by
  obtain ⟨_, hl, hc⟩ := World.cells?_some h
  match cs, hl with
  | [c0, c1, c2], _ =>
    have h0 := hc 0 (by omega)
    have h1 := hc 1 (by omega)
    have h2 := hc 2 (by omega)
    exact ⟨c0, c1, c2, rfl, by simpa [Addr.add] using h0, by simpa using h1, by simpa using h2⟩
section
variable {H : Type} {enc : TypeId × Value → H} {W : World} {sp : Nat → Bool} {held : Bool}
/-- What the opening of an array promises. -/
def Opens (enc : TypeId × Value → H) (W : World) (sp : Nat → Bool) (held : Bool) (k : Nat) : Prop := ∀ (x : DataW H × List MemPlace) (cs : List Value) (fuel : Nat), SizeOf.sizeOf x.1 < k → DataW.trod enc Tryd.prog W 0 sp held fuel 31 cs = some x → Fit 31 x.1 → ∃ n y c0 c1, cs = [c0, c1] ∧ ArIn n 0 W y (.agg #[c0, c1]) ∧ Snd y
theorem open_cell {k : Nat} (IH : Opens enc W sp held k) (x : DataW H × List MemPlace) (cs : List Value) (fuel : Nat) (hk : SizeOf.sizeOf x.1 ≤ k) (h : DataW.trod enc Tryd.prog W 0 sp held fuel 72 cs = some x) (hf : Fit 72 x.1) :
    ∃ n c v0 v1 v2, cs = [v0, v1, v2] ∧ CeIn (ArIn n 0 W) 0 W c v0 v1 v2 ∧ SndC c := by
  obtain ⟨y0, y1, y2, m, rfl, hl, h0, h1, h2⟩ := trod_struct3 Tryd.underlying72 h
  rw [cells33] at hl
  match cs, hl with
  | [v0, v1, v2], _ =>
    simp only [cells3, cells2, cells31, List.drop_zero, List.take_succ_cons, List.take_zero, List.drop_succ_cons] at h0 h1 h2
    obtain ⟨z0, e0, -, i0⟩ := DataW.trod_int Tryd.underlying3 h0
    obtain ⟨z1, e1, -, i1⟩ := DataW.trod_int Tryd.underlying2 h1
    simp only [List.cons.injEq, and_true] at e0 e1
    subst e0 e1
    replace i0 : I64 z0 := bounds_i64 i0
    replace i1 : I64 z1 := bounds_i64 i1
    have hf2 := fit_cell hf
    rcases open_slice Tryd.underlying70 h2 with ⟨hcs, hx⟩ | ⟨a, len, cap, mm, n, D, Pl, hcs, _, hlc, hm, hmm, hx, hel⟩
    · simp only [List.cons.injEq, and_true] at hcs
      subst hcs
      exact ⟨1, (z0, z1, []), _, _, _, rfl, ⟨rfl, rfl, none, 0, rfl, by simp, Or.inl rfl⟩, i0, i1, by simp⟩
    · simp only [List.cons.injEq, and_true] at hcs
      subst hcs
      rw [hx] at hf2
      obtain ⟨hb, hfe⟩ := fit_slice Tryd.underlying70 hf2
      have hlen : len * 48 ≤ reachBytes := by
        rw [bytes25] at hb
        simp only [List.length_map, List.length_range] at hb
        omega
      have hlm : len ≤ mm := by rw [hmm]; split <;> omega
      have hE : ∀ i, i < len → ∃ p : Ar × Value × Value, ∃ n, W.cell? (a.add (i * 2)) = some p.2.1 ∧ W.cell? (a.add (i * 2 + 1)) = some p.2.2 ∧ ArIn n 0 W p.1 (.agg #[p.2.1, p.2.2]) ∧ Snd p.1 := by
        intro i hi
        obtain ⟨cs', hc', ht'⟩ := hel i (by omega)
        rw [cells25] at hc'
        obtain ⟨c0, c1, rfl, g0, g1⟩ := two_of hc'
        rw [add_add] at g1
        have hmem : D i ∈ (List.range len).map D := List.mem_map_of_mem (List.mem_range.2 hi)
        have hs : SizeOf.sizeOf (D i) < k := by
          have s1 := List.sizeOf_lt_of_mem hmem
          rw [hx] at hk
          simp only [DataW.agg.sizeOf_spec, DataW.slice.sizeOf_spec, List.cons.sizeOf_spec, List.nil.sizeOf_spec] at hk
          omega
        obtain ⟨n', y, c0', c1', hcc, hin, hsn⟩ := IH (D i, Pl i) [c0, c1] n hs ht' (hfe _ hmem)
        simp only [List.cons.injEq, and_true] at hcc
        obtain ⟨rfl, rfl⟩ := hcc
        exact ⟨(y, c0, c1), n', g0, g1, hin, hsn⟩
      obtain ⟨F, hF⟩ := choose_lt hE
      obtain ⟨N, hN⟩ := fuel_lt (n := len) (q := fun i n => ArIn n 0 W (F i).1 (.agg #[(F i).2.1, (F i).2.2])) (fun i a b hab h => h.deep hab) (fun i hi => by obtain ⟨n, _, _, h, _⟩ := hF i hi; exact ⟨n, h⟩)
      have hbl : ((List.range len).map fun i => (F i).1).length = len := by simp
      refine ⟨N, (z0, z1, (List.range len).map fun i => (F i).1), _, _, _, rfl, ⟨rfl, rfl, some a, cap, by simp, ?_, ?_⟩, i0, i1, fun y hy => by
        obtain ⟨i, hi, rfl⟩ := List.mem_map.1 hy
        obtain ⟨_, _, _, _, hs⟩ := hF i (List.mem_range.1 hi)
        exact hs⟩
      · simp only [hbl]; unfold reachBytes at hlen; omega
      · by_cases hl0 : len = 0
        · left; subst hl0; rfl
        · right
          obtain ⟨b, off, spot⟩ := a
          obtain ⟨_, g0, _, _⟩ := hF 0 (by omega)
          have hspot : spot = none := by simpa [Addr.add] using World.cell?_spot g0
          subst hspot
          refine ⟨b, off, rfl, Nat.zero_le _, ?_, ?_⟩
          · refine Decidable.byContradiction fun hbn => ?_
            have : W.heap[b]? = none := by simp; omega
            rw [add_off] at g0
            simp [World.cell?, this] at g0
          · intro j hj
            have hj' : j < len := by simpa using hj
            obtain ⟨_, g0, g1, _⟩ := hF j hj'
            rw [add_off] at g0 g1
            refine ⟨_, _, g0, by rw [Nat.add_assoc]; exact g1, ?_⟩
            have := hN j hj'
            simpa [bAt, hj'] using this
theorem open_arr (k : Nat) : Opens enc W sp held k := by
  induction k with
  | zero => intro x cs fuel hk; omega
  | succ k ih =>
    intro x cs fuel hk h hf
    obtain ⟨y0, y1, m, rfl, hl, h0, h1⟩ := trod_struct2 Tryd.underlying31 h
    rw [cells25] at hl
    match cs, hl with
    | [c0, c1], _ =>
      simp only [cells22, cells23, List.drop_zero, List.take_succ_cons, List.take_zero, List.drop_succ_cons] at h0 h1
      obtain ⟨f0, f1⟩ := fit_arr hf
      obtain ⟨sh, a1, n1, cp1, rfl, hsl, hR, hsI⟩ : ∃ sh a1 n1 cp1, c0 = .slice a1 n1 cp1 ∧ List.length sh = n1 ∧ Row 0 W a1 sh ∧ ∀ z ∈ sh, I64 z := by
        rcases open_ints Tryd.underlying28 Tryd.underlying3 cells3 h0 with ⟨hcs, hx⟩ | ⟨a, l, c, zs, hcs, _, hlc, hm, hz, hx, hcell, hwz⟩
        · simp only [List.cons.injEq, and_true] at hcs
          exact ⟨[], none, 0, 0, hcs, rfl, row_nil _ _ _, by simp⟩
        · simp only [List.cons.injEq, and_true] at hcs
          rw [hx] at f0
          obtain ⟨hb, -⟩ := fit_slice Tryd.underlying28 f0
          rw [bytes3] at hb
          have hzl : l ≤ zs.length := by rw [hz]; split <;> omega
          simp only [lits, List.length_map, List.length_take, List.length_drop, reachBytes] at hb
          refine ⟨zs.take l, some a, l, c, hcs, by rw [List.length_take]; omega, ?_, fun z hz => bounds_i64 (hwz z (List.mem_of_mem_take hz))⟩
          refine ⟨by rw [List.length_take]; omega, ?_⟩
          by_cases hl0 : l = 0
          · left; subst hl0; rfl
          · right
            obtain ⟨b, off, spot⟩ := a
            have hc0 := hcell 0 (by omega)
            have hspot : spot = none := by simpa [Addr.add] using World.cell?_spot hc0
            subst hspot
            refine ⟨b, off, rfl, Nat.zero_le _, ?_, ?_⟩
            · refine Decidable.byContradiction fun hbn => ?_
              have : W.heap[b]? = none := by simp; omega
              simp [Addr.add, World.cell?, this] at hc0
            · intro i hi
              have hi' : i < l := by rw [List.length_take] at hi; omega
              have := hcell i (by omega)
              rw [add_off] at this
              rw [this]
              simp [hi']
      rcases open_slice Tryd.underlying29 h1 with ⟨hcs, hx⟩ | ⟨a, len, cap, mm, n, D, Pl, hcs, _, hlc, hm, hmm, hx, hel⟩
      · simp only [List.cons.injEq, and_true] at hcs
        subst hcs
        exact ⟨1, .mk sh [], _, _, rfl, arIn_mk (n := 0) (x := .mk sh []) hR (by simp [Ar.cells]) (Or.inl rfl) hsl rfl, Snd.of hsI (by simp)⟩
      · simp only [List.cons.injEq, and_true] at hcs
        subst hcs
        rw [hx] at f1
        obtain ⟨hb, hfe⟩ := fit_slice Tryd.underlying29 f1
        have hlen : len * 40 ≤ reachBytes := by
          rw [bytes33] at hb
          simp only [List.length_map, List.length_range] at hb
          omega
        have hlm : len ≤ mm := by rw [hmm]; split <;> omega
        have hE : ∀ i, i < len → ∃ p : Ce × Value × Value × Value, ∃ n, W.cell? (a.add (i * 3)) = some p.2.1 ∧ W.cell? (a.add (i * 3 + 1)) = some p.2.2.1 ∧ W.cell? (a.add (i * 3 + 2)) = some p.2.2.2 ∧ CeIn (ArIn n 0 W) 0 W p.1 p.2.1 p.2.2.1 p.2.2.2 ∧ SndC p.1 := by
          intro i hi
          obtain ⟨cs', hc', ht'⟩ := hel i (by omega)
          rw [cells33] at hc'
          obtain ⟨w0, w1, w2, rfl, g0, g1, g2⟩ := three_of hc'
          rw [add_add] at g1 g2
          have hmem : D i ∈ (List.range len).map D := List.mem_map_of_mem (List.mem_range.2 hi)
          have hs : SizeOf.sizeOf (D i) ≤ k := by
            have s1 := List.sizeOf_lt_of_mem hmem
            rw [hx] at hk
            simp only [DataW.agg.sizeOf_spec, DataW.slice.sizeOf_spec, List.cons.sizeOf_spec, List.nil.sizeOf_spec] at hk
            omega
          obtain ⟨n', c, u0, u1, u2, hcc, hin, hsn⟩ := open_cell ih (D i, Pl i) [w0, w1, w2] n hs ht' (hfe _ hmem)
          simp only [List.cons.injEq, and_true] at hcc
          obtain ⟨rfl, rfl, rfl⟩ := hcc
          exact ⟨(c, w0, w1, w2), n', g0, g1, g2, hin, hsn⟩
        obtain ⟨F, hF⟩ := choose_lt hE
        obtain ⟨N, hN⟩ := fuel_lt (n := len) (q := fun i n => CeIn (ArIn n 0 W) 0 W (F i).1 (F i).2.1 (F i).2.2.1 (F i).2.2.2) (fun i a b hab h => h.deeper fun x v hx => hx.deep hab) (fun i hi => by obtain ⟨n, _, _, _, h, _⟩ := hF i hi; exact ⟨n, h⟩)
        have hbl : ((List.range len).map fun i => (F i).1).length = len := by simp
        refine ⟨N + 1, .mk sh ((List.range len).map fun i => (F i).1), _, _, rfl, arIn_mk (n := N) (x := .mk sh ((List.range len).map fun i => (F i).1)) hR ?_ ?_ hsl hbl, Snd.of hsI fun c hc => by
          obtain ⟨i, hi, rfl⟩ := List.mem_map.1 hc
          obtain ⟨_, _, _, _, _, hs⟩ := hF i (List.mem_range.1 hi)
          exact hs⟩
        · show ((List.range len).map fun i => (F i).1).length ≤ _
          rw [hbl]; unfold reachBytes at hlen; omega
        · show CellsIn N 0 W ((List.range len).map fun i => (F i).1) (some a)
          by_cases hl0 : len = 0
          · left; subst hl0; rfl
          · right
            obtain ⟨b, off, spot⟩ := a
            obtain ⟨_, g0, _, _⟩ := hF 0 (by omega)
            have hspot : spot = none := by simpa [Addr.add] using World.cell?_spot g0
            subst hspot
            refine ⟨b, off, rfl, Nat.zero_le _, ?_, ?_⟩
            · refine Decidable.byContradiction fun hbn => ?_
              have : W.heap[b]? = none := by simp; omega
              rw [add_off] at g0
              simp [World.cell?, this] at g0
            · intro j hj
              have hj' : j < len := by simpa using hj
              obtain ⟨_, g0, g1, g2, _⟩ := hF j hj'
              rw [add_off] at g0 g1 g2
              refine ⟨_, _, _, g0, by rw [Nat.add_assoc]; exact g1, by rw [Nat.add_assoc]; exact g2, ?_⟩
              have := hN j hj'
              simpa [cAt, hj'] using this
end
end Go.Proofs.YtneblkdkhlgmcaaDoor
namespace Go.Proofs.YtneblkdkhlgmcaaDoor
open Go.ChangeShapes Go.WideShapes Go.ChangeAt Go.RowKit Go.Deep
set_option maxRecDepth 100000
set_option linter.unusedVariables false
theorem cells28 : Tryd.prog.cellsOf 34 = 7 := by kernel_rfl
theorem cells9 : Tryd.prog.cellsOf 9 = 1 := by kernel_rfl
theorem cells26 : Tryd.prog.cellsOf 32 = 1 := by kernel_rfl
theorem bytes28 : Tryd.prog.bytesOf 34 = 112 := by kernel_rfl
theorem fit_node {H : Type} {d0 d1 d2 d3 d4 d5 : DataW H} (h : Fit 34 (.agg [d0, d1, d2, d3, d4, d5])) : Fit 9 d2 ∧ Fit 31 d3 ∧ Fit 32 d4 := by
  unfold Fit at *
  simp only [DataW.weights, Tryd.underlying34, DataW.weightsEach, List.map_cons, List.map_nil, List.append_nil, List.mem_append] at h
  exact ⟨fun n hn => h n (Or.inr (Or.inr (Or.inl hn))), fun n hn => h n (Or.inr (Or.inr (Or.inr (Or.inl hn)))), fun n hn => h n (Or.inr (Or.inr (Or.inr (Or.inr (Or.inl hn)))))⟩
theorem seven_of {W : World} {a : Addr} {cs : List Value} (h : W.cells? 0 a 7 = some cs) : ∃ c0 c1 c2 c3 c4 c5 c6, cs = [c0, c1, c2, c3, c4, c5, c6] ∧ W.cell? a = some c0 ∧ W.cell? (a.add 1) = some c1 ∧ W.cell? (a.add 2) = some c2 ∧ W.cell? (a.add 3) = some c3 ∧ W.cell? (a.add 4) = some c4 ∧ W.cell? (a.add 5) = some c5 ∧ W.cell? (a.add 6) = some c6 := by
  obtain ⟨_, hl, hc⟩ := World.cells?_some h
  match cs, hl with
  | [c0, c1, c2, c3, c4, c5, c6], _ =>
    have h0 := hc 0 (by omega)
    have h1 := hc 1 (by omega)
    have h2 := hc 2 (by omega)
    have h3 := hc 3 (by omega)
    have h4 := hc 4 (by omega)
    have h5 := hc 5 (by omega)
    have h6 := hc 6 (by omega)
    exact ⟨c0, c1, c2, c3, c4, c5, c6, rfl, by simpa [Addr.add] using h0, by simpa using h1, by simpa using h2, by simpa using h3, by simpa using h4, by simpa using h5, by simpa using h6⟩
instance : Inhabited Nd := ⟨nNil⟩
section
variable {H : Type} {enc : TypeId × Value → H} {W : World} {sp : Nat → Bool} {held : Bool}
theorem trod_struct6 {P : Program} {w : World} {base : Nat} {spare : Nat → Bool} {t : TypeId} {f0 f1 f2 f3 f4 f5 : Field} {fuel : Nat} {cs : List Value} {x : DataW H × List MemPlace} (ht : P.underlying t = some (.struct #[f0, f1, f2, f3, f4, f5])) (h : DataW.trod enc P w base spare held fuel t cs = some x) :
    ∃ y0 y1 y2 y3 y4 y5 n, x.1 = .agg [y0.1, y1.1, y2.1, y3.1, y4.1, y5.1] ∧ cs.length = P.cellsOf t ∧ DataW.trod enc P w base spare held n f0.type ((cs.drop f0.offset).take (P.cellsOf f0.type)) = some y0 ∧
      DataW.trod enc P w base spare held n f1.type ((cs.drop f1.offset).take (P.cellsOf f1.type)) = some y1 ∧ DataW.trod enc P w base spare held n f2.type ((cs.drop f2.offset).take (P.cellsOf f2.type)) = some y2 ∧ DataW.trod enc P w base spare held n f3.type ((cs.drop f3.offset).take (P.cellsOf f3.type)) = some y3 ∧
      DataW.trod enc P w base spare held n f4.type ((cs.drop f4.offset).take (P.cellsOf f4.type)) = some y4 ∧ DataW.trod enc P w base spare held n f5.type ((cs.drop f5.offset).take (P.cellsOf f5.type)) = some y5 := by
  obtain ⟨xs, n, _, rfl, hl, hlen, hf⟩ := DataW.trod_struct ht h
  match xs, hlen with
  | [y0, y1, y2, y3, y4, y5], _ => exact ⟨y0, y1, y2, y3, y4, y5, n, by simp, hl, by simpa using hf 0 f0 rfl, by simpa using hf 1 f1 rfl, by simpa using hf 2 f2 rfl, by simpa using hf 3 f3 rfl, by simpa using hf 4 f4 rfl, by simpa using hf 5 f5 rfl⟩
end
theorem agg_seven {v c0 c1 c2 c3 c4 c5 c6 : Value} (h : v.cells.toList = [c0, c1, c2, c3, c4, c5, c6]) : v = .agg #[c0, c1, c2, c3, c4, c5, c6] := by
  cases v with
  | agg cs =>
    simp only [Value.cells] at h
    congr 1
    cases cs
    simpa using h
  | _ => simp [Value.cells] at h
end Go.Proofs.YtneblkdkhlgmcaaDoor
namespace Go.Proofs.YtneblkdkhlgmcaaDoor
open Go.ChangeShapes Go.WideShapes Go.ChangeAt Go.RowKit Go.Deep
set_option maxRecDepth 100000
set_option linter.unusedVariables false
/-- All numbers are of 64 bits. -/
def i6N : Nat → Nd → Prop
  | 0, _ => True
  | m + 1, x => I64 x.op ∧ (∀ i, i < x.lit.cells.length → I64 (cAt x.lit.cells i).2.1) ∧ ∀ i, i < x.kids.length → i6N m (kp x i)
theorem i6_mk {x : Nd} (h1 : I64 x.op) (h3 : ∀ i, i < x.lit.cells.length → I64 (cAt x.lit.cells i).2.1) (h4 : ∀ i, i < x.kids.length → ∀ k, i6N k (kp x i)) : ∀ k, i6N k x := fun k => by
  cases k with
  | zero => trivial
  | succ k => exact ⟨h1, h3, fun i hi => h4 i hi k⟩
theorem snd_cells {A : Ar} (h : Snd A) : ∀ i, i < A.cells.length → I64 (cAt A.cells i).2.1 := fun i hi => (h.cell (c := cAt A.cells i) (by simp [cAt, hi])).2.1
theorem bounds64 {n : Int} (h : (Lit.int .i64 n).wf = true) : I64 n := by
  simp only [Lit.wf, Bool.and_eq_true, decide_eq_true_eq] at h
  exact h
section
variable {H : Type} {enc : TypeId × Value → H} {W : World} {sp : Nat → Bool} {held : Bool}
/-- What the opening of a program promises. -/
def OpensM (enc : TypeId × Value → H) (W : World) (sp : Nat → Bool) (held : Bool) (k : Nat) : Prop := ∀ (x : DataW H × List MemPlace) (cs : List Value) (fuel : Nat), SizeOf.sizeOf x.1 < k → DataW.trod enc Tryd.prog W 0 sp held fuel 34 cs = some x → Fit 34 x.1 →
  ∃ m n y c0 c1 c2 c3 c4 c5 c6, cs = [c0, c1, c2, c3, c4, c5, c6] ∧ NdIn m n 0 W y (.agg #[c0, c1, c2, c3, c4, c5, c6]) ∧ ∀ k, i6N k y
theorem open_nodeM (k : Nat) : OpensM enc W sp held k := by
  induction k with
  | zero => intro x cs fuel hk; omega
  | succ k ih =>
    intro x cs fuel hk h hf
    obtain ⟨y0, y1, y2, y3, y4, y5, n0, hx0, hl, h0, h1, h2, h3, h4, h5⟩ := trod_struct6 Tryd.underlying34 h
    rw [cells28] at hl
    match cs, hl with
    | [v0, v1, v2, v3, v4, v5, v6], _ =>
      simp only [cells3, cells9, cells25, cells26, List.drop_zero, List.take_succ_cons, List.take_zero, List.drop_succ_cons] at h0 h1 h2 h3 h4 h5
      rw [hx0] at hf
      obtain ⟨f2, f3, f4⟩ := fit_node hf
      obtain ⟨z0, e0, -, -⟩ := DataW.trod_int Tryd.underlying3 h0
      obtain ⟨z1, e1, -, wf1⟩ := DataW.trod_int Tryd.underlying3 h1
      obtain ⟨s2, e2, r2, -⟩ := DataW.trod_string Tryd.underlying9 h2
      have l2 : s2.size ≤ 140737488355328 := by
        have hh := f2 s2.data.toList.length (by rw [r2]; simp [DataW.weights])
        have h3 : s2.data.toList.length = s2.size := Array.length_toList
        unfold reachBytes at hh
        omega
      obtain ⟨z5, e5, -, -⟩ := DataW.trod_int Tryd.underlying3 h5
      simp only [List.cons.injEq, and_true] at e0 e1 e2 e5
      subst e0 e1 e2 e5
      obtain ⟨n3, A, c0, c1, hc3, hA, hSA⟩ := open_arr (SizeOf.sizeOf y3.1 + 1) y3 _ n0 (by omega) h3 f3
      simp only [List.cons.injEq, and_true] at hc3
      obtain ⟨rfl, rfl⟩ := hc3
      have hAf : ∃ a1 k1 a2 k2, v3 = .slice a1 A.shape.length k1 ∧ v4 = .slice a2 A.cells.length k2 := by
        cases n3 with
        | zero => exact hA.elim
        | succ n3 =>
          obtain ⟨a1, k1, a2, k2, hv, -⟩ := hA
          simp only [Value.agg.injEq, Array.mk.injEq, List.cons.injEq, and_true] at hv
          exact ⟨a1, k1, a2, k2, hv.1, hv.2⟩
      obtain ⟨a1, k1, a2, k2, rfl, rfl⟩ := hAf
      rcases open_slice Tryd.underlying32 h4 with ⟨hcs, hx⟩ | ⟨a, len, cap, mm, n, D, Pl, hcs, _, hlc, hm, hmm, hx, hel⟩
      · simp only [List.cons.injEq, and_true] at hcs
        subst hcs
        exact ⟨1, n3, .mk z0 z1 s2 A [] z5, _, _, _, _, _, _, _, rfl, ⟨a1, k1, a2, k2, none, 0, rfl, hA, by simp [Nd.kids], l2, Or.inl rfl⟩, i6_mk (by exact bounds64 wf1) (snd_cells hSA) (fun i hi => absurd hi (by simp [Nd.kids]))⟩
      · simp only [List.cons.injEq, and_true] at hcs
        subst hcs
        rw [hx] at f4
        obtain ⟨hb, hfe⟩ := fit_slice Tryd.underlying32 f4
        have hlen : len * 112 ≤ reachBytes := by
          rw [bytes28] at hb
          simp only [List.length_map, List.length_range] at hb
          omega
        have hlm : len ≤ mm := by rw [hmm]; split <;> omega
        have hE : ∀ i, i < len → ∃ p : Nd × (Value × Value × Value × Value × Value × Value × Value), ∃ mn : Nat × Nat, W.cell? (a.add (i * 7)) = some p.2.1 ∧ W.cell? (a.add (i * 7 + 1)) = some p.2.2.1 ∧ W.cell? (a.add (i * 7 + 2)) = some p.2.2.2.1 ∧ W.cell? (a.add (i * 7 + 3)) = some p.2.2.2.2.1 ∧ W.cell? (a.add (i * 7 + 4)) = some p.2.2.2.2.2.1 ∧ W.cell? (a.add (i * 7 + 5)) = some p.2.2.2.2.2.2.1 ∧ W.cell? (a.add (i * 7 + 6)) = some p.2.2.2.2.2.2.2 ∧ NdIn mn.1 mn.2 0 W p.1 (.agg #[p.2.1, p.2.2.1, p.2.2.2.1, p.2.2.2.2.1, p.2.2.2.2.2.1, p.2.2.2.2.2.2.1, p.2.2.2.2.2.2.2]) ∧ ∀ k, i6N k p.1 := by
          intro i hi
          obtain ⟨cs', hc', ht'⟩ := hel i (by omega)
          rw [cells28] at hc'
          obtain ⟨w0, w1, w2, w3, w4, w5, w6, rfl, g0, g1, g2, g3, g4, g5, g6⟩ := seven_of hc'
          rw [add_add] at g1 g2 g3 g4 g5 g6
          have hmem : D i ∈ (List.range len).map D := List.mem_map_of_mem (List.mem_range.2 hi)
          have hs : SizeOf.sizeOf (D i) < k := by
            have s1 := List.sizeOf_lt_of_mem hmem
            have s2 : SizeOf.sizeOf y4.1 < SizeOf.sizeOf x.1 := by
              rw [hx0]
              simp only [DataW.agg.sizeOf_spec, List.cons.sizeOf_spec, List.nil.sizeOf_spec]
              omega
            rw [hx] at s2
            simp only [DataW.slice.sizeOf_spec] at s2
            omega
          obtain ⟨m', n', y, c0, c1, c2, c3, c4, c5, c6, hcc, hin, hsx⟩ := ih (D i, Pl i) _ n hs ht' (hfe _ hmem)
          simp only [List.cons.injEq, and_true] at hcc
          obtain ⟨rfl, rfl, rfl, rfl, rfl, rfl, rfl⟩ := hcc
          exact ⟨(y, w0, w1, w2, w3, w4, w5, w6), (m', n'), g0, g1, g2, g3, g4, g5, g6, hin, hsx⟩
        obtain ⟨F, hF⟩ := choose_lt hE
        obtain ⟨M, hM⟩ := fuel_lt (n := len) (q := fun i m => ∃ n, NdIn m n 0 W (F i).1 (.agg #[(F i).2.1, (F i).2.2.1, (F i).2.2.2.1, (F i).2.2.2.2.1, (F i).2.2.2.2.2.1, (F i).2.2.2.2.2.2.1, (F i).2.2.2.2.2.2.2])) (fun i a b hab ⟨n, h⟩ => ⟨n, h.deep hab⟩) (fun i hi => by obtain ⟨mn, _, _, _, _, _, _, _, h, _⟩ := hF i hi; exact ⟨mn.1, mn.2, h⟩)
        obtain ⟨N, hN⟩ := fuel_lt (n := len) (q := fun i n => NdIn M n 0 W (F i).1 (.agg #[(F i).2.1, (F i).2.2.1, (F i).2.2.2.1, (F i).2.2.2.2.1, (F i).2.2.2.2.2.1, (F i).2.2.2.2.2.2.1, (F i).2.2.2.2.2.2.2])) (fun i a b hab h => h.boxes hab) hM
        have hbl : ((List.range len).map fun i => (F i).1).length = len := by simp
        refine ⟨M + 1, max n3 N, .mk z0 z1 s2 A ((List.range len).map fun i => (F i).1) z5, _, _, _, _, _, _, _, rfl, ⟨a1, k1, a2, k2, some a, cap, ?_, hA.deep (by omega), ?_, ?_, ?_⟩, ?_⟩
        · show Value.agg #[_, _, _, _, _, .slice (some a) len cap, _] = Value.agg #[_, _, _, _, _, .slice (some a) ((List.range len).map fun i => (F i).1).length cap, _]
          rw [hbl]
          rfl
        · show ((List.range len).map fun i => (F i).1).length ≤ _
          rw [hbl]; unfold reachBytes at hlen; omega
        · exact l2
        · show ((List.range len).map fun i => (F i).1) = [] ∨ _
          by_cases hl0 : len = 0
          · left; subst hl0; rfl
          · right
            obtain ⟨b, off, spot⟩ := a
            obtain ⟨_, g0, _⟩ := hF 0 (by omega)
            have hspot : spot = none := by simpa [Addr.add] using World.cell?_spot g0
            subst hspot
            refine ⟨b, off, rfl, Nat.zero_le _, ?_, ?_⟩
            · refine Decidable.byContradiction fun hbn => ?_
              have : W.heap[b]? = none := by simp; omega
              rw [add_off] at g0
              simp [World.cell?, this] at g0
            · intro j hj
              have hj' : j < len := by
                have : j < ((List.range len).map fun i => (F i).1).length := hj
                rw [hbl] at this
                exact this
              have hy : nAt ((List.range len).map fun i => (F i).1) j = (F j).1 := by simp [nAt, hj']
              obtain ⟨_, g0, g1, g2, g3, g4, g5, g6, _, _⟩ := hF j hj'
              rw [add_off] at g0 g1 g2 g3 g4 g5 g6
              have hin : NdIn M (max n3 N) 0 W (F j).1 _ := (hN j hj').boxes (Nat.le_max_right n3 N)
              obtain ⟨m', hm', d1, q1, d2, q2, dk, ek, hv, -⟩ := hin.form
              unfold ndV at hv
              simp only [Value.agg.injEq, Array.mk.injEq, List.cons.injEq, and_true] at hv
              obtain ⟨e0, e1, e2, e3, e4, e5, e6⟩ := hv
              show ∃ d1 e1 d2 e2 dk ek, Seven W b (off + j * 7) (nAt ((List.range len).map fun i => (F i).1) j) d1 e1 d2 e2 dk ek ∧ NdIn M (max n3 N) 0 W (nAt ((List.range len).map fun i => (F i).1) j) (ndV (nAt ((List.range len).map fun i => (F i).1) j) d1 e1 d2 e2 dk ek)
              rw [hy]
              refine ⟨d1, q1, d2, q2, dk, ek, ⟨?_, ?_, ?_, ?_, ?_, ?_, ?_⟩, ?_⟩
              · rw [← e0]; exact g0
              · rw [← e1, Nat.add_assoc]; exact g1
              · rw [← e2, Nat.add_assoc]; exact g2
              · rw [← e3, Nat.add_assoc]; exact g3
              · rw [← e4, Nat.add_assoc]; exact g4
              · rw [← e5, Nat.add_assoc]; exact g5
              · rw [← e6, Nat.add_assoc]; exact g6
              · unfold ndV
                rw [← e0, ← e1, ← e2, ← e3, ← e4, ← e5, ← e6]
                exact hin
        · refine i6_mk (by exact bounds64 wf1) (snd_cells hSA) (fun i hi => ?_)
          have hi' : i < len := by
            have : i < ((List.range len).map fun i => (F i).1).length := hi
            rw [hbl] at this
            exact this
          have hy : kp (.mk z0 z1 s2 A ((List.range len).map fun i => (F i).1) z5) i = (F i).1 := by
            show nAt ((List.range len).map fun i => (F i).1) i = (F i).1
            simp [nAt, hi']
          rw [hy]
          obtain ⟨_, _, _, _, _, _, _, _, _, hq⟩ := hF i hi'
          exact hq
/-- A program that came in. -/
theorem node_ofM {ts : List TypeId} {ds : List (DataW H)} {j : Nat} {d : DataW H} {v : Value} {p : List MemPlace}
    (hsz : (DataW.weightsEach Tryd.prog ts ds).all (· ≤ reachBytes) = true) (ht : ts[j]? = some 34) (hd : ds[j]? = some d)
    (h : DataW.Trod enc Tryd.prog W 0 sp held 34 v d p) : ∃ m n y c0 c1 c2 c3 c4 c5 c6, v.cells.toList = [c0, c1, c2, c3, c4, c5, c6] ∧ NdIn m n 0 W y (.agg #[c0, c1, c2, c3, c4, c5, c6]) ∧ ∀ k, i6N k y := by
  obtain ⟨fuel, hf⟩ := h
  exact open_nodeM (SizeOf.sizeOf d + 1) (d, p) _ fuel (by simp) hf (fun n hn => by
    have := List.all_eq_true.1 hsz n (DataW.weights_mem_each ht hd n hn)
    simpa using this)
end
end Go.Proofs.YtneblkdkhlgmcaaDoor
namespace Go.Proofs.YtneblkdkhlgmcaaDoor
open Go.ChangeShapes Go.WideShapes Go.ChangeAt Go.RowKit
set_option maxRecDepth 100000
set_option linter.unusedVariables false
set_option linter.unusedSimpArgs false
theorem sumUp_congr {f g : Nat → Nat} {m : Nat} (h : ∀ i, i < m → f i = g i) : sumUp f m = sumUp g m := by
  induction m with
  | zero => rfl
  | succ m ih => simp only [sumUp]; rw [ih fun i hi => h i (by omega), h m (by omega)]
end Go.Proofs.YtneblkdkhlgmcaaDoor
namespace Go.Proofs.YtneblkdkhlgmcaaDoor
open Go.ChangeShapes Go.WideShapes Go.ChangeAt Go.RowKit
set_option maxRecDepth 100000
set_option linter.unusedVariables false
set_option linter.unusedSimpArgs false
def noA : Ar := .mk [] []
def noS : ByteArray := { data := #[] }
def litD (a : Ar) : Nd := .mk 1 0 noS a [] 0
def GivesN (m n : Nat) (x : Nd) (w : World) (e : Ending) (w' : World) : Prop := (∃ v, e = .returned v ∧ NdIn m n 0 w' x v) ∧ Below w.heap.size w w'
theorem noA_in (n lo : Nat) (w : World) : ArIn (n + 1) lo w noA (.agg #[.slice none 0 0, .slice none 0 0]) := arIn_mk (x := noA) (row_nil _ _ _) (by simp [noA, Ar.cells]) (Or.inl rfl) rfl rfl
theorem leaf_in (n lo : Nat) (w : World) (k op : Int) (a : Ar) (a1 : Option Addr) (c1 : Nat) (a2 : Option Addr) (c2 : Nat) (h : ArIn n lo w a (.agg #[.slice a1 a.shape.length c1, .slice a2 a.cells.length c2])) (m : Nat) : NdIn (m + 1) n lo w (.mk k op noS a [] 0) (.agg #[.int .i64 k, .int .i64 op, .string noS, .slice a1 a.shape.length c1, .slice a2 a.cells.length c2, .slice none 0 0, .int .i64 0]) :=
  ⟨a1, c1, a2, c2, none, 0, rfl, h, by simp [Nd.kids], (by show 0 ≤ _; omega), Or.inl rfl⟩
set_option maxHeartbeats 1000000 in
theorem lit30 (m n : Nat) (a : Ar) (va : Value) (w : World) (h : ArIn n 0 w a va) : Calls Tryd.prog 19 #[va] w fun e w' => GivesN (m + 1) n (litD a) w e w' := by
  have h' := h
  cases n with
  | zero => exact h.elim
  | succ n =>
  obtain ⟨a1, c1, a2, c2, rfl, -⟩ := h
  have H1 := hide h'
  clear h'
  have HL : Hid (∀ W, Below w.heap.size w W → NdIn (m + 1) (n + 1) 0 W (litD a) (.agg #[.int .i64 1, .int .i64 0, .string noS, .slice a1 a.shape.length c1, .slice a2 a.cells.length c2, .slice none 0 0, .int .i64 0])) := fun W hW => leaf_in (n + 1) 0 W 1 0 a a1 c1 a2 c2 (H1.out.next hW) m
  clear H1
  generalize a.shape.length = L1 at *
  generalize a.cells.length = L2 at *
  go_enter Tryd.func19, Tryd.ntmps19
  go_wp2
  exact bodyPost_ret (v := .agg #[.int .i64 1, .int .i64 0, .string noS, .slice a1 L1 c1, .slice a2 L2 c2, .slice none 0 0, .int .i64 0]) (by simp [results, Tryd.results19, go_sem, noS]) rfl ⟨⟨_, rfl, HL.out _ (two_allocs _ _ _)⟩, two_allocs _ _ _⟩
end Go.Proofs.YtneblkdkhlgmcaaDoor
namespace Go.Proofs.YtneblkdkhlgmcaaDoor
open Go.ChangeShapes Go.WideShapes Go.ChangeAt Go.RowKit
set_option maxRecDepth 100000
theorem cell_apart {w : World} {p q : Addr} {v : Value} (h : p.block ≠ q.block) (x : Value) (hc : w.cell? p = some v) : (w.setCell q x).cell? p = some v := by
  rw [World.cell?_of_block (w := w) (Below.heap_setCell w q x p.block h)]
  exact hc
end Go.Proofs.YtneblkdkhlgmcaaDoor
namespace Go.Proofs.YtneblkdkhlgmcaaDoor
open Go.ChangeShapes Go.WideShapes Go.ChangeAt Go.RowKit
set_option maxRecDepth 100000
set_option linter.unusedVariables false
/-- append onto a row of the call's own, as one step of a region. -/
theorem step_append_own {P : Program} {w : World} {ops : Array Oper} {o : Oper} {a : Act} {K : Act → World → Prop} {Q : Exit → Act → World → Prop} {E : Prop} (hg : o.guard = none) (s x : Operand) (t : TypeId)
    (ho : o.op = .call { callee := .builtin .append, args := #[s, x], argTypes := #[t, t] })
    (base : Nat) (e : TypeId) (i : TypeInfo) (z : Value) (size bytes : Nat) (ht : P.underlying t = some (.slice e)) (hi : P.info? e = some i) (hz : i.zero = some z)
    (hsize : i.size = size) (hby : i.bytes = bytes) (hzs : z.cells.size = size) (hsz : 0 < size)
    (v : Value) (n : Nat) (xs : List Value) (hs : a.eval s = v) (hown : w.ownsRow base e size v n xs)
    (ad : Addr) (m c : Nat) (news : List Value) (hx : a.eval x = .slice (some ad) m c) (hl : news.length = m * size) (hnews : ∀ j u, news[j]? = some u → w.cell? (ad.add j) = some u) (h1 : ∀ u ∈ news, u.oneCell' = true)
    (h63 : n + m ≤ maxLen) (hbytes : (n + m) * bytes ≤ 140737488355328) (hbase : base ≤ w.heap.size)
    (h : ∀ v' w', w'.ownsRow base e size v' (n + m) (xs ++ news) → Below base w w' → K (a.put o.dst v') w') : if Region.wanted o (yielded ops a.tmps) = true then Oper.wp P o a w K Q else E := by
  have hw : Region.wanted o (yielded ops a.tmps) = true := by simp [Region.wanted, hg]
  rw [if_pos hw]
  refine wp_append_own w s x t ho base e i z size bytes ht hi hz hsize hby hzs hsz v n xs hs hown ad m c news hx hl hnews h1 h63 hbytes hbase ?_
  intro v' w' hown' hgrow _
  exact h v' w' hown' ((Below.refl _ _).grown hgrow hbase (fun q hq => (hown.lt q hq).1))
/-- What the row holds that append has put together, up to number j. -/
def rowF (k : Int) (l : List Int) (j : Nat) : List Value := (List.range (j * 3)).map (numF k l l.length)
theorem rowF_step (k : Int) (l : List Int) (j : Nat) (hj : j < l.length) : rowF k l (j + 1) = rowF k l j ++ [.int .i64 k, .int .i64 (l[j]?.getD 0), .slice none 0 0] := by
  unfold rowF
  have e : (j + 1) * 3 = j * 3 + 1 + 1 + 1 := by omega
  rw [e, List.range_succ, List.range_succ, List.range_succ]
  simp only [List.map_append, List.map_cons, List.map_nil, List.append_assoc, List.cons_append, List.nil_append]
  have f0 : numF k l l.length (j * 3) = .int .i64 k := by
    unfold numF; rw [if_pos (by omega), if_pos (by omega)]
  have f1 : numF k l l.length (j * 3 + 1) = .int .i64 (l[j]?.getD 0) := by
    unfold numF; rw [if_pos (by omega), if_neg (by omega), if_pos (by omega), show (j * 3 + 1) / 3 = j by omega]
  have f2 : numF k l l.length (j * 3 + 1 + 1) = .slice none 0 0 := by
    unfold numF; rw [if_pos (by omega), if_neg (by omega), if_neg (by omega)]
  rw [f0, f1, f2]
theorem owns_form {w : World} {base n : Nat} {e : TypeId} {v : Value} {xs : List Value} (h : w.ownsRow base e 3 v n xs) (hn : 0 < n) : ∃ g cap, v = .slice (some ⟨g, 0, none⟩) n cap ∧ base ≤ g ∧ g < w.heap.size := by
  obtain ⟨h1, h2⟩ := h
  rcases h2 with ⟨rfl, h2⟩ | ⟨g, cap, cur, rfl, hb, hg, -⟩
  · omega
  · exact ⟨g, cap, rfl, hb, lt_of_block hg⟩
theorem owns_cells {w : World} {base lo n : Nat} {v : Value} (k : Int) (l : List Int) (h : w.ownsRow base 72 3 v l.length (rowF k l l.length)) (hlo : lo ≤ base) :
    ∃ a2 cap, v = .slice a2 l.length cap ∧ CellsIn n lo w (numCs k l) a2 := by
  have h' := h
  obtain ⟨h1, h2⟩ := h'
  rcases h2 with ⟨rfl, h2⟩ | ⟨g, cap, cur, rfl, hb, hg, -⟩
  · have e : l = [] := List.eq_nil_of_length_eq_zero h2
    subst e
    exact ⟨none, 0, rfl, Or.inl rfl⟩
  · refine ⟨_, cap, rfl, Or.inr ⟨g, 0, rfl, by omega, lt_of_block hg, ?_⟩⟩
    intro i hi
    rw [numCs_len] at hi
    rw [numCs_at k l i hi]
    have hc : ∀ m, m < l.length * 3 → w.cell? ⟨g, m, none⟩ = some (numF k l l.length m) := by
      intro m hm
      have := h.cellAt m (by simpa [rowF] using hm)
      rw [this]
      simp [rowF, hm]
    have f0 : numF k l l.length (i * 3) = .int .i64 k := by
      unfold numF; rw [if_pos (by omega), if_pos (by omega)]
    have f1 : numF k l l.length (i * 3 + 1) = .int .i64 (l[i]?.getD 0) := by
      unfold numF; rw [if_pos (by omega), if_neg (by omega), if_pos (by omega), show (i * 3 + 1) / 3 = i by omega]
    have f2 : numF k l l.length (i * 3 + 2) = .slice none 0 0 := by
      unfold numF; rw [if_pos (by omega), if_neg (by omega), if_neg (by omega)]
    have h0 := hc (i * 3) (by omega)
    have h1 := hc (i * 3 + 1) (by omega)
    have h2 := hc (i * 3 + 2) (by omega)
    rw [f0] at h0
    rw [f1] at h1
    rw [f2] at h2
    rw [Nat.zero_add]
    exact ⟨_, _, _, h0, h1, h2, rfl, rfl, none, 0, rfl, by simp, Or.inl rfl⟩
end Go.Proofs.YtneblkdkhlgmcaaDoor
namespace Go.Proofs.YtneblkdkhlgmcaaDoor
open Go.ChangeShapes Go.WideShapes Go.ChangeAt Go.RowKit
set_option maxRecDepth 100000
set_option linter.unusedVariables false
/-- What holds while the document's Nums or Text goes on: its answer's place (block s), the array (block o, its shape sv) and its cells so far. -/
def Inv (s o : Nat) (sv : Value) (k : Int) (l : List Int) (j : Nat) (v : Value) (w wr : World) : Prop :=
  Below s w wr ∧ o < wr.heap.size ∧ (wr.cell? ⟨s, 0, none⟩ = some (.slice none 0 0) ∧ wr.cell? ⟨s, 1, none⟩ = some (.slice none 0 0) ∧ wr.frozen? ⟨s, 0, none⟩ = false ∧ wr.frozen? ⟨s, 1, none⟩ = false) ∧
  (wr.cell? ⟨o, 0, none⟩ = some sv ∧ wr.cell? ⟨o, 1, none⟩ = some v ∧ wr.frozen? ⟨o, 0, none⟩ = false ∧ wr.frozen? ⟨o, 1, none⟩ = false) ∧ wr.ownsRow (o + 1) 72 3 v j (rowF k l j)
theorem frozen_set (w : World) (a b : Addr) (v : Value) (h : w.frozen? b = false) : (w.setCell a v).frozen? b = false := by
  simpa using h
theorem inv_step {s o : Nat} {sv : Value} {k : Int} {l : List Int} {j : Nat} {v v' : Value} {w wr w1 : World} (so : s < o) (h : Inv s o sv k l j v w wr) (hb : Below (o + 1) wr w1) (hown : w1.ownsRow (o + 1) 72 3 v' (j + 1) (rowF k l (j + 1))) : Inv s o sv k l (j + 1) v' w (w1.setCell ⟨o, 1, none⟩ v') := by
  obtain ⟨h1, h2, ⟨c0, c1, c2, c3⟩, ⟨d0, d1, d2, d3⟩, -⟩ := h
  have e0 : w1.cell? ⟨o, 0, none⟩ = some sv := (hb.cell (p := ⟨o, 0, none⟩) (by show o < _; omega)).trans d0
  have e1 : w1.cell? ⟨o, 1, none⟩ = some v := (hb.cell (p := ⟨o, 1, none⟩) (by show o < _; omega)).trans d1
  refine ⟨(h1.trans (hb.mono (by omega))).setCell (p := ⟨o, 1, none⟩) (by show s ≤ o; omega) _, ?_, ⟨?_, ?_, ?_, ?_⟩, ⟨?_, ?_, ?_, ?_⟩, ownsRow_setCell_below hown (a := ⟨o, 1, none⟩) (by show o < _; omega) _⟩
  · have : (w1.setCell ⟨o, 1, none⟩ v').heap.size = w1.heap.size := by simp
    rw [this]; exact Nat.lt_of_lt_of_le h2 hb.size
  · exact cell_apart (p := ⟨s, 0, none⟩) (q := ⟨o, 1, none⟩) (by show s ≠ o; omega) _ ((hb.cell (p := ⟨s, 0, none⟩) (by show s < _; omega)).trans c0)
  · exact cell_apart (p := ⟨s, 1, none⟩) (q := ⟨o, 1, none⟩) (by show s ≠ o; omega) _ ((hb.cell (p := ⟨s, 1, none⟩) (by show s < _; omega)).trans c1)
  · exact frozen_set _ _ _ _ ((hb.frozen (p := ⟨s, 0, none⟩) (by show s < _; omega)).trans c2)
  · exact frozen_set _ _ _ _ ((hb.frozen (p := ⟨s, 1, none⟩) (by show s < _; omega)).trans c3)
  · rw [World.cell?_setCell_other _ _ _ _ (by simp)]; exact e0
  · exact World.cell?_setCell_same' _ _ _ (by rw [e1]; rfl)
  · exact frozen_set _ _ _ _ ((hb.frozen (p := ⟨o, 0, none⟩) (by show o < _; omega)).trans d2)
  · exact frozen_set _ _ _ _ ((hb.frozen (p := ⟨o, 1, none⟩) (by show o < _; omega)).trans d3)
theorem info33' : ∃ i, Tryd.prog.info? 72 = some i ∧ i.zero = some (.agg #[.int .i64 0, .int .i64 0, .slice none 0 0]) ∧ i.size = 3 ∧ i.bytes = 40 := by
  obtain ⟨i, hi, hzz⟩ := Option.map_eq_some_iff.1 info33
  simp only [Prod.mk.injEq] at hzz
  exact ⟨i, hi, hzz.1, hzz.2.1, hzz.2.2⟩
theorem owns_drew {w : World} {base e size n : Nat} {v : Value} {xs : List Value} (h : w.ownsRow base e size v n xs) : w.drew.ownsRow base e size v n xs := h
set_option maxHeartbeats 4000000 in
theorem rnums_any {lo : Nat} (n : Nat) (l : List Int) (a : Option Addr) (cap : Nat) (w : World) (R : Row lo w a l) (hl : l.length ≤ 16384) :
    Calls Tryd.prog 16 #[.slice a l.length cap] w fun e w' => GivesA (n + 1) (numsA l) w e w' := by
  obtain ⟨i0, hi, hz0, hz1, hz2⟩ := info33'
  have hrow := @row_at _ _ _ _ R
  clear R
  have b1 : Below w.heap.size w ((w.alloc (.cells #[.slice none 0 0, .slice none 0 0] 31)).alloc (.cells #[.int .i64 (l.length : Int)] 3)) := two_allocs _ _ _
  have s1 := size_two w (.cells #[.slice none 0 0, .slice none 0 0] 31) (.cells #[.int .i64 (l.length : Int)] 3)
  have HST : Hid (Inv w.heap.size (w.heap.size + 2) (.slice (some ⟨w.heap.size + 1, 0, none⟩) 1 1) 0 l 0 (.slice none 0 0) w (((w.alloc (.cells #[.slice none 0 0, .slice none 0 0] 31)).alloc (.cells #[.int .i64 (l.length : Int)] 3)).alloc (.cells #[.slice (some ⟨w.heap.size + 1, 0, none⟩) 1 1, .slice none 0 0] 31))) := by
    have g := fun (b i : Nat) (v : Value) (hb : b < w.heap.size + 2) (h : ((w.alloc (.cells #[.slice none 0 0, .slice none 0 0] 31)).alloc (.cells #[.int .i64 (l.length : Int)] 3)).cell? ⟨b, i, none⟩ = some v) => ((one_alloc _ (.cells #[.slice (some ⟨w.heap.size + 1, 0, none⟩) 1 1, .slice none 0 0] 31)).cell (p := ⟨b, i, none⟩) (by rw [s1]; exact hb)).trans h
    have gf : ∀ i, (((w.alloc (.cells #[.slice none 0 0, .slice none 0 0] 31)).alloc (.cells #[.int .i64 (l.length : Int)] 3)).alloc (.cells #[.slice (some ⟨w.heap.size + 1, 0, none⟩) 1 1, .slice none 0 0] 31)).frozen? ⟨w.heap.size, i, none⟩ = false := fun i =>
      (((two_allocs (w.alloc (.cells #[.slice none 0 0, .slice none 0 0] 31)) (.cells #[.int .i64 (l.length : Int)] 3) (.cells #[.slice (some ⟨w.heap.size + 1, 0, none⟩) 1 1, .slice none 0 0] 31)).frozen (p := ⟨w.heap.size, i, none⟩) (by simp))).trans (frozen_new w _ 31 i)
    have n0 := cell_new0 ((w.alloc (.cells #[.slice none 0 0, .slice none 0 0] 31)).alloc (.cells #[.int .i64 (l.length : Int)] 3)) #[.slice (some ⟨w.heap.size + 1, 0, none⟩) 1 1, .slice none 0 0] 31 0 _ rfl
    have n1 := cell_new0 ((w.alloc (.cells #[.slice none 0 0, .slice none 0 0] 31)).alloc (.cells #[.int .i64 (l.length : Int)] 3)) #[.slice (some ⟨w.heap.size + 1, 0, none⟩) 1 1, .slice none 0 0] 31 1 _ rfl
    have nf := fun i => frozen_new ((w.alloc (.cells #[.slice none 0 0, .slice none 0 0] 31)).alloc (.cells #[.int .i64 (l.length : Int)] 3)) #[.slice (some ⟨w.heap.size + 1, 0, none⟩) 1 1, .slice none 0 0] 31 i
    rw [s1] at n0 n1 nf
    refine ⟨b1.trans ((one_alloc _ _).mono (by rw [s1]; omega)), by simp, ⟨g _ _ _ (by omega) (cell_new1 w _ 31 (0, 0) _ 0 _ rfl), g _ _ _ (by omega) (cell_new1 w _ 31 (0, 0) _ 1 _ rfl), gf 0, gf 1⟩, ⟨n0, n1, nf 0, nf 1⟩, ?_⟩
    exact World.ownsRow_nil _ _ _ _
  have HLEN : Hid ((((w.alloc (.cells #[.slice none 0 0, .slice none 0 0] 31)).alloc (.cells #[.int .i64 (l.length : Int)] 3)).alloc (.cells #[.slice (some ⟨w.heap.size + 1, 0, none⟩) 1 1, .slice none 0 0] 31)).cell? ⟨w.heap.size + 1, 0, none⟩ = some (.int .i64 (l.length : Int))) :=
    ((one_alloc _ (.cells #[.slice (some ⟨w.heap.size + 1, 0, none⟩) 1 1, .slice none 0 0] 31)).cell (p := ⟨w.heap.size + 1, 0, none⟩) (by rw [s1]; show w.heap.size + 1 < _; omega)).trans (cell_new2 w #[.int .i64 (l.length : Int)] 3 (0, 0) (.cells #[.slice none 0 0, .slice none 0 0] 31) 0 _ rfl)
  clear b1 s1
  go_enter Tryd.func16, Tryd.ntmps16
  go_wp2
  go_loopw [4] (fun i wr => ∃ (j : Nat) (v : Value), j ≤ l.length ∧ i = .int .i64 (j : Int) ∧ Inv w.heap.size (w.heap.size + 2) (.slice (some ⟨w.heap.size + 1, 0, none⟩) 1 1) 0 l j v w wr ∧ wr.cell? ⟨w.heap.size + 1, 0, none⟩ = some (.int .i64 (l.length : Int))) (fun i _ => l.length - (intOf i).toNat)
  case atStart => exact ⟨0, _, Nat.zero_le _, rfl, HST.out, HLEN.out⟩
  case round =>
    clear HST HLEN
    obtain ⟨j, v, hj, rfl, hinv, hlen⟩ := hrel
    have HI := hide hinv
    have HL := hide hlen
    obtain ⟨hnx, hsz, ⟨c0, c1, c2, c3⟩, ⟨d0, d1, d2, d3⟩, hown⟩ := hinv
    by_cases hlt : j < l.length
    · obtain ⟨b, off, ha, hb, hck⟩ := hrow hlt
      subst ha
      have hc1 : wr.cell? ⟨b, off + j, none⟩ = some (.int .i64 (l[j]?.getD 0)) := (hnx.cell (p := ⟨b, off + j, none⟩) hb).trans hck
      have hc2 : ∀ o, (wr.drew.alloc o).cell? ⟨w.heap.size + 2, 1, none⟩ = some v := fun o => ((one_alloc wr.drew o).cell (p := ⟨w.heap.size + 2, 1, none⟩) hsz).trans d1
      have HSTEP := hide (rowF_step 0 l j hlt)
      generalize l[j]?.getD 0 = z at *
      have HOWN := hide ((owns_drew hown).alloc (.cells #[.int .i64 0, .int .i64 z, .slice none 0 0] 72))
      have HNEWS : Hid (∀ i u, [Value.int .i64 0, .int .i64 z, .slice none 0 0][i]? = some u → (wr.drew.alloc (.cells #[.int .i64 0, .int .i64 z, .slice none 0 0] 72)).cell? ((⟨wr.heap.size, 0, none⟩ : Addr).add i) = some u) := by
        intro i u hu
        have ha : (⟨wr.heap.size, 0, none⟩ : Addr).add i = ⟨wr.drew.heap.size, i, none⟩ := by
          unfold Addr.add
          split
          · subst_vars; rfl
          · simp
        rw [ha]
        exact cell_new0 wr.drew _ 72 i u (by simpa using hu)
      have HONE : Hid (∀ u ∈ [Value.int .i64 0, .int .i64 z, .slice none 0 0], u.oneCell' = true) := by
        intro u hu
        simp at hu
        rcases hu with rfl | rfl | rfl <;> rfl
      have HMAX : Hid (j + 1 ≤ maxLen ∧ (j + 1) * 40 ≤ 140737488355328 ∧ w.heap.size + 2 + 1 ≤ (wr.drew.alloc (.cells #[.int .i64 0, .int .i64 z, .slice none 0 0] 72)).heap.size) := by
        refine ⟨by unfold maxLen; omega, by omega, ?_⟩
        have : (wr.drew.alloc (.cells #[.int .i64 0, .int .i64 z, .slice none 0 0] 72)).heap.size = wr.heap.size + 1 := by simp
        omega
      have HAL : Hid (Below (w.heap.size + 2 + 1) wr (wr.drew.alloc (.cells #[.int .i64 0, .int .i64 z, .slice none 0 0] 72))) := ((Below.refl _ _).drew).alloc (by show _ ≤ wr.heap.size; omega) _
      clear hown hck hrow hlen c0 c1 c2 c3 d0 d2 hb hnx
      go_wp2
      go_region_law (refine step_append_own rfl (.tmp 16) (.tmp 22) 29 rfl (w.heap.size + 2 + 1) 72 i0 (.agg #[.int .i64 0, .int .i64 0, .slice none 0 0]) 3 40 Tryd.underlying29 hi hz0 hz1 hz2 rfl (by decide) v j (rowF 0 l j) rfl HOWN.out ⟨wr.heap.size, 0, none⟩ 1 1 [.int .i64 0, .int .i64 z, .slice none 0 0] rfl rfl HNEWS.out HONE.out HMAX.out.1 HMAX.out.2.1 HMAX.out.2.2 ?_; intro v' w1 hown1 hb1; obtain ⟨g, cp, rfl, -⟩ := owns_form hown1 (Nat.succ_pos j); have dd1 := (HAL.out.trans hb1).cell (p := ⟨w.heap.size + 2, 1, none⟩) (Nat.lt_succ_self _) |>.trans d1; have dd3 := (HAL.out.trans hb1).frozen (p := ⟨w.heap.size + 2, 1, none⟩) (Nat.lt_succ_self _) |>.trans d3)
      all_goals
        have hown2 : w1.ownsRow (w.heap.size + 2 + 1) 72 3 (.slice (some ⟨g, 0, none⟩) (j + 1) cp) (j + 1) (rowF 0 l (j + 1)) := by rw [HSTEP.out]; exact hown1
        have HN := hide (inv_step (by omega) HI.out (HAL.out.trans hb1) hown2)
        have HN2 : Hid ((w1.setCell ⟨w.heap.size + 2, 1, none⟩ (.slice (some ⟨g, 0, none⟩) (j + 1) cp)).cell? ⟨w.heap.size + 1, 0, none⟩ = some (.int .i64 (l.length : Int))) := cell_apart (p := ⟨w.heap.size + 1, 0, none⟩) (q := ⟨w.heap.size + 2, 1, none⟩) (by show w.heap.size + 1 ≠ w.heap.size + 2; omega) _ (((HAL.out.trans hb1).cell (p := ⟨w.heap.size + 1, 0, none⟩) (by show w.heap.size + 1 < _; omega)).trans HL.out)
        clear hown1 hown2 hb1 dd1 dd3 HOWN HNEWS HONE HMAX HAL HI HL HSTEP
        go_wp2
        go_roundw
        case rel => exact ⟨j + 1, _, by omega, by go_num, HN.out, HN2.out⟩
        case measure => simp [intOf]; omega
    · have hje : j = l.length := by omega
      subst hje
      obtain ⟨a2, cp, rfl, hcs⟩ := owns_cells (n := n) (lo := w.heap.size + 2 + 1) 0 l hown (Nat.le_refl _)
      have HF : Hid (∀ x y, ArIn (n + 1) w.heap.size ((wr.setCell ⟨w.heap.size, 0, none⟩ x).setCell ⟨w.heap.size, 1, none⟩ y) (numsA l) (.agg #[.slice (some ⟨w.heap.size + 1, 0, none⟩) 1 1, .slice a2 l.length cp])) := by
        intro x y
        have hk : Keeps (w.heap.size + 1) wr ((wr.setCell ⟨w.heap.size, 0, none⟩ x).setCell ⟨w.heap.size, 1, none⟩ y) := ((Keeps.refl _ _).setCell (p := ⟨w.heap.size, 0, none⟩) (by show w.heap.size < _; omega) x).setCell (p := ⟨w.heap.size, 1, none⟩) (by show w.heap.size < _; omega) y
        refine arIn_mk (x := numsA l) ?_ (by simp [numsA, Ar.cells, numCs_len]; omega) ?_ rfl (numCs_len 0 l)
        · exact ((row_one (lo := w.heap.size + 1) (b := w.heap.size + 1) (by omega) (Nat.le_refl _) HL.out).keeps hk).low (by omega)
        · exact ((hcs.mono (lo' := w.heap.size + 1) (by omega) (Below.refl _ _)).keeps hk).mono (by omega) (Below.refl _ _)
      have HT := hide (set_two c0 c1 (.slice (some ⟨w.heap.size + 1, 0, none⟩) 1 1) (.slice a2 l.length cp))
      have HB := hide hnx
      clear hown hrow hcs HI HL hnx
      go_wp2
      exact bodyPost_ret (v := .agg #[.slice (some ⟨w.heap.size + 1, 0, none⟩) 1 1, .slice a2 l.length cp]) (by simp [results, Tryd.results16, go_sem, HT.out.1, HT.out.2]) rfl ⟨⟨_, rfl, HF.out _ _⟩, (HB.out.setCell (p := ⟨w.heap.size, 0, none⟩) (Nat.le_refl _) _).setCell (p := ⟨w.heap.size, 1, none⟩) (Nat.le_refl _) _⟩
end Go.Proofs.YtneblkdkhlgmcaaDoor
namespace Go.Proofs.YtneblkdkhlgmcaaDoor
open Go.ChangeShapes Go.WideShapes Go.ChangeAt Go.RowKit
set_option maxRecDepth 100000
set_option linter.unusedVariables false
set_option linter.unusedSimpArgs false
theorem results_cell_mid {P : Program} {fn : Func} {p : Tmp} {ty : TypeId} (h : fn.results = #[.cell p ty]) (tmps : Array Value) (w : World) (b o : Nat) (hp : tmps.getD p undef = .pointer (some ⟨b, o, none⟩)) (cs : List Value) (d : TypeDesc) (hc : w.rangeAt b o cs)
    (hu : P.underlying ty = some d) (hd : d.isRow = true) (hi : (P.info? ty).map (·.size) = some cs.length) :
    (results fn tmps).run P w = .ok (.agg cs.toArray) w := by
  have hp' : tmps[p]?.getD undef = .pointer (some ⟨b, o, none⟩) := by simpa using hp
  simp [results, h, hp', asAddr, run_loadVar_mid w b o ty cs d hc hu hd hi]
theorem old_at {w : World} {q : Nat} {o : Obj} (h : w.heap[q]? = some o) (o' : Obj) : (w.alloc o').heap[q]? = some o := (Lib.alloc_old w o' q (lt_heap h)).trans h
theorem range_of {w : World} {q : Nat} {l : List Value} {T : TypeId} {fz : Nat × Nat} (h : w.heap[q]? = some (.cells l.toArray T fz)) : w.rangeAt q 0 l := fun k v hv => by
  rw [Nat.zero_add, Lib.cell_of_heap h]
  simpa using hv
def aplS (s1 s2 s3 : Value) : Gs := ⟨s1, s2, s3, ⟨#[226, 136, 152, 46]⟩, ⟨#[226, 141, 163]⟩, ⟨#[123]⟩, ⟨#[125]⟩, ⟨#[226, 141, 186]⟩, ⟨#[226, 141, 181]⟩, ⟨#[194, 175]⟩, ⟨#[39]⟩, false, false, true⟩
theorem aplSL {w W1 W2 W3 W4 : World} {l1 l2 l3 : Array Value} (h1 : w.alloc (.cells #[.slice (some ⟨w.heap.size + 1, 0, none⟩) 31 31, .slice (some ⟨w.heap.size + 1 + 1, 0, none⟩) 5 5, .slice (some ⟨w.heap.size + 1 + 1 + 1, 0, none⟩) 2 2, .string ⟨#[226, 136, 152, 46]⟩, .string ⟨#[226, 141, 163]⟩, .string ⟨#[123]⟩, .string ⟨#[125]⟩, .string ⟨#[226, 141, 186]⟩, .string ⟨#[226, 141, 181]⟩, .string ⟨#[194, 175]⟩, .string ⟨#[39]⟩, .bool false, .bool false, .bool true] 27) = W1) (h2 : W1.alloc (.cells l1 9) = W2) (h3 : W2.alloc (.cells l2 9) = W3) (h4 : W3.alloc (.cells l3 9) = W4) : Below w.heap.size w W4 ∧ W4.rangeAt w.heap.size 0 [.slice (some ⟨w.heap.size + 1, 0, none⟩) 31 31, .slice (some ⟨w.heap.size + 1 + 1, 0, none⟩) 5 5, .slice (some ⟨w.heap.size + 1 + 1 + 1, 0, none⟩) 2 2, .string ⟨#[226, 136, 152, 46]⟩, .string ⟨#[226, 141, 163]⟩, .string ⟨#[123]⟩, .string ⟨#[125]⟩, .string ⟨#[226, 141, 186]⟩, .string ⟨#[226, 141, 181]⟩, .string ⟨#[194, 175]⟩, .string ⟨#[39]⟩, .bool false, .bool false, .bool true] := by
  have b1 : Below w.heap.size w W1 := by rw [← h1]; exact alloc_one _ _
  have q1 : W1.heap[w.heap.size]? = some (.cells ([.slice (some ⟨w.heap.size + 1, 0, none⟩) 31 31, .slice (some ⟨w.heap.size + 1 + 1, 0, none⟩) 5 5, .slice (some ⟨w.heap.size + 1 + 1 + 1, 0, none⟩) 2 2, .string ⟨#[226, 136, 152, 46]⟩, .string ⟨#[226, 141, 163]⟩, .string ⟨#[123]⟩, .string ⟨#[125]⟩, .string ⟨#[226, 141, 186]⟩, .string ⟨#[226, 141, 181]⟩, .string ⟨#[194, 175]⟩, .string ⟨#[39]⟩, .bool false, .bool false, .bool true] : List Value).toArray 27 (0, 0)) := by rw [← h1]; exact heap_alloc_new w _
  have b2 : Below w.heap.size w W2 := by rw [← h2]; exact b1.trans ((alloc_one _ _).mono b1.size)
  have q2 := old_at q1 (.cells l1 9)
  rw [h2] at q2
  have b3 : Below w.heap.size w W3 := by rw [← h3]; exact b2.trans ((alloc_one _ _).mono b2.size)
  have q3 := old_at q2 (.cells l2 9)
  rw [h3] at q3
  have b4 : Below w.heap.size w W4 := by rw [← h4]; exact b3.trans ((alloc_one _ _).mono b3.size)
  have q4 := old_at q3 (.cells l3 9)
  rw [h4] at q4
  exact ⟨b4, range_of q4⟩
set_option maxHeartbeats 4000000 in
theorem aplS17 {w : World} : Calls Tryd.prog 17 #[] w fun e w' => ∃ a1 c1 d1 a2 c2 d2 a3 c3 d3, e = .returned (gV (aplS (.slice a1 c1 d1) (.slice a2 c2 d2) (.slice a3 c3 d3))) ∧ Below w.heap.size w w' := by
  go_enter Tryd.func17, Tryd.ntmps17
  go_wp2
  obtain ⟨k1, kr⟩ := aplSL (w := w) rfl rfl rfl rfl
  refine bodyPost_ret (v := .agg #[.slice (some ⟨w.heap.size + 1, 0, none⟩) 31 31, .slice (some ⟨w.heap.size + 1 + 1, 0, none⟩) 5 5, .slice (some ⟨w.heap.size + 1 + 1 + 1, 0, none⟩) 2 2, .string ⟨#[226, 136, 152, 46]⟩, .string ⟨#[226, 141, 163]⟩, .string ⟨#[123]⟩, .string ⟨#[125]⟩, .string ⟨#[226, 141, 186]⟩, .string ⟨#[226, 141, 181]⟩, .string ⟨#[194, 175]⟩, .string ⟨#[39]⟩, .bool false, .bool false, .bool true]) (results_cell_mid rfl _ _ w.heap.size 0 rfl [.slice (some ⟨w.heap.size + 1, 0, none⟩) 31 31, .slice (some ⟨w.heap.size + 1 + 1, 0, none⟩) 5 5, .slice (some ⟨w.heap.size + 1 + 1 + 1, 0, none⟩) 2 2, .string ⟨#[226, 136, 152, 46]⟩, .string ⟨#[226, 141, 163]⟩, .string ⟨#[123]⟩, .string ⟨#[125]⟩, .string ⟨#[226, 141, 186]⟩, .string ⟨#[226, 141, 181]⟩, .string ⟨#[194, 175]⟩, .string ⟨#[39]⟩, .bool false, .bool false, .bool true] _ kr Tryd.underlying27 rfl (by kernel_rfl)) rfl ?_
  exact ⟨_, _, _, _, _, _, _, _, _, rfl, k1⟩
def jS (s1 s2 s3 : Value) : Gs := ⟨s1, s2, s3, ⟨#[]⟩, ⟨#[94, 58]⟩, ⟨#[123, 123]⟩, ⟨#[125, 125]⟩, ⟨#[120]⟩, ⟨#[121]⟩, ⟨#[95]⟩, ⟨#[39]⟩, true, false, false⟩
theorem jSL {w W1 W2 W3 : World} {l1 l2 : Array Value} (h1 : w.alloc (.cells #[.slice (some ⟨w.heap.size + 1, 0, none⟩) 28 28, .slice (some ⟨w.heap.size + 1 + 1, 0, none⟩) 4 4, .slice none 0 0, .string ⟨#[]⟩, .string ⟨#[94, 58]⟩, .string ⟨#[123, 123]⟩, .string ⟨#[125, 125]⟩, .string ⟨#[120]⟩, .string ⟨#[121]⟩, .string ⟨#[95]⟩, .string ⟨#[39]⟩, .bool true, .bool false, .bool false] 27) = W1) (h2 : W1.alloc (.cells l1 9) = W2) (h3 : W2.alloc (.cells l2 9) = W3) : Below w.heap.size w W3 ∧ W3.rangeAt w.heap.size 0 [.slice (some ⟨w.heap.size + 1, 0, none⟩) 28 28, .slice (some ⟨w.heap.size + 1 + 1, 0, none⟩) 4 4, .slice none 0 0, .string ⟨#[]⟩, .string ⟨#[94, 58]⟩, .string ⟨#[123, 123]⟩, .string ⟨#[125, 125]⟩, .string ⟨#[120]⟩, .string ⟨#[121]⟩, .string ⟨#[95]⟩, .string ⟨#[39]⟩, .bool true, .bool false, .bool false] := by
  have b1 : Below w.heap.size w W1 := by rw [← h1]; exact alloc_one _ _
  have q1 : W1.heap[w.heap.size]? = some (.cells ([.slice (some ⟨w.heap.size + 1, 0, none⟩) 28 28, .slice (some ⟨w.heap.size + 1 + 1, 0, none⟩) 4 4, .slice none 0 0, .string ⟨#[]⟩, .string ⟨#[94, 58]⟩, .string ⟨#[123, 123]⟩, .string ⟨#[125, 125]⟩, .string ⟨#[120]⟩, .string ⟨#[121]⟩, .string ⟨#[95]⟩, .string ⟨#[39]⟩, .bool true, .bool false, .bool false] : List Value).toArray 27 (0, 0)) := by rw [← h1]; exact heap_alloc_new w _
  have b2 : Below w.heap.size w W2 := by rw [← h2]; exact b1.trans ((alloc_one _ _).mono b1.size)
  have q2 := old_at q1 (.cells l1 9)
  rw [h2] at q2
  have b3 : Below w.heap.size w W3 := by rw [← h3]; exact b2.trans ((alloc_one _ _).mono b2.size)
  have q3 := old_at q2 (.cells l2 9)
  rw [h3] at q3
  exact ⟨b3, range_of q3⟩
set_option maxHeartbeats 4000000 in
theorem jS18 {w : World} : Calls Tryd.prog 18 #[] w fun e w' => ∃ a1 c1 d1 a2 c2 d2 a3 c3 d3, e = .returned (gV (jS (.slice a1 c1 d1) (.slice a2 c2 d2) (.slice a3 c3 d3))) ∧ Below w.heap.size w w' := by
  go_enter Tryd.func18, Tryd.ntmps18
  go_wp2
  obtain ⟨k1, kr⟩ := jSL (w := w) rfl rfl rfl
  refine bodyPost_ret (v := .agg #[.slice (some ⟨w.heap.size + 1, 0, none⟩) 28 28, .slice (some ⟨w.heap.size + 1 + 1, 0, none⟩) 4 4, .slice none 0 0, .string ⟨#[]⟩, .string ⟨#[94, 58]⟩, .string ⟨#[123, 123]⟩, .string ⟨#[125, 125]⟩, .string ⟨#[120]⟩, .string ⟨#[121]⟩, .string ⟨#[95]⟩, .string ⟨#[39]⟩, .bool true, .bool false, .bool false]) (results_cell_mid rfl _ _ w.heap.size 0 rfl [.slice (some ⟨w.heap.size + 1, 0, none⟩) 28 28, .slice (some ⟨w.heap.size + 1 + 1, 0, none⟩) 4 4, .slice none 0 0, .string ⟨#[]⟩, .string ⟨#[94, 58]⟩, .string ⟨#[123, 123]⟩, .string ⟨#[125, 125]⟩, .string ⟨#[120]⟩, .string ⟨#[121]⟩, .string ⟨#[95]⟩, .string ⟨#[39]⟩, .bool true, .bool false, .bool false] _ kr Tryd.underlying27 rfl (by kernel_rfl)) rfl ?_
  exact ⟨_, _, _, _, _, _, _, _, _, rfl, k1⟩
def kS (s1 s2 s3 : Value) : Gs := ⟨s1, s2, s3, ⟨#[]⟩, ⟨#[]⟩, ⟨#[123]⟩, ⟨#[125]⟩, ⟨#[120]⟩, ⟨#[121]⟩, ⟨#[45]⟩, ⟨#[34]⟩, false, true, true⟩
theorem kSL {w W1 W2 W3 : World} {l1 l2 : Array Value} (h1 : w.alloc (.cells #[.slice (some ⟨w.heap.size + 1, 0, none⟩) 17 17, .slice (some ⟨w.heap.size + 1 + 1, 0, none⟩) 2 2, .slice none 0 0, .string ⟨#[]⟩, .string ⟨#[]⟩, .string ⟨#[123]⟩, .string ⟨#[125]⟩, .string ⟨#[120]⟩, .string ⟨#[121]⟩, .string ⟨#[45]⟩, .string ⟨#[34]⟩, .bool false, .bool true, .bool true] 27) = W1) (h2 : W1.alloc (.cells l1 9) = W2) (h3 : W2.alloc (.cells l2 9) = W3) : Below w.heap.size w W3 ∧ W3.rangeAt w.heap.size 0 [.slice (some ⟨w.heap.size + 1, 0, none⟩) 17 17, .slice (some ⟨w.heap.size + 1 + 1, 0, none⟩) 2 2, .slice none 0 0, .string ⟨#[]⟩, .string ⟨#[]⟩, .string ⟨#[123]⟩, .string ⟨#[125]⟩, .string ⟨#[120]⟩, .string ⟨#[121]⟩, .string ⟨#[45]⟩, .string ⟨#[34]⟩, .bool false, .bool true, .bool true] := by
  have b1 : Below w.heap.size w W1 := by rw [← h1]; exact alloc_one _ _
  have q1 : W1.heap[w.heap.size]? = some (.cells ([.slice (some ⟨w.heap.size + 1, 0, none⟩) 17 17, .slice (some ⟨w.heap.size + 1 + 1, 0, none⟩) 2 2, .slice none 0 0, .string ⟨#[]⟩, .string ⟨#[]⟩, .string ⟨#[123]⟩, .string ⟨#[125]⟩, .string ⟨#[120]⟩, .string ⟨#[121]⟩, .string ⟨#[45]⟩, .string ⟨#[34]⟩, .bool false, .bool true, .bool true] : List Value).toArray 27 (0, 0)) := by rw [← h1]; exact heap_alloc_new w _
  have b2 : Below w.heap.size w W2 := by rw [← h2]; exact b1.trans ((alloc_one _ _).mono b1.size)
  have q2 := old_at q1 (.cells l1 9)
  rw [h2] at q2
  have b3 : Below w.heap.size w W3 := by rw [← h3]; exact b2.trans ((alloc_one _ _).mono b2.size)
  have q3 := old_at q2 (.cells l2 9)
  rw [h3] at q3
  exact ⟨b3, range_of q3⟩
set_option maxHeartbeats 4000000 in
theorem kS21 {w : World} : Calls Tryd.prog 21 #[] w fun e w' => ∃ a1 c1 d1 a2 c2 d2 a3 c3 d3, e = .returned (gV (kS (.slice a1 c1 d1) (.slice a2 c2 d2) (.slice a3 c3 d3))) ∧ Below w.heap.size w w' := by
  go_enter Tryd.func21, Tryd.ntmps21
  go_wp2
  obtain ⟨k1, kr⟩ := kSL (w := w) rfl rfl rfl
  refine bodyPost_ret (v := .agg #[.slice (some ⟨w.heap.size + 1, 0, none⟩) 17 17, .slice (some ⟨w.heap.size + 1 + 1, 0, none⟩) 2 2, .slice none 0 0, .string ⟨#[]⟩, .string ⟨#[]⟩, .string ⟨#[123]⟩, .string ⟨#[125]⟩, .string ⟨#[120]⟩, .string ⟨#[121]⟩, .string ⟨#[45]⟩, .string ⟨#[34]⟩, .bool false, .bool true, .bool true]) (results_cell_mid rfl _ _ w.heap.size 0 rfl [.slice (some ⟨w.heap.size + 1, 0, none⟩) 17 17, .slice (some ⟨w.heap.size + 1 + 1, 0, none⟩) 2 2, .slice none 0 0, .string ⟨#[]⟩, .string ⟨#[]⟩, .string ⟨#[123]⟩, .string ⟨#[125]⟩, .string ⟨#[120]⟩, .string ⟨#[121]⟩, .string ⟨#[45]⟩, .string ⟨#[34]⟩, .bool false, .bool true, .bool true] _ kr Tryd.underlying27 rfl (by kernel_rfl)) rfl ?_
  exact ⟨_, _, _, _, _, _, _, _, _, rfl, k1⟩
end Go.Proofs.YtneblkdkhlgmcaaDoor
