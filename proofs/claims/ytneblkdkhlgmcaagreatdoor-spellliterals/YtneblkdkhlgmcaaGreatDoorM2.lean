/-
  The writer of functions: outer, lambda, train, and function of a depth more.
  The writer of a function, of a depth more.
  Literal of layer 16: an array as a text, or that it can't be written; for all arrays.
  The writer of operands and expressions, of a depth more; of all depths.
  Whether a program can be written: the checker's functions and its walk; for all programs.
  Names: whether a text may be one, by both; for all texts.
-/
import Derived.Test.YtneblkdkhlgmcaaGreatDoorM1
import Derived.Shelf.Strconv.Itoa4
import Derived.Test.YtneblkdkhlgmcaaGreatDoorProg
import Derived.WalkKit
import Derived.Test.YtneblkdkhlgmcaaGreatDoorChecked
import GoSem.Claim
import GoSem.ClaimJoined
import GoSem.ClaimMapViews
import Derived.JoinedTies
import Derived.KernelRfl
import Derived.ProofKit
import Derived.Below
import Derived.Deep.OwnRows
import Derived.Deep.QuietTactic
import Derived.BigQuiet
import Derived.Deep.RegionWith
import Derived.Lib.AppendIntMem
import Derived.Lib.ConvBytes
import Derived.Lib.Builder
import Derived.Lib.AppendStr
import Derived.Lib.UnsafeStr
import Derived.Deep.LoopGhost
import Derived.Deep.RegionHeld3
import Derived.Lib.MakeNoZero
import Derived.Laws.MakeOwn
import Derived.Laws.BitsAllLaws
import Derived.Lib.Bits
import Derived.Deep.Cut
import Derived.Deep.MidRow
import Derived.Deep.RegionLaw
import GoSem.ClaimSeven
import Derived.LaidByTextLater
import Derived.SevenTiedAt
import Derived.LaidSub
import Derived.LaidOnce
import Derived.Deep.DeepHandedRow
import Derived.Lib.LaidTab
import Derived.OpenShut
import Derived.Lay
import Derived.ChangeOld
import Derived.SizedLaws
import Derived.Deep.Slices
import Derived.Deep.Strs
namespace Go.Proofs.YtneblkdkhlgmcaaGreatDoor
open Go.ChangeShapes Go.WideShapes Go.ChangeAt Go.RowKit
set_option maxRecDepth 100000
set_option linter.unusedVariables false
set_option linter.unusedSimpArgs false
def outT (G : Gs) (t : Tx) (x : Nd) : List UInt8 := bL G.outer ++ ([32] ++ (if x.kind = 24 ∨ x.kind = 25 ∨ x.kind = 26 then rdT (t.F x) else t.F x))
set_option maxHeartbeats 4000000 in
theorem outer77 {n m : Nat} {w0 : World} {B p : Nat} {G : Gs} (IF : CF n m w0 B p G) (rt : ByteArray) (bg : Bool) (out : List UInt8) (w : World) (x : Nd) (v : Value) (hx : NdIn m n 0 w0 x v) (hk : okN m true x) (hs : sndA x) (h : St w0 B w p G rt bg out) (hl : out.length + 1 + (outT G (TX G m) x).length ≤ 140737488355328) :
    Calls Tryz.prog 123 #[.pointer (some ⟨p, 0, none⟩), v] w (GvT B p G rt true (out ++ (sep bg ++ outT G (TX G m) x)) w) := by
  obtain ⟨v1, v2, v3, rfl, hv1⟩ := nd_form hx
  have HF := hide (fun bg out w (hst : St w0 B w p G rt bg out) hl => IF rt bg out w x _ hx hk hs hst hl)
  have hse := sep_le bg
  unfold outT at hl ⊢
  obtain ⟨FT, hFT⟩ : ∃ FT, (TX G m).F x = FT := ⟨_, rfl⟩
  rw [hFT] at HF hl ⊢
  generalize x.kind = k at *
  generalize x.op = o at *
  generalize x.name = nm at *
  generalize x.pos = ps at *
  have hob : (bL G.outer).length = G.outer.size := by simp [bL]
  clear hFT hx hk hs IF
  obtain ⟨W1, hW1⟩ : ∃ W1, w.alloc (.cells (sv (k) (o) nm (v1) (v2) (v3) (ps)) 42) = W1 := ⟨_, rfl⟩
  have hb1 : Below w.heap.size w W1 := by rw [← hW1]; exact alloc_one _ _
  have s1 : W1.heap.size = w.heap.size + 1 := by rw [← hW1]; simp
  have hbx : W1.heap[w.heap.size]? = some (.cells (sv (k) (o) nm (v1) (v2) (v3) (ps)) 42 (0, 0)) := by rw [← hW1]; exact heap_alloc_new w _
  have hql : w.heap.size ≠ p := Nat.ne_of_gt h.lt
  have H1 := hide (h.next hb1)
  have HK1 := hide (h.wkn hb1)
  have HB1 := hide hbx
  have k0 : W1.cell? ⟨w.heap.size, 0, none⟩ = some (.int .i64 k) := (Lib.cell_of_heap hbx 0).trans rfl
  have k1 : W1.cell? ⟨w.heap.size, 1, none⟩ = some (.int .i64 o) := (Lib.cell_of_heap hbx 1).trans rfl
  have k2 : W1.cell? ⟨w.heap.size, 2, none⟩ = some (.string nm) := (Lib.cell_of_heap hbx 2).trans rfl
  have k3 : W1.cell? ⟨w.heap.size, 3, none⟩ = some (v1) := (Lib.cell_of_heap hbx 3).trans rfl
  have k4 : W1.cell? ⟨w.heap.size, 4, none⟩ = some (v2) := (Lib.cell_of_heap hbx 4).trans rfl
  have k5 : W1.cell? ⟨w.heap.size, 5, none⟩ = some (v3) := (Lib.cell_of_heap hbx 5).trans rfl
  have k6 : W1.cell? ⟨w.heap.size, 6, none⟩ = some (.int .i64 ps) := (Lib.cell_of_heap hbx 6).trans rfl
  clear hb1 hbx
  obtain ⟨aw, vw, hw⟩ := H1.out.wr
  have c3 : W1.cell? ⟨p, 3, none⟩ = some (.string G.outer) := hw.all.1.1
  have HP := hide (H1.out.put G.outer (by simp only [List.length_append] at hl; omega))
  rw [s1] at HP
  clear hw h
  by_cases hc : k = 24 ∨ k = 25 ∨ k = 26
  · rw [if_pos hc] at hl ⊢
    have hlr : (rdT FT).length = FT.length + 4 := by simp [rdT]
    simp only [List.length_append, List.length_cons, List.length_nil] at hl
    go_enter Tryz.func123, Tryz.ntmps123
    go_wp2_with fail
    refine HP.out.mono ?_
    rintro e w2 g2
    have H2 := hide (H1.out.got g2)
    have HK2 := hide (HK1.out.trans g2.2.2)
    have hb2 := g2.2.2.box HB1.out hql (by decide)
    have HB2 := hide hb2
    obtain rfl := g2.1
    clear g2 k0 k1 k2 k3 k4 k5 k6 c3 HP
    have k0 : w2.cell? ⟨w.heap.size, 0, none⟩ = some (.int .i64 k) := (Lib.cell_of_heap hb2 0).trans rfl
    have k1 : w2.cell? ⟨w.heap.size, 1, none⟩ = some (.int .i64 o) := (Lib.cell_of_heap hb2 1).trans rfl
    have k2 : w2.cell? ⟨w.heap.size, 2, none⟩ = some (.string nm) := (Lib.cell_of_heap hb2 2).trans rfl
    have k3 : w2.cell? ⟨w.heap.size, 3, none⟩ = some (v1) := (Lib.cell_of_heap hb2 3).trans rfl
    have k4 : w2.cell? ⟨w.heap.size, 4, none⟩ = some (v2) := (Lib.cell_of_heap hb2 4).trans rfl
    have k5 : w2.cell? ⟨w.heap.size, 5, none⟩ = some (v3) := (Lib.cell_of_heap hb2 5).trans rfl
    have k6 : w2.cell? ⟨w.heap.size, 6, none⟩ = some (.int .i64 ps) := (Lib.cell_of_heap hb2 6).trans rfl
    clear hb2
    have HC := hide (brack63_61 H2.out FT k o nm v1 v2 v3 hv1 ps (by simp only [List.length_append, hob, hlr, sep_true, List.length_cons, List.length_nil]; omega) (fun w1 out1 hst hb => HF.out true out1 w1 hst hb))
    rcases hc with rfl | rfl | rfl
    · go_wp2_with fail
      refine HC.out.mono ?_
      rintro e w9 ⟨rfl, hx9, hk9⟩
      have HF9 := hide (And.intro hx9 (HK2.out.trans hk9))
      clear hx9 hk9 HC 
      go_wp2
      go_end0
      refine ⟨rfl, ?_, HF9.out.2⟩
      have hx := HF9.out.1
      simpa [sep, rdT, bL, str, List.append_assoc] using hx
    · go_wp2_with fail
      refine HC.out.mono ?_
      rintro e w9 ⟨rfl, hx9, hk9⟩
      have HF9 := hide (And.intro hx9 (HK2.out.trans hk9))
      clear hx9 hk9 HC 
      go_wp2
      go_end0
      refine ⟨rfl, ?_, HF9.out.2⟩
      have hx := HF9.out.1
      simpa [sep, rdT, bL, str, List.append_assoc] using hx
    · go_wp2_with fail
      refine HC.out.mono ?_
      rintro e w9 ⟨rfl, hx9, hk9⟩
      have HF9 := hide (And.intro hx9 (HK2.out.trans hk9))
      clear hx9 hk9 HC 
      go_wp2
      go_end0
      refine ⟨rfl, ?_, HF9.out.2⟩
      have hx := HF9.out.1
      simpa [sep, rdT, bL, str, List.append_assoc] using hx
  · rw [if_neg hc] at hl ⊢
    simp only [List.length_append, List.length_cons, List.length_nil] at hl
    have n1 : (k == 24) = false := beq_eq_false_iff_ne.2 (fun h => hc (Or.inl h))
    have n2 : (k == 25) = false := beq_eq_false_iff_ne.2 (fun h => hc (Or.inr (Or.inl h)))
    have n3 : (k == 26) = false := beq_eq_false_iff_ne.2 (fun h => hc (Or.inr (Or.inr h)))
    go_enter Tryz.func123, Tryz.ntmps123
    go_wp2_with fail
    refine HP.out.mono ?_
    rintro e w2 g2
    have H2 := hide (H1.out.got g2)
    have HK2 := hide (HK1.out.trans g2.2.2)
    have hb2 := g2.2.2.box HB1.out hql (by decide)
    have HB2 := hide hb2
    obtain rfl := g2.1
    clear g2 k0 k1 k2 k3 k4 k5 k6 c3 HP
    have k0 : w2.cell? ⟨w.heap.size, 0, none⟩ = some (.int .i64 k) := (Lib.cell_of_heap hb2 0).trans rfl
    have k1 : w2.cell? ⟨w.heap.size, 1, none⟩ = some (.int .i64 o) := (Lib.cell_of_heap hb2 1).trans rfl
    have k2 : w2.cell? ⟨w.heap.size, 2, none⟩ = some (.string nm) := (Lib.cell_of_heap hb2 2).trans rfl
    have k3 : w2.cell? ⟨w.heap.size, 3, none⟩ = some (v1) := (Lib.cell_of_heap hb2 3).trans rfl
    have k4 : w2.cell? ⟨w.heap.size, 4, none⟩ = some (v2) := (Lib.cell_of_heap hb2 4).trans rfl
    have k5 : w2.cell? ⟨w.heap.size, 5, none⟩ = some (v3) := (Lib.cell_of_heap hb2 5).trans rfl
    have k6 : w2.cell? ⟨w.heap.size, 6, none⟩ = some (.int .i64 ps) := (Lib.cell_of_heap hb2 6).trans rfl
    clear hb2
    have HC := hide (HF.out true _ w2 H2.out (by simp only [List.length_append, hob]; omega))
    go_wp2_with fail
    refine HC.out.mono ?_
    rintro e w9 ⟨rfl, hx9, hk9⟩
    have HF9 := hide (And.intro hx9 (HK2.out.trans hk9))
    clear hx9 hk9 HC 
    go_wp2
    go_end0
    refine ⟨rfl, ?_, HF9.out.2⟩
    have hx := HF9.out.1
    simpa [sep, rdT, bL, str, List.append_assoc] using hx
/-- Another name for the right argument. -/
theorem St.setRt {w0 : World} {B : Nat} {w : World} {p : Nat} {G : Gs} {rt : ByteArray} {bg : Bool} {out : List UInt8} (h : St w0 B w p G rt bg out) (r : ByteArray) : St w0 B (w.setCell ⟨p, 14, none⟩ (.string r)) p G r bg out ∧ Wk B p w (w.setCell ⟨p, 14, none⟩ (.string r)) := by
  obtain ⟨a, v, hw⟩ := h.wr
  have hk := Wr.wk_set (w := w) hw.hB 14 (.string r)
  exact ⟨⟨h.am, h.old.trans (hk.bel.mono h.am.hB), a, v, ⟨hw.hB, hw.ha, by rw [heap_set hw.blk]; rfl, hw.own_set 14 _⟩⟩, hk⟩
def lamR (G : Gs) (k : Int) : ByteArray := if k = 22 ∧ G.lone = true then G.left else G.right
def lamT (G : Gs) (t : Tx) (x : Nd) : List UInt8 := bL G.opn ++ ([32] ++ t.E (lamR G x.kind) (kp x 0)) ++ ([32] ++ bL G.cls)
set_option maxHeartbeats 4000000 in
theorem lambda76 {n m : Nat} {w0 : World} {B p : Nat} {G : Gs} (IE : CE n m w0 B p G) (rt : ByteArray) (bg : Bool) (out : List UInt8) (w : World) (x : Nd) (v : Value) (hx : NdIn (m + 1) n 0 w0 x v) (hk : okN (m + 1) true x) (hkk : x.kind = 22 ∨ x.kind = 23) (hs : sndA x) (h : St w0 B w p G rt bg out) (hl : out.length + 1 + (lamT G (TX G m) x).length ≤ 140737488355328) :
    Calls Tryz.prog 122 #[.pointer (some ⟨p, 0, none⟩), v] w (GvT B p G rt true (out ++ (sep bg ++ lamT G (TX G m) x)) w) := by
  obtain ⟨v1, v2, ak, ck, rfl, hv1, -, hkid⟩ := nd_kids hx
  have hse := sep_le bg
  have hkl : x.kids.length = 1 := by have := hk.1; rcases hkk with h | h <;> (rw [h] at this; unfold arK at this; simp at this; omega)
  obtain ⟨b, off, u1, u2, u3, rfl, hnk, h7⟩ := hkid 0 (by omega)
  have hok := hk.2.2.2 0 (by omega)
  have hfp : fnP x.kind 0 = false := by rcases hkk with h | h <;> (rw [h]; rfl)
  rw [hfp] at hok
  have hsk := hs.kid (i := 0) (by omega)
  have H7 : Hid (∀ W, Below w0.heap.size w0 W → Sv7 W b off (kp x 0).kind (kp x 0).op (kp x 0).name u1 u2 u3 (kp x 0).pos) := hide (by simpa only [Nat.zero_mul, Nat.add_zero] using h7)
  have HE := hide (fun out w (hst : St w0 B w p G (lamR G x.kind) true out) hl => IE (lamR G x.kind) true out w (kp x 0) _ hnk hok hsk hst hl)
  unfold lamT at hl ⊢
  obtain ⟨ET, hET⟩ : ∃ ET, (TX G m).E (lamR G x.kind) (kp x 0) = ET := ⟨_, rfl⟩
  rw [hET] at HE hl ⊢
  rw [hkl]
  simp only [List.length_append, List.length_cons, List.length_nil] at hl
  have hob : (bL G.opn).length = G.opn.size := by simp [bL]
  have hcb : (bL G.cls).length = G.cls.size := by simp [bL]
  have HRR : Hid ((x.kind = 22 ∧ G.lone = true → lamR G x.kind = G.left) ∧ (¬ (x.kind = 22 ∧ G.lone = true) → lamR G x.kind = G.right)) := hide ⟨fun h => if_pos h, fun h => if_neg h⟩
  obtain ⟨R, hR⟩ : ∃ R, lamR G x.kind = R := ⟨_, rfl⟩
  rw [hR] at HE HRR
  generalize (kp x 0).kind = k' at *
  generalize (kp x 0).op = o' at *
  generalize (kp x 0).name = nm' at *
  generalize (kp x 0).pos = ps' at *
  generalize x.kind = k at *
  generalize x.op = o at *
  generalize x.name = nm at *
  generalize x.pos = ps at *
  clear hET hx hk hs IE hnk h7 hok hsk hfp hkl hkid hR
  obtain ⟨W1, hW1⟩ : ∃ W1, w.alloc (.cells (sv (k) (o) nm (v1) (v2) (.slice (some ⟨b, off, none⟩) 1 ck) (ps)) 42) = W1 := ⟨_, rfl⟩
  have hb1 : Below w.heap.size w W1 := by rw [← hW1]; exact alloc_one _ _
  have s1 : W1.heap.size = w.heap.size + 1 := by rw [← hW1]; simp
  have hbx : W1.heap[w.heap.size]? = some (.cells (sv (k) (o) nm (v1) (v2) (.slice (some ⟨b, off, none⟩) 1 ck) (ps)) 42 (0, 0)) := by rw [← hW1]; exact heap_alloc_new w _
  have hql : w.heap.size ≠ p := Nat.ne_of_gt h.lt
  have H1 := hide (h.next hb1)
  have HK1 := hide (h.wkn hb1)
  have HB1 := hide hbx
  have k0 : W1.cell? ⟨w.heap.size, 0, none⟩ = some (.int .i64 k) := (Lib.cell_of_heap hbx 0).trans rfl
  have k1 : W1.cell? ⟨w.heap.size, 1, none⟩ = some (.int .i64 o) := (Lib.cell_of_heap hbx 1).trans rfl
  have k2 : W1.cell? ⟨w.heap.size, 2, none⟩ = some (.string nm) := (Lib.cell_of_heap hbx 2).trans rfl
  have k3 : W1.cell? ⟨w.heap.size, 3, none⟩ = some (v1) := (Lib.cell_of_heap hbx 3).trans rfl
  have k4 : W1.cell? ⟨w.heap.size, 4, none⟩ = some (v2) := (Lib.cell_of_heap hbx 4).trans rfl
  have k5 : W1.cell? ⟨w.heap.size, 5, none⟩ = some (.slice (some ⟨b, off, none⟩) 1 ck) := (Lib.cell_of_heap hbx 5).trans rfl
  have k6 : W1.cell? ⟨w.heap.size, 6, none⟩ = some (.int .i64 ps) := (Lib.cell_of_heap hbx 6).trans rfl
  clear hb1 hbx
  obtain ⟨aw, vw, hw⟩ := H1.out.wr
  obtain ⟨⟨-, -, c5, c6, c7, c8⟩, ⟨-, -, c12, c14⟩, -⟩ := hw.all
  have f14 := hw.frozen 14
  obtain ⟨LO, hLO⟩ : ∃ LO, G.lone = LO := ⟨_, rfl⟩
  rw [hLO] at c12 HRR
  have H2 := hide (H1.out.setRt G.right)
  have hpl := H1.out.lt
  clear hw h hLO
  go_enter Tryz.func122, Tryz.ntmps122
  go_upto_region 3 with fail
  obtain ⟨W2, hW2⟩ : ∃ W2, W1.setCell ⟨p, 14, none⟩ (.string G.right) = W2 := ⟨_, rfl⟩
  rw [hW2] at H2
  try rw [hW2]
  have HK2 := hide (HK1.out.trans H2.out.2)
  have hb2 := H2.out.2.box HB1.out hql (by decide)
  have HB2 := hide hb2
  have H2 := hide H2.out.1
  obtain ⟨aw2, vw2, hw2⟩ := H2.out.wr
  have q7 : W2.cell? ⟨p, 7, none⟩ = some (.string G.left) := hw2.all.1.2.2.2.2.1
  have q12 : W2.cell? ⟨p, 12, none⟩ = some (.bool G.lone) := hw2.all.2.1.2.2.1
  have q14 : W2.cell? ⟨p, 14, none⟩ = some (.string G.right) := hw2.all.2.1.2.2.2
  have f14' := hw2.frozen 14
  have hp2 := H2.out.lt
  have hLO : G.lone = LO := by
    have := hw2.all.2.1.2.2.1
    have e1 := H1.out.wr
    obtain ⟨x1, x2, x3⟩ := e1
    have e2 := x3.all.2.1.2.2.1
    rw [c12] at e2
    cases e2
    rfl
  rw [hLO] at q12
  clear hw2 hW2 c5 c6 c7 c8 c12 c14 f14 hpl hLO k0 k1 k2 k3 k4 k5 k6
  have k0 : W2.cell? ⟨w.heap.size, 0, none⟩ = some (.int .i64 k) := (Lib.cell_of_heap hb2 0).trans rfl
  have k1 : W2.cell? ⟨w.heap.size, 1, none⟩ = some (.int .i64 o) := (Lib.cell_of_heap hb2 1).trans rfl
  have k2 : W2.cell? ⟨w.heap.size, 2, none⟩ = some (.string nm) := (Lib.cell_of_heap hb2 2).trans rfl
  have k3 : W2.cell? ⟨w.heap.size, 3, none⟩ = some (v1) := (Lib.cell_of_heap hb2 3).trans rfl
  have k4 : W2.cell? ⟨w.heap.size, 4, none⟩ = some (v2) := (Lib.cell_of_heap hb2 4).trans rfl
  have k5 : W2.cell? ⟨w.heap.size, 5, none⟩ = some (.slice (some ⟨b, off, none⟩) 1 ck) := (Lib.cell_of_heap hb2 5).trans rfl
  have k6 : W2.cell? ⟨w.heap.size, 6, none⟩ = some (.int .i64 ps) := (Lib.cell_of_heap hb2 6).trans rfl
  clear hb2
  by_cases hc : k = 22 ∧ LO = true
  · obtain ⟨rfl, rfl⟩ := hc
    obtain rfl := HRR.out.1 ⟨rfl, rfl⟩
    have H3 := hide (H2.out.setRt G.left)
    go_upto_region 5 with fail
    obtain ⟨W3, hW3⟩ : ∃ W3, W2.setCell ⟨p, 14, none⟩ (.string G.left) = W3 := ⟨_, rfl⟩
    rw [hW3] at H3
    try rw [hW3]
    have HK3 := hide (HK2.out.trans H3.out.2)
    have hb3 := H3.out.2.box HB2.out hql (by decide)
    have HB3 := hide hb3
    have H3 := hide H3.out.1
    clear q7 q12 q14 f14' hp2 hb3 hW3 H1 HK1 HB1 HRR k0 k1 k2 k3 k4 k5 k6
    obtain ⟨awj, vwj, hwj⟩ := H3.out.wr
    have d5 : W3.cell? ⟨p, 5, none⟩ = some (.string G.opn) := hwj.all.1.2.2.1
    have HP := hide (H3.out.put G.opn (by omega))
    clear hwj H2 HK2 HB2
    go_wp2_with fail
    refine HP.out.mono ?_
    rintro e w4 g4
    have H4 := hide (H3.out.got g4)
    have HK4 := hide (HK3.out.trans g4.2.2)
    have hb4 := g4.2.2.box HB3.out hql (by decide)
    have HB4 := hide hb4
    obtain rfl := g4.1
    clear g4 HP d5
    have k0 : w4.cell? ⟨w.heap.size, 0, none⟩ = some (.int .i64 22) := (Lib.cell_of_heap hb4 0).trans rfl
    have k1 : w4.cell? ⟨w.heap.size, 1, none⟩ = some (.int .i64 o) := (Lib.cell_of_heap hb4 1).trans rfl
    have k2 : w4.cell? ⟨w.heap.size, 2, none⟩ = some (.string nm) := (Lib.cell_of_heap hb4 2).trans rfl
    have k3 : w4.cell? ⟨w.heap.size, 3, none⟩ = some (v1) := (Lib.cell_of_heap hb4 3).trans rfl
    have k4 : w4.cell? ⟨w.heap.size, 4, none⟩ = some (v2) := (Lib.cell_of_heap hb4 4).trans rfl
    have k5 : w4.cell? ⟨w.heap.size, 5, none⟩ = some (.slice (some ⟨b, off, none⟩) 1 ck) := (Lib.cell_of_heap hb4 5).trans rfl
    have k6 : w4.cell? ⟨w.heap.size, 6, none⟩ = some (.int .i64 ps) := (Lib.cell_of_heap hb4 6).trans rfl
    clear hb4
    obtain ⟨y0, y1, y2, y3, y4, y5, y6⟩ := H7.out w4 H4.out.old
    have HC := hide (HE.out _ w4 H4.out (by simp only [List.length_append]; omega))
    go_wp2_with fail
    refine HC.out.mono ?_
    rintro e w5 g5
    have H5 := hide (H4.out.got g5)
    have HK5 := hide (HK4.out.trans g5.2.2)
    have hb5 := g5.2.2.box HB4.out hql (by decide)
    have HB5 := hide hb5
    obtain rfl := g5.1
    clear g5 HC k0 k1 k2 k3 k4 k5 k6 y0 y1 y2 y3 y4 y5 y6 HE
    clear hb5
    obtain ⟨awk, vwk, hwk⟩ := H5.out.wr
    have d6 : w5.cell? ⟨p, 6, none⟩ = some (.string G.cls) := hwk.all.1.2.2.2.1
    have HP := hide (H5.out.put G.cls (by simp only [List.length_append, sep_true, List.length_cons, List.length_nil]; omega))
    clear hwk
    go_wp2_with fail
    refine HP.out.mono ?_
    rintro e w6 g6
    have H6 := hide (H5.out.got g6)
    have HK6 := hide (HK5.out.trans g6.2.2)
    have hb6 := g6.2.2.box HB5.out hql (by decide)
    have HB6 := hide hb6
    obtain rfl := g6.1
    clear g6 HP d6
    clear hb6
    obtain ⟨awl, vwl, hwl⟩ := H6.out.wr
    have f14 := hwl.frozen 14
    have e14 := hwl.all.2.1.2.2.2
    have HZ := hide (H6.out.setRt rt)
    have hpz := H6.out.lt
    clear hwl
    go_wp2
    go_end0
    refine ⟨rfl, ?_, HK6.out.trans HZ.out.2⟩
    have hx := HZ.out.1.wr
    simpa [sep, rdT, bL, str, List.append_assoc] using hx
  · obtain rfl := HRR.out.2 hc
    rcases hkk with rfl | rfl
    · have hLF : LO = false := by cases LO with
        | false => rfl
        | true => exact absurd ⟨rfl, rfl⟩ hc
      subst hLF
      go_upto_region 5 with fail
      clear q7 q12 q14 f14' hp2 H1 HK1 HB1 HRR k0 k1 k2 k3 k4 k5 k6
      obtain ⟨awj, vwj, hwj⟩ := H2.out.wr
      have d5 : W2.cell? ⟨p, 5, none⟩ = some (.string G.opn) := hwj.all.1.2.2.1
      have HP := hide (H2.out.put G.opn (by omega))
      clear hwj 
      go_wp2_with fail
      refine HP.out.mono ?_
      rintro e w3 g3
      have H3 := hide (H2.out.got g3)
      have HK3 := hide (HK2.out.trans g3.2.2)
      have hb3 := g3.2.2.box HB2.out hql (by decide)
      have HB3 := hide hb3
      obtain rfl := g3.1
      clear g3 HP d5
      have k0 : w3.cell? ⟨w.heap.size, 0, none⟩ = some (.int .i64 22) := (Lib.cell_of_heap hb3 0).trans rfl
      have k1 : w3.cell? ⟨w.heap.size, 1, none⟩ = some (.int .i64 o) := (Lib.cell_of_heap hb3 1).trans rfl
      have k2 : w3.cell? ⟨w.heap.size, 2, none⟩ = some (.string nm) := (Lib.cell_of_heap hb3 2).trans rfl
      have k3 : w3.cell? ⟨w.heap.size, 3, none⟩ = some (v1) := (Lib.cell_of_heap hb3 3).trans rfl
      have k4 : w3.cell? ⟨w.heap.size, 4, none⟩ = some (v2) := (Lib.cell_of_heap hb3 4).trans rfl
      have k5 : w3.cell? ⟨w.heap.size, 5, none⟩ = some (.slice (some ⟨b, off, none⟩) 1 ck) := (Lib.cell_of_heap hb3 5).trans rfl
      have k6 : w3.cell? ⟨w.heap.size, 6, none⟩ = some (.int .i64 ps) := (Lib.cell_of_heap hb3 6).trans rfl
      clear hb3
      obtain ⟨y0, y1, y2, y3, y4, y5, y6⟩ := H7.out w3 H3.out.old
      have HC := hide (HE.out _ w3 H3.out (by simp only [List.length_append]; omega))
      go_wp2_with fail
      refine HC.out.mono ?_
      rintro e w4 g4
      have H4 := hide (H3.out.got g4)
      have HK4 := hide (HK3.out.trans g4.2.2)
      have hb4 := g4.2.2.box HB3.out hql (by decide)
      have HB4 := hide hb4
      obtain rfl := g4.1
      clear g4 HC k0 k1 k2 k3 k4 k5 k6 y0 y1 y2 y3 y4 y5 y6 HE
      clear hb4
      obtain ⟨awk, vwk, hwk⟩ := H4.out.wr
      have d6 : w4.cell? ⟨p, 6, none⟩ = some (.string G.cls) := hwk.all.1.2.2.2.1
      have HP := hide (H4.out.put G.cls (by simp only [List.length_append, sep_true, List.length_cons, List.length_nil]; omega))
      clear hwk
      go_wp2_with fail
      refine HP.out.mono ?_
      rintro e w5 g5
      have H5 := hide (H4.out.got g5)
      have HK5 := hide (HK4.out.trans g5.2.2)
      have hb5 := g5.2.2.box HB4.out hql (by decide)
      have HB5 := hide hb5
      obtain rfl := g5.1
      clear g5 HP d6
      clear hb5
      obtain ⟨awl, vwl, hwl⟩ := H5.out.wr
      have f14 := hwl.frozen 14
      have e14 := hwl.all.2.1.2.2.2
      have HZ := hide (H5.out.setRt rt)
      have hpz := H5.out.lt
      clear hwl
      go_wp2
      go_end0
      refine ⟨rfl, ?_, HK5.out.trans HZ.out.2⟩
      have hx := HZ.out.1.wr
      simpa [sep, rdT, bL, str, List.append_assoc] using hx
    · go_upto_region 5 with fail
      clear q7 q12 q14 f14' hp2 H1 HK1 HB1 HRR k0 k1 k2 k3 k4 k5 k6
      obtain ⟨awj, vwj, hwj⟩ := H2.out.wr
      have d5 : W2.cell? ⟨p, 5, none⟩ = some (.string G.opn) := hwj.all.1.2.2.1
      have HP := hide (H2.out.put G.opn (by omega))
      clear hwj 
      go_wp2_with fail
      refine HP.out.mono ?_
      rintro e w3 g3
      have H3 := hide (H2.out.got g3)
      have HK3 := hide (HK2.out.trans g3.2.2)
      have hb3 := g3.2.2.box HB2.out hql (by decide)
      have HB3 := hide hb3
      obtain rfl := g3.1
      clear g3 HP d5
      have k0 : w3.cell? ⟨w.heap.size, 0, none⟩ = some (.int .i64 23) := (Lib.cell_of_heap hb3 0).trans rfl
      have k1 : w3.cell? ⟨w.heap.size, 1, none⟩ = some (.int .i64 o) := (Lib.cell_of_heap hb3 1).trans rfl
      have k2 : w3.cell? ⟨w.heap.size, 2, none⟩ = some (.string nm) := (Lib.cell_of_heap hb3 2).trans rfl
      have k3 : w3.cell? ⟨w.heap.size, 3, none⟩ = some (v1) := (Lib.cell_of_heap hb3 3).trans rfl
      have k4 : w3.cell? ⟨w.heap.size, 4, none⟩ = some (v2) := (Lib.cell_of_heap hb3 4).trans rfl
      have k5 : w3.cell? ⟨w.heap.size, 5, none⟩ = some (.slice (some ⟨b, off, none⟩) 1 ck) := (Lib.cell_of_heap hb3 5).trans rfl
      have k6 : w3.cell? ⟨w.heap.size, 6, none⟩ = some (.int .i64 ps) := (Lib.cell_of_heap hb3 6).trans rfl
      clear hb3
      obtain ⟨y0, y1, y2, y3, y4, y5, y6⟩ := H7.out w3 H3.out.old
      have HC := hide (HE.out _ w3 H3.out (by simp only [List.length_append]; omega))
      go_wp2_with fail
      refine HC.out.mono ?_
      rintro e w4 g4
      have H4 := hide (H3.out.got g4)
      have HK4 := hide (HK3.out.trans g4.2.2)
      have hb4 := g4.2.2.box HB3.out hql (by decide)
      have HB4 := hide hb4
      obtain rfl := g4.1
      clear g4 HC k0 k1 k2 k3 k4 k5 k6 y0 y1 y2 y3 y4 y5 y6 HE
      clear hb4
      obtain ⟨awk, vwk, hwk⟩ := H4.out.wr
      have d6 : w4.cell? ⟨p, 6, none⟩ = some (.string G.cls) := hwk.all.1.2.2.2.1
      have HP := hide (H4.out.put G.cls (by simp only [List.length_append, sep_true, List.length_cons, List.length_nil]; omega))
      clear hwk
      go_wp2_with fail
      refine HP.out.mono ?_
      rintro e w5 g5
      have H5 := hide (H4.out.got g5)
      have HK5 := hide (HK4.out.trans g5.2.2)
      have hb5 := g5.2.2.box HB4.out hql (by decide)
      have HB5 := hide hb5
      obtain rfl := g5.1
      clear g5 HP d6
      clear hb5
      obtain ⟨awl, vwl, hwl⟩ := H5.out.wr
      have f14 := hwl.frozen 14
      have e14 := hwl.all.2.1.2.2.2
      have HZ := hide (H5.out.setRt rt)
      have hpz := H5.out.lt
      clear hwl
      go_wp2
      go_end0
      refine ⟨rfl, ?_, HK5.out.trans HZ.out.2⟩
      have hx := HZ.out.1.wr
      simpa [sep, rdT, bL, str, List.append_assoc] using hx
theorem nd_slices {m n lo : Nat} {w : World} {x : Nd} {k o : Int} {nm : ByteArray} {u1 u2 u3 : Value} {ps : Int} (h : NdIn m n lo w x (.agg (sv k o nm u1 u2 u3 ps))) : (∃ a l c, u1 = .slice a l c) ∧ (∃ a l c, u2 = .slice a l c) ∧ ∃ a l c, u3 = .slice a l c := by
  cases m with
  | zero => exact h.elim
  | succ m =>
    obtain ⟨a1, c1, a2, c2, ak, ck, hv, -⟩ := h
    unfold ndV at hv
    simp only [Value.agg.injEq, Array.mk.injEq, List.cons.injEq] at hv
    exact ⟨⟨_, _, _, hv.2.2.2.1⟩, ⟨_, _, _, hv.2.2.2.2.1⟩, ⟨_, _, _, hv.2.2.2.2.2.1⟩⟩
/-- The first parts, a blank ahead of each. -/
def trT (F : Nd → List UInt8) (x : Nd) (j : Nat) : List UInt8 := (List.range j).flatMap fun i => [32] ++ F (kp x i)
theorem trT_step (F : Nd → List UInt8) (x : Nd) (j : Nat) : trT F x (j + 1) = trT F x j ++ ([32] ++ F (kp x j)) := by
  unfold trT
  rw [List.range_succ, List.flatMap_append]
  simp
theorem trT_le (F : Nd → List UInt8) (x : Nd) {j k : Nat} (h : j ≤ k) : (trT F x j).length ≤ (trT F x k).length := by
  induction h with
  | refl => exact Nat.le_refl _
  | step _ ih => rw [trT_step, List.length_append]; omega
set_option maxHeartbeats 4000000 in
theorem train78 {n m : Nat} {w0 : World} {B p : Nat} {G : Gs} (IF : CF n m w0 B p G) (rt : ByteArray) (bg : Bool) (out : List UInt8) (w : World) (x : Nd) (ak : Option Addr) (KL ck : Nat) (hKL : KL ≤ 1000)
    (hkid : ∀ j, j < KL → ∃ b off u1 u2 u3, ak = some ⟨b, off, none⟩ ∧ NdIn m n 0 w0 (kp x j) (.agg (sv (kp x j).kind (kp x j).op (kp x j).name u1 u2 u3 (kp x j).pos)) ∧ ∀ W, Below w0.heap.size w0 W → Sv7 W b (off + j * 7) (kp x j).kind (kp x j).op (kp x j).name u1 u2 u3 (kp x j).pos)
    (hok : ∀ j, j < KL → okN m true (kp x j)) (hs : ∀ j, j < KL → sndA (kp x j)) (h : St w0 B w p G rt bg out) (hl : out.length + 1 + (trT (TX G m).F x KL).length + 3 ≤ 140737488355328) :
    Calls Tryz.prog 124 #[.pointer (some ⟨p, 0, none⟩), .slice ak KL ck] w (GvT B p G rt true (out ++ (sep bg ++ (40 :: (trT (TX G m).F x KL ++ [32, 41])))) w) := by
  have hse := sep_le bg
  have HKID := hide hkid
  have HF := hide (fun j (hj : j < KL) out w (hst : St w0 B w p G rt true out) u1 u2 u3 (hn : NdIn m n 0 w0 (kp x j) (.agg (sv (kp x j).kind (kp x j).op (kp x j).name u1 u2 u3 (kp x j).pos))) hl => IF rt true out w (kp x j) _ hn (hok j hj) (hs j hj) hst hl)
  have HST := hide (fun j => trT_step (TX G m).F x j)
  have HLE := hide (fun j (hj : j ≤ KL) => trT_le (TX G m).F x hj)
  have hs1 : (⟨#[40]⟩ : ByteArray).size = 1 := rfl
  have hs2 : (⟨#[41]⟩ : ByteArray).size = 1 := rfl
  have HP := hide (h.put ⟨#[40]⟩ (by omega))
  have H0 := hide h
  have HT0 : Hid (trT (TX G m).F x 0 = []) := rfl
  obtain ⟨TR, hTR⟩ : ∃ TR, (fun j => trT (TX G m).F x j) = TR := ⟨_, rfl⟩
  have HTR : ∀ j, trT (TX G m).F x j = TR j := fun j => by rw [← hTR]
  simp only [HTR] at HST HLE hl HT0 ⊢
  clear hkid hok hs IF h hTR HTR
  go_enter Tryz.func124, Tryz.ntmps124
  go_wp2_with fail
  refine HP.out.mono ?_
  rintro e w1 g1
  have H1 := hide (H0.out.got g1)
  have HK1 := hide g1.2.2
  obtain rfl := g1.1
  clear g1 HP
  go_wp2
  go_loopw [11] (fun i wr => ∃ j : Nat, j ≤ KL ∧ i = .int .i64 j ∧ St w0 B wr p G rt true (out ++ (sep bg ++ [40]) ++ TR j) ∧ Wk B p w wr) (fun i _ => KL - (match i with | .int _ z => z.toNat | _ => 0))
  case atStart => exact ⟨0, Nat.zero_le _, rfl, by rw [HT0.out, List.append_nil]; exact H1.out, HK1.out⟩
  case round =>
    obtain ⟨j, hj, rfl, hst, hwk⟩ := hrel
    have HS := hide hst
    have HW := hide hwk
    clear hst hwk
    by_cases hlt : j < KL
    · obtain ⟨b, off, u1, u2, u3, rfl, hn, h7⟩ := HKID.out j hlt
      obtain ⟨⟨d1, l1, e1, rfl⟩, ⟨d2, l2, e2, rfl⟩, ⟨d3, l3, e3, rfl⟩⟩ := nd_slices hn
      obtain ⟨y0, y1, y2, y3, y4, y5, y6⟩ := h7 wr HS.out.old
      have hle := HLE.out (j + 1) hlt
      rw [HST.out j, List.length_append, List.length_append] at hle
      have hb1 := alloc_one wr (.cells (sv (kp x j).kind (kp x j).op (kp x j).name (.slice d1 l1 e1) (.slice d2 l2 e2) (.slice d3 l3 e3) (kp x j).pos) 42)
      have HC := hide (HF.out j hlt _ _ (HS.out.next hb1) _ _ _ hn (by simp only [List.length_append, List.length_cons, List.length_nil] at hle ⊢; omega))
      have HKB := hide (HW.out.trans (HS.out.wkn hb1))
      have HS1 := hide (HS.out.next hb1)
      have HE := hide (HST.out j)
      obtain ⟨FT, hFT⟩ : ∃ FT, (TX G m).F (kp x j) = FT := ⟨_, rfl⟩
      rw [hFT] at HC HE
      generalize (kp x j).kind = k' at *
      generalize (kp x j).op = o' at *
      generalize (kp x j).name = nm' at *
      generalize (kp x j).pos = ps' at *
      clear hn h7 hb1 hFT hle HF HKID HST HLE HS HW
      go_wp2_with fail
      refine HC.out.mono ?_
      rintro e w2 g2
      have H2 := hide (HS1.out.got g2)
      have HK2 := hide (HKB.out.trans g2.2.2)
      obtain rfl := g2.1
      clear g2 HC y0 y1 y2 y3 y4 y5 y6
      go_wp2
      refine ⟨⟨j + 1, by omega, by go_num, ?_, HK2.out⟩, ?_⟩
      · have hx := H2.out
        rw [HE.out]
        simpa [sep, List.append_assoc] using hx
      · show KL - _ < KL - _
        simp
        omega
    · have hje : j = KL := by omega
      subst hje
      have HC := hide (HS.out.put ⟨#[41]⟩ (by simp only [List.length_append, List.length_cons, List.length_nil, sep_true]; omega))
      clear HF HKID HST HLE
      go_wp2_with fail
      refine HC.out.mono ?_
      rintro e w9 ⟨rfl, hx9, hk9⟩
      have HF9 := hide (And.intro hx9 (HW.out.trans hk9))
      clear hx9 hk9 HC
      go_wp2
      go_end0
      refine ⟨rfl, ?_, HF9.out.2⟩
      have hx := HF9.out.1
      simpa [sep, rdT, bL, str, List.append_assoc] using hx
end Go.Proofs.YtneblkdkhlgmcaaGreatDoor
namespace Go.Proofs.YtneblkdkhlgmcaaGreatDoor
open Go.ChangeShapes Go.WideShapes Go.ChangeAt Go.RowKit
set_option maxRecDepth 100000
set_option linter.unusedVariables false
set_option linter.unusedSimpArgs false
theorem StrR.two {p : Nat} {w : World} (hp : p < w.heap.size) (s1 s2 : ByteArray) : StrR p (w.alloc (.cells #[.string s1, .string s2] 9)) (some ⟨w.heap.size, 0, none⟩) [s1, s2] :=
  ⟨by simp, fun j hj => by
    refine ⟨w.heap.size, 0, rfl, by simp, by omega, ?_, ?_⟩
    · rintro ⟨cs, fz, h⟩
      rw [heap_alloc_new] at h
      cases h
    · have h2 : j < 2 := by simpa using hj
      rcases (by omega : j = 0 ∨ j = 1) with rfl | rfl
      · simp
      · simp⟩
/-- Two pieces more, of a writer at work. -/
theorem St.glue2 {w0 : World} {B : Nat} {w : World} {p : Nat} {G : Gs} {rt : ByteArray} {bg : Bool} {out : List UInt8} (h : St w0 B w p G rt bg out) (s1 s2 : ByteArray) (hl : out.length + s1.size + s2.size ≤ 140737488355328) :
    Calls Tryz.prog 88 #[.pointer (some ⟨p, 0, none⟩), .slice (some ⟨w.heap.size, 0, none⟩) 2 2] (w.alloc (.cells #[.string s1, .string s2] 9)) (GvT B p G rt bg (out ++ (bL s1 ++ bL s2)) w) := by
  obtain ⟨a, v, hw⟩ := h.wr
  have e : fl [s1, s2] = bL s1 ++ bL s2 := by simp [fl, bL]
  have h1 : s1.data.toList.length = s1.size := by simp
  have h2 : s2.data.toList.length = s2.size := by simp
  have h3 := glue62 (hw.next (alloc_one w (.cells #[.string s1, .string s2] 9))) (ad := some ⟨w.heap.size, 0, none⟩) (ws := [s1, s2]) 2 (StrR.two hw.lt s1 s2) (by rw [e, List.length_append]; unfold bL; omega)
  refine h3.mono ?_
  rintro e' w' ⟨rfl, ⟨a', v', hx⟩, hk⟩
  rw [e] at hx
  exact ⟨rfl, ⟨a', v', hx⟩, (Wk.of (alloc_one w _) (Nat.le_trans hw.hB (Nat.le_of_lt hw.lt))).trans hk⟩
set_option maxHeartbeats 4000000 in
theorem fun21 {n m : Nat} {w0 : World} {B p : Nat} {G : Gs} (IF : CF n m w0 B p G) (IE : CE n m w0 B p G) (rt : ByteArray) (bg : Bool) (out : List UInt8) (w : World) (x : Nd) (v : Value) (hx : NdIn (m + 1) n 0 w0 x v) (hk : okN (m + 1) true x) (hs : sndA x) (h : St w0 B w p G rt bg out) (hK : x.kind = 21) (hl : out.length + 1 + (fnT G (TX G m) x).length ≤ 140737488355328) :
    Calls Tryz.prog 98 #[.pointer (some ⟨p, 0, none⟩), v] w (GvT B p G rt true (out ++ (sep bg ++ fnT G (TX G m) x)) w) := by
  have hx0 := hx
  have hk0 := hk
  obtain ⟨v1, v2, ak, ck, rfl, hv1, -, hkid⟩ := nd_kids hx
  have hse := sep_le bg
  have hT : fnT G (TX G m) x = bL x.name := by simp [fnT, hK]
  have hkl : x.kids.length = 0 := by have := hk.1; rw [hK] at this; unfold arK at this; simp at this; first | omega | (rw [this]; rfl)
  rw [hT] at hl ⊢
  rw [hK, hkl]
  have hnb : (bL x.name).length = x.name.size := by simp [bL]
  generalize x.op = o at *
  generalize x.name = nm at *
  generalize x.pos = ps at *
  clear hx hk hs IF IE hkid hT hkl hK hx0 hk0
  obtain ⟨W1, hW1⟩ : ∃ W1, w.alloc (.cells (sv (21) (o) nm (v1) (v2) (.slice ak 0 ck) (ps)) 42) = W1 := ⟨_, rfl⟩
  have hb1 : Below w.heap.size w W1 := by rw [← hW1]; exact alloc_one _ _
  have s1 : W1.heap.size = w.heap.size + 1 := by rw [← hW1]; simp
  have hbx : W1.heap[w.heap.size]? = some (.cells (sv (21) (o) nm (v1) (v2) (.slice ak 0 ck) (ps)) 42 (0, 0)) := by rw [← hW1]; exact heap_alloc_new w _
  have hql : w.heap.size ≠ p := Nat.ne_of_gt h.lt
  have H1 := hide (h.next hb1)
  have HK1 := hide (h.wkn hb1)
  have HB1 := hide hbx
  have k0 : W1.cell? ⟨w.heap.size, 0, none⟩ = some (.int .i64 21) := (Lib.cell_of_heap hbx 0).trans rfl
  have k1 : W1.cell? ⟨w.heap.size, 1, none⟩ = some (.int .i64 o) := (Lib.cell_of_heap hbx 1).trans rfl
  have k2 : W1.cell? ⟨w.heap.size, 2, none⟩ = some (.string nm) := (Lib.cell_of_heap hbx 2).trans rfl
  have k3 : W1.cell? ⟨w.heap.size, 3, none⟩ = some (v1) := (Lib.cell_of_heap hbx 3).trans rfl
  have k4 : W1.cell? ⟨w.heap.size, 4, none⟩ = some (v2) := (Lib.cell_of_heap hbx 4).trans rfl
  have k5 : W1.cell? ⟨w.heap.size, 5, none⟩ = some (.slice ak 0 ck) := (Lib.cell_of_heap hbx 5).trans rfl
  have k6 : W1.cell? ⟨w.heap.size, 6, none⟩ = some (.int .i64 ps) := (Lib.cell_of_heap hbx 6).trans rfl
  clear hb1 hbx
  have HC := hide (H1.out.put nm (by omega))
  rw [s1] at HC
  clear h
  go_enter Tryz.func98, Tryz.ntmps98
  go_wp2_with fail
  refine HC.out.mono ?_
  rintro e w9 ⟨rfl, hx9, hk9⟩
  have HF9 := hide (And.intro hx9 (HK1.out.trans hk9))
  clear hx9 hk9 HC 
  go_wp2
  go_end0
  refine ⟨rfl, ?_, HF9.out.2⟩
  have hx := HF9.out.1
  simpa [sep, rdT, bL, str, List.append_assoc] using hx
set_option maxHeartbeats 4000000 in
theorem fun22 {n m : Nat} {w0 : World} {B p : Nat} {G : Gs} (IF : CF n m w0 B p G) (IE : CE n m w0 B p G) (rt : ByteArray) (bg : Bool) (out : List UInt8) (w : World) (x : Nd) (v : Value) (hx : NdIn (m + 1) n 0 w0 x v) (hk : okN (m + 1) true x) (hs : sndA x) (h : St w0 B w p G rt bg out) (hK : x.kind = 22) (hl : out.length + 1 + (fnT G (TX G m) x).length ≤ 140737488355328) :
    Calls Tryz.prog 98 #[.pointer (some ⟨p, 0, none⟩), v] w (GvT B p G rt true (out ++ (sep bg ++ fnT G (TX G m) x)) w) := by
  have hx0 := hx
  have hk0 := hk
  obtain ⟨v1, v2, ak, ck, rfl, hv1, -, hkid⟩ := nd_kids hx
  have hse := sep_le bg
  have hT : fnT G (TX G m) x = lamT G (TX G m) x := by simp [fnT, hK, lamT, lamR]
  have hkl : x.kids.length = 1 := by have := hk.1; rw [hK] at this; unfold arK at this; simp at this; first | omega | (rw [this]; rfl)
  rw [hT] at hl ⊢
  have HL := hide (fun W (hst : St w0 B W p G rt bg out) hl => lambda76 IE rt bg out W x _ hx0 hk0 (by rw [hK]; simp) hs hst hl)
  rw [hK, hkl] at HL
  rw [hK, hkl]
  obtain ⟨LT, hLT⟩ : ∃ LT, lamT G (TX G m) x = LT := ⟨_, rfl⟩
  rw [hLT] at HL hl ⊢
  generalize x.op = o at *
  generalize x.name = nm at *
  generalize x.pos = ps at *
  clear hx hk hs IF IE hkid hT hkl hK hx0 hk0 hLT
  obtain ⟨W1, hW1⟩ : ∃ W1, w.alloc (.cells (sv (22) (o) nm (v1) (v2) (.slice ak 1 ck) (ps)) 42) = W1 := ⟨_, rfl⟩
  have hb1 : Below w.heap.size w W1 := by rw [← hW1]; exact alloc_one _ _
  have s1 : W1.heap.size = w.heap.size + 1 := by rw [← hW1]; simp
  have hbx : W1.heap[w.heap.size]? = some (.cells (sv (22) (o) nm (v1) (v2) (.slice ak 1 ck) (ps)) 42 (0, 0)) := by rw [← hW1]; exact heap_alloc_new w _
  have hql : w.heap.size ≠ p := Nat.ne_of_gt h.lt
  have H1 := hide (h.next hb1)
  have HK1 := hide (h.wkn hb1)
  have HB1 := hide hbx
  have k0 : W1.cell? ⟨w.heap.size, 0, none⟩ = some (.int .i64 22) := (Lib.cell_of_heap hbx 0).trans rfl
  have k1 : W1.cell? ⟨w.heap.size, 1, none⟩ = some (.int .i64 o) := (Lib.cell_of_heap hbx 1).trans rfl
  have k2 : W1.cell? ⟨w.heap.size, 2, none⟩ = some (.string nm) := (Lib.cell_of_heap hbx 2).trans rfl
  have k3 : W1.cell? ⟨w.heap.size, 3, none⟩ = some (v1) := (Lib.cell_of_heap hbx 3).trans rfl
  have k4 : W1.cell? ⟨w.heap.size, 4, none⟩ = some (v2) := (Lib.cell_of_heap hbx 4).trans rfl
  have k5 : W1.cell? ⟨w.heap.size, 5, none⟩ = some (.slice ak 1 ck) := (Lib.cell_of_heap hbx 5).trans rfl
  have k6 : W1.cell? ⟨w.heap.size, 6, none⟩ = some (.int .i64 ps) := (Lib.cell_of_heap hbx 6).trans rfl
  clear hb1 hbx
  have HC := hide (HL.out W1 H1.out hl)
  clear h HL
  go_enter Tryz.func98, Tryz.ntmps98
  go_wp2_with fail
  refine HC.out.mono ?_
  rintro e w9 ⟨rfl, hx9, hk9⟩
  have HF9 := hide (And.intro hx9 (HK1.out.trans hk9))
  clear hx9 hk9 HC 
  go_wp2
  go_end0
  refine ⟨rfl, ?_, HF9.out.2⟩
  have hx := HF9.out.1
  simpa [sep, rdT, bL, str, List.append_assoc] using hx
set_option maxHeartbeats 4000000 in
theorem fun23 {n m : Nat} {w0 : World} {B p : Nat} {G : Gs} (IF : CF n m w0 B p G) (IE : CE n m w0 B p G) (rt : ByteArray) (bg : Bool) (out : List UInt8) (w : World) (x : Nd) (v : Value) (hx : NdIn (m + 1) n 0 w0 x v) (hk : okN (m + 1) true x) (hs : sndA x) (h : St w0 B w p G rt bg out) (hK : x.kind = 23) (hl : out.length + 1 + (fnT G (TX G m) x).length ≤ 140737488355328) :
    Calls Tryz.prog 98 #[.pointer (some ⟨p, 0, none⟩), v] w (GvT B p G rt true (out ++ (sep bg ++ fnT G (TX G m) x)) w) := by
  have hx0 := hx
  have hk0 := hk
  obtain ⟨v1, v2, ak, ck, rfl, hv1, -, hkid⟩ := nd_kids hx
  have hse := sep_le bg
  have hT : fnT G (TX G m) x = lamT G (TX G m) x := by simp [fnT, hK, lamT, lamR]
  have hkl : x.kids.length = 1 := by have := hk.1; rw [hK] at this; unfold arK at this; simp at this; first | omega | (rw [this]; rfl)
  rw [hT] at hl ⊢
  have HL := hide (fun W (hst : St w0 B W p G rt bg out) hl => lambda76 IE rt bg out W x _ hx0 hk0 (by rw [hK]; simp) hs hst hl)
  rw [hK, hkl] at HL
  rw [hK, hkl]
  obtain ⟨LT, hLT⟩ : ∃ LT, lamT G (TX G m) x = LT := ⟨_, rfl⟩
  rw [hLT] at HL hl ⊢
  generalize x.op = o at *
  generalize x.name = nm at *
  generalize x.pos = ps at *
  clear hx hk hs IF IE hkid hT hkl hK hx0 hk0 hLT
  obtain ⟨W1, hW1⟩ : ∃ W1, w.alloc (.cells (sv (23) (o) nm (v1) (v2) (.slice ak 1 ck) (ps)) 42) = W1 := ⟨_, rfl⟩
  have hb1 : Below w.heap.size w W1 := by rw [← hW1]; exact alloc_one _ _
  have s1 : W1.heap.size = w.heap.size + 1 := by rw [← hW1]; simp
  have hbx : W1.heap[w.heap.size]? = some (.cells (sv (23) (o) nm (v1) (v2) (.slice ak 1 ck) (ps)) 42 (0, 0)) := by rw [← hW1]; exact heap_alloc_new w _
  have hql : w.heap.size ≠ p := Nat.ne_of_gt h.lt
  have H1 := hide (h.next hb1)
  have HK1 := hide (h.wkn hb1)
  have HB1 := hide hbx
  have k0 : W1.cell? ⟨w.heap.size, 0, none⟩ = some (.int .i64 23) := (Lib.cell_of_heap hbx 0).trans rfl
  have k1 : W1.cell? ⟨w.heap.size, 1, none⟩ = some (.int .i64 o) := (Lib.cell_of_heap hbx 1).trans rfl
  have k2 : W1.cell? ⟨w.heap.size, 2, none⟩ = some (.string nm) := (Lib.cell_of_heap hbx 2).trans rfl
  have k3 : W1.cell? ⟨w.heap.size, 3, none⟩ = some (v1) := (Lib.cell_of_heap hbx 3).trans rfl
  have k4 : W1.cell? ⟨w.heap.size, 4, none⟩ = some (v2) := (Lib.cell_of_heap hbx 4).trans rfl
  have k5 : W1.cell? ⟨w.heap.size, 5, none⟩ = some (.slice ak 1 ck) := (Lib.cell_of_heap hbx 5).trans rfl
  have k6 : W1.cell? ⟨w.heap.size, 6, none⟩ = some (.int .i64 ps) := (Lib.cell_of_heap hbx 6).trans rfl
  clear hb1 hbx
  have HC := hide (HL.out W1 H1.out hl)
  clear h HL
  go_enter Tryz.func98, Tryz.ntmps98
  go_wp2_with fail
  refine HC.out.mono ?_
  rintro e w9 ⟨rfl, hx9, hk9⟩
  have HF9 := hide (And.intro hx9 (HK1.out.trans hk9))
  clear hx9 hk9 HC 
  go_wp2
  go_end0
  refine ⟨rfl, ?_, HF9.out.2⟩
  have hx := HF9.out.1
  simpa [sep, rdT, bL, str, List.append_assoc] using hx
set_option maxHeartbeats 4000000 in
theorem fun24 {n m : Nat} {w0 : World} {B p : Nat} {G : Gs} (IF : CF n m w0 B p G) (IE : CE n m w0 B p G) (rt : ByteArray) (bg : Bool) (out : List UInt8) (w : World) (x : Nd) (v : Value) (hx : NdIn (m + 1) n 0 w0 x v) (hk : okN (m + 1) true x) (hs : sndA x) (h : St w0 B w p G rt bg out) (hK : x.kind = 24) (hl : out.length + 1 + (fnT G (TX G m) x).length ≤ 140737488355328) :
    Calls Tryz.prog 98 #[.pointer (some ⟨p, 0, none⟩), v] w (GvT B p G rt true (out ++ (sep bg ++ fnT G (TX G m) x)) w) := by
  have hx0 := hx
  have hk0 := hk
  obtain ⟨v1, v2, ak, ck, rfl, hv1, -, hkid⟩ := nd_kids hx
  have hse := sep_le bg
  have hT : fnT G (TX G m) x = (TX G m).F (kp x 0) ++ bL x.name := by simp [fnT, hK]
  have hkl : x.kids.length = 1 := by have := hk.1; rw [hK] at this; unfold arK at this; simp at this; first | omega | (rw [this]; rfl)
  rw [hT] at hl ⊢
  obtain ⟨b, off, u1, u2, u3, rfl, hnk, h7⟩ := hkid 0 (by omega)
  have hok := hk.2.2.2 0 (by omega)
  rw [show fnP x.kind 0 = true by rw [hK]; rfl] at hok
  have hsk := hs.kid (i := 0) (by omega)
  have H7 : Hid (∀ W, Below w0.heap.size w0 W → Sv7 W b off (kp x 0).kind (kp x 0).op (kp x 0).name u1 u2 u3 (kp x 0).pos) := hide (by simpa only [Nat.zero_mul, Nat.add_zero] using h7)
  have HF := hide (fun bg out w (hst : St w0 B w p G rt bg out) hl => IF rt bg out w (kp x 0) _ hnk hok hsk hst hl)
  rw [hK, hkl]
  obtain ⟨FT, hFT⟩ : ∃ FT, (TX G m).F (kp x 0) = FT := ⟨_, rfl⟩
  rw [hFT] at HF hl ⊢
  have hnb : (bL x.name).length = x.name.size := by simp [bL]
  generalize (kp x 0).kind = k' at *
  generalize (kp x 0).op = o' at *
  generalize (kp x 0).name = nm' at *
  generalize (kp x 0).pos = ps' at *
  generalize x.op = o at *
  generalize x.name = nm at *
  generalize x.pos = ps at *
  simp only [List.length_append] at hl
  clear hx hk hs IF IE hkid hT hkl hK hx0 hk0 hFT hnk h7 hok hsk
  obtain ⟨W1, hW1⟩ : ∃ W1, w.alloc (.cells (sv (24) (o) nm (v1) (v2) (.slice (some ⟨b, off, none⟩) 1 ck) (ps)) 42) = W1 := ⟨_, rfl⟩
  have hb1 : Below w.heap.size w W1 := by rw [← hW1]; exact alloc_one _ _
  have s1 : W1.heap.size = w.heap.size + 1 := by rw [← hW1]; simp
  have hbx : W1.heap[w.heap.size]? = some (.cells (sv (24) (o) nm (v1) (v2) (.slice (some ⟨b, off, none⟩) 1 ck) (ps)) 42 (0, 0)) := by rw [← hW1]; exact heap_alloc_new w _
  have hql : w.heap.size ≠ p := Nat.ne_of_gt h.lt
  have H1 := hide (h.next hb1)
  have HK1 := hide (h.wkn hb1)
  have HB1 := hide hbx
  have k0 : W1.cell? ⟨w.heap.size, 0, none⟩ = some (.int .i64 24) := (Lib.cell_of_heap hbx 0).trans rfl
  have k1 : W1.cell? ⟨w.heap.size, 1, none⟩ = some (.int .i64 o) := (Lib.cell_of_heap hbx 1).trans rfl
  have k2 : W1.cell? ⟨w.heap.size, 2, none⟩ = some (.string nm) := (Lib.cell_of_heap hbx 2).trans rfl
  have k3 : W1.cell? ⟨w.heap.size, 3, none⟩ = some (v1) := (Lib.cell_of_heap hbx 3).trans rfl
  have k4 : W1.cell? ⟨w.heap.size, 4, none⟩ = some (v2) := (Lib.cell_of_heap hbx 4).trans rfl
  have k5 : W1.cell? ⟨w.heap.size, 5, none⟩ = some (.slice (some ⟨b, off, none⟩) 1 ck) := (Lib.cell_of_heap hbx 5).trans rfl
  have k6 : W1.cell? ⟨w.heap.size, 6, none⟩ = some (.int .i64 ps) := (Lib.cell_of_heap hbx 6).trans rfl
  clear hb1 hbx
  have HC := hide (HF.out bg out W1 H1.out (by omega))
  obtain ⟨y0, y1, y2, y3, y4, y5, y6⟩ := H7.out W1 H1.out.old
  clear h HF
  go_enter Tryz.func98, Tryz.ntmps98
  go_wp2_with fail
  refine HC.out.mono ?_
  rintro e w2 g2
  have H2 := hide (H1.out.got g2)
  have HK2 := hide (HK1.out.trans g2.2.2)
  have hb2 := g2.2.2.box HB1.out hql (by decide)
  have HB2 := hide hb2
  obtain rfl := g2.1
  clear g2 HC k0 k1 k2 k3 k4 k5 k6 y0 y1 y2 y3 y4 y5 y6
  have k0 : w2.cell? ⟨w.heap.size, 0, none⟩ = some (.int .i64 24) := (Lib.cell_of_heap hb2 0).trans rfl
  have k1 : w2.cell? ⟨w.heap.size, 1, none⟩ = some (.int .i64 o) := (Lib.cell_of_heap hb2 1).trans rfl
  have k2 : w2.cell? ⟨w.heap.size, 2, none⟩ = some (.string nm) := (Lib.cell_of_heap hb2 2).trans rfl
  have k3 : w2.cell? ⟨w.heap.size, 3, none⟩ = some (v1) := (Lib.cell_of_heap hb2 3).trans rfl
  have k4 : w2.cell? ⟨w.heap.size, 4, none⟩ = some (v2) := (Lib.cell_of_heap hb2 4).trans rfl
  have k5 : w2.cell? ⟨w.heap.size, 5, none⟩ = some (.slice (some ⟨b, off, none⟩) 1 ck) := (Lib.cell_of_heap hb2 5).trans rfl
  have k6 : w2.cell? ⟨w.heap.size, 6, none⟩ = some (.int .i64 ps) := (Lib.cell_of_heap hb2 6).trans rfl
  clear hb2
  have HC := hide (H2.out.glue nm (by simp only [List.length_append]; omega))
  go_wp2_with fail
  refine HC.out.mono ?_
  rintro e w9 ⟨rfl, hx9, hk9⟩
  have HF9 := hide (And.intro hx9 (HK2.out.trans hk9))
  clear hx9 hk9 HC 
  go_wp2
  go_end0
  refine ⟨rfl, ?_, HF9.out.2⟩
  have hx := HF9.out.1
  simpa [sep, rdT, bL, str, List.append_assoc] using hx
set_option maxHeartbeats 4000000 in
theorem fun26 {n m : Nat} {w0 : World} {B p : Nat} {G : Gs} (IF : CF n m w0 B p G) (IE : CE n m w0 B p G) (rt : ByteArray) (bg : Bool) (out : List UInt8) (w : World) (x : Nd) (v : Value) (hx : NdIn (m + 1) n 0 w0 x v) (hk : okN (m + 1) true x) (hs : sndA x) (h : St w0 B w p G rt bg out) (hK : x.kind = 26) (hl : out.length + 1 + (fnT G (TX G m) x).length ≤ 140737488355328) :
    Calls Tryz.prog 98 #[.pointer (some ⟨p, 0, none⟩), v] w (GvT B p G rt true (out ++ (sep bg ++ fnT G (TX G m) x)) w) := by
  have hx0 := hx
  have hk0 := hk
  obtain ⟨v1, v2, ak, ck, rfl, hv1, -, hkid⟩ := nd_kids hx
  have hse := sep_le bg
  have hT : fnT G (TX G m) x = (TX G m).F (kp x 0) ++ (bL G.power ++ numT x.op (bL G.minus)) := by simp [fnT, hK]
  have hkl : x.kids.length = 1 := by have := hk.1; rw [hK] at this; unfold arK at this; simp at this; first | omega | (rw [this]; rfl)
  rw [hT] at hl ⊢
  obtain ⟨b, off, u1, u2, u3, rfl, hnk, h7⟩ := hkid 0 (by omega)
  have hok := hk.2.2.2 0 (by omega)
  rw [show fnP x.kind 0 = true by rw [hK]; rfl] at hok
  have hsk := hs.kid (i := 0) (by omega)
  have H7 : Hid (∀ W, Below w0.heap.size w0 W → Sv7 W b off (kp x 0).kind (kp x 0).op (kp x 0).name u1 u2 u3 (kp x 0).pos) := hide (by simpa only [Nat.zero_mul, Nat.add_zero] using h7)
  have HF := hide (fun bg out w (hst : St w0 B w p G rt bg out) hl => IF rt bg out w (kp x 0) _ hnk hok hsk hst hl)
  rw [hK, hkl]
  obtain ⟨FT, hFT⟩ : ∃ FT, (TX G m).F (kp x 0) = FT := ⟨_, rfl⟩
  rw [hFT] at HF hl ⊢
  have hpb : (bL G.power).length = G.power.size := by simp [bL]
  have ho := hs.op
  obtain ⟨NT, hNT⟩ : ∃ NT, numT x.op (bL G.minus) = NT := ⟨_, rfl⟩
  rw [hNT] at hl ⊢
  have HNT := hide hNT
  generalize (kp x 0).kind = k' at *
  generalize (kp x 0).op = o' at *
  generalize (kp x 0).name = nm' at *
  generalize (kp x 0).pos = ps' at *
  generalize x.op = o at *
  generalize x.name = nm at *
  generalize x.pos = ps at *
  simp only [List.length_append] at hl
  have hsn : (str NT).size = NT.length := by show (str NT).data.size = _; simp [str]
  have hbn : bL (str NT) = NT := by simp [bL, str]
  clear hx hk hs IF IE hkid hT hkl hK hx0 hk0 hFT hnk h7 hok hsk hNT
  obtain ⟨W1, hW1⟩ : ∃ W1, w.alloc (.cells (sv (26) (o) nm (v1) (v2) (.slice (some ⟨b, off, none⟩) 1 ck) (ps)) 42) = W1 := ⟨_, rfl⟩
  have hb1 : Below w.heap.size w W1 := by rw [← hW1]; exact alloc_one _ _
  have s1 : W1.heap.size = w.heap.size + 1 := by rw [← hW1]; simp
  have hbx : W1.heap[w.heap.size]? = some (.cells (sv (26) (o) nm (v1) (v2) (.slice (some ⟨b, off, none⟩) 1 ck) (ps)) 42 (0, 0)) := by rw [← hW1]; exact heap_alloc_new w _
  have hql : w.heap.size ≠ p := Nat.ne_of_gt h.lt
  have H1 := hide (h.next hb1)
  have HK1 := hide (h.wkn hb1)
  have HB1 := hide hbx
  have k0 : W1.cell? ⟨w.heap.size, 0, none⟩ = some (.int .i64 26) := (Lib.cell_of_heap hbx 0).trans rfl
  have k1 : W1.cell? ⟨w.heap.size, 1, none⟩ = some (.int .i64 o) := (Lib.cell_of_heap hbx 1).trans rfl
  have k2 : W1.cell? ⟨w.heap.size, 2, none⟩ = some (.string nm) := (Lib.cell_of_heap hbx 2).trans rfl
  have k3 : W1.cell? ⟨w.heap.size, 3, none⟩ = some (v1) := (Lib.cell_of_heap hbx 3).trans rfl
  have k4 : W1.cell? ⟨w.heap.size, 4, none⟩ = some (v2) := (Lib.cell_of_heap hbx 4).trans rfl
  have k5 : W1.cell? ⟨w.heap.size, 5, none⟩ = some (.slice (some ⟨b, off, none⟩) 1 ck) := (Lib.cell_of_heap hbx 5).trans rfl
  have k6 : W1.cell? ⟨w.heap.size, 6, none⟩ = some (.int .i64 ps) := (Lib.cell_of_heap hbx 6).trans rfl
  clear hb1 hbx
  have HC := hide (HF.out bg out W1 H1.out (by omega))
  obtain ⟨y0, y1, y2, y3, y4, y5, y6⟩ := H7.out W1 H1.out.old
  clear h HF
  go_enter Tryz.func98, Tryz.ntmps98
  go_wp2_with fail
  refine HC.out.mono ?_
  rintro e w2 g2
  have H2 := hide (H1.out.got g2)
  have HK2 := hide (HK1.out.trans g2.2.2)
  have hb2 := g2.2.2.box HB1.out hql (by decide)
  have HB2 := hide hb2
  obtain rfl := g2.1
  clear g2 HC k0 k1 k2 k3 k4 k5 k6 y0 y1 y2 y3 y4 y5 y6
  have k0 : w2.cell? ⟨w.heap.size, 0, none⟩ = some (.int .i64 26) := (Lib.cell_of_heap hb2 0).trans rfl
  have k1 : w2.cell? ⟨w.heap.size, 1, none⟩ = some (.int .i64 o) := (Lib.cell_of_heap hb2 1).trans rfl
  have k2 : w2.cell? ⟨w.heap.size, 2, none⟩ = some (.string nm) := (Lib.cell_of_heap hb2 2).trans rfl
  have k3 : w2.cell? ⟨w.heap.size, 3, none⟩ = some (v1) := (Lib.cell_of_heap hb2 3).trans rfl
  have k4 : w2.cell? ⟨w.heap.size, 4, none⟩ = some (v2) := (Lib.cell_of_heap hb2 4).trans rfl
  have k5 : w2.cell? ⟨w.heap.size, 5, none⟩ = some (.slice (some ⟨b, off, none⟩) 1 ck) := (Lib.cell_of_heap hb2 5).trans rfl
  have k6 : w2.cell? ⟨w.heap.size, 6, none⟩ = some (.int .i64 ps) := (Lib.cell_of_heap hb2 6).trans rfl
  clear hb2
  obtain ⟨aw, vw, hw⟩ := H2.out.wr
  have c4 : w2.cell? ⟨p, 4, none⟩ = some (.string G.power) := hw.all.1.2.1
  have hplt := hw.lt
  have hblt := lt_heap HB2.out
  have HBX : Hid (∀ W, Below w2.heap.size w2 W → W.heap[w.heap.size]? = some (.cells (sv 26 o nm v1 v2 (.slice (some ⟨b, off, none⟩) 1 ck) ps) 42 (0, 0))) := hide fun W hW => (hW.block _ hblt).trans HB2.out
  have KS : Hid (∀ W, Below w2.heap.size w2 W → W.cell? ⟨p, 4, none⟩ = some (.string G.power) ∧ W.cell? ⟨w.heap.size, 1, none⟩ = some (.int .i64 o)) := hide fun W hW => ⟨(hW.cell (p := ⟨p, 4, none⟩) hplt).trans c4, (hW.cell (p := ⟨w.heap.size, 1, none⟩) hblt).trans k1⟩
  have HST : Hid (∀ W, Below w2.heap.size w2 W → St w0 B W p G rt true (out ++ (sep bg ++ FT))) := hide fun W hW => H2.out.next hW
  have HKW : Hid (∀ W, Below w2.heap.size w2 W → Wk B p w W) := hide fun W hW => HK2.out.trans (H2.out.wkn hW)
  have HLB : Hid ((out ++ (sep bg ++ FT)).length + G.power.size + (str NT).size ≤ 140737488355328) := hide (by simp only [List.length_append, hsn]; omega)
  have HD0 : Hid (Below w2.heap.size w2 w2.drew) := hide ((Below.refl w2.heap.size w2).drew)
  have HQ := hide hql
  clear hw c4 k0 k1 k2 k3 k4 k5 k6 HK2 H2 HB2 hse hl
  go_upto_region 13 with fail
  go_region_held3 (fun W => W.cell? ⟨p, 4, none⟩ = some (.string G.power) ∧ W.cell? ⟨w.heap.size, 1, none⟩ = some (.int .i64 o)) (first | with_reducible exact KS.out _ HD0.out | with_reducible exact KS.out _ (by with_reducible assumption) | with_reducible assumption) (first | (go_at_call 97; refine (number60 (HST.out _ HD0.out) o ho).mono ?_; rintro e w3 ⟨rfl, hb3⟩; rw [HNT.out]; have hb4 := HD0.out.trans (hb3.mono HD0.out.size); have hb5 := hb4.alloc hb4.size (.cells #[.string G.power, .string (str NT)] 9)) | (go_at_call 88; refine ((HST.out _ hb4).glue2 G.power (str NT) HLB.out).mono ?_; rintro e w4 ⟨rfl, hx4, hk4⟩; have hs4 := And.intro (show w4.cell? ⟨p, 4, none⟩ = some (.string G.power) from (by obtain ⟨a, v, h9⟩ := hx4; exact h9.all.1.2.1)) (show w4.cell? ⟨w.heap.size, 1, none⟩ = some (.int .i64 o) from (Lib.cell_of_heap (hk4.box (HBX.out _ hb4) HQ.out (by decide)) 1).trans rfl)))
  have HF9 := hide (And.intro hx4 ((HKW.out _ hb4).trans hk4))
  clear hx4 hk4 hb3 hb4 hb5 hs4
  go_wp2
  go_end0
  refine ⟨rfl, ?_, HF9.out.2⟩
  have hx := HF9.out.1
  simpa [hbn, List.append_assoc] using hx
set_option maxHeartbeats 4000000 in
theorem fun25 {n m : Nat} {w0 : World} {B p : Nat} {G : Gs} (IF : CF n m w0 B p G) (IE : CE n m w0 B p G) (rt : ByteArray) (bg : Bool) (out : List UInt8) (w : World) (x : Nd) (v : Value) (hx : NdIn (m + 1) n 0 w0 x v) (hk : okN (m + 1) true x) (hs : sndA x) (h : St w0 B w p G rt bg out) (hK : x.kind = 25) (hl : out.length + 1 + (fnT G (TX G m) x).length ≤ 140737488355328) :
    Calls Tryz.prog 98 #[.pointer (some ⟨p, 0, none⟩), v] w (GvT B p G rt true (out ++ (sep bg ++ fnT G (TX G m) x)) w) := by
  have hx0 := hx
  have hk0 := hk
  obtain ⟨v1, v2, ak, ck, rfl, hv1, -, hkid⟩ := nd_kids hx
  have hse := sep_le bg
  have hT : fnT G (TX G m) x = outT G (TX G m) (kp x 0) := by simp [fnT, hK, outT]
  have hkl : x.kids.length = 1 := by have := hk.1; rw [hK] at this; unfold arK at this; simp at this; first | omega | (rw [this]; rfl)
  rw [hT] at hl ⊢
  obtain ⟨b, off, u1, u2, u3, rfl, hnk, h7⟩ := hkid 0 (by omega)
  have hok := hk.2.2.2 0 (by omega)
  rw [show fnP x.kind 0 = true by rw [hK]; rfl] at hok
  have hsk := hs.kid (i := 0) (by omega)
  have H7 : Hid (∀ W, Below w0.heap.size w0 W → Sv7 W b off (kp x 0).kind (kp x 0).op (kp x 0).name u1 u2 u3 (kp x 0).pos) := hide (by simpa only [Nat.zero_mul, Nat.add_zero] using h7)
  have HF := hide (fun bg out w (hst : St w0 B w p G rt bg out) hl => outer77 IF rt bg out w (kp x 0) _ hnk hok hsk hst hl)
  rw [hK, hkl]
  obtain ⟨FT, hFT⟩ : ∃ FT, outT G (TX G m) (kp x 0) = FT := ⟨_, rfl⟩
  rw [hFT] at HF hl ⊢
  generalize (kp x 0).kind = k' at *
  generalize (kp x 0).op = o' at *
  generalize (kp x 0).name = nm' at *
  generalize (kp x 0).pos = ps' at *
  generalize x.op = o at *
  generalize x.name = nm at *
  generalize x.pos = ps at *
  clear hx hk hs IF IE hkid hT hkl hK hx0 hk0 hFT hnk h7 hok hsk
  obtain ⟨W1, hW1⟩ : ∃ W1, w.alloc (.cells (sv (25) (o) nm (v1) (v2) (.slice (some ⟨b, off, none⟩) 1 ck) (ps)) 42) = W1 := ⟨_, rfl⟩
  have hb1 : Below w.heap.size w W1 := by rw [← hW1]; exact alloc_one _ _
  have s1 : W1.heap.size = w.heap.size + 1 := by rw [← hW1]; simp
  have hbx : W1.heap[w.heap.size]? = some (.cells (sv (25) (o) nm (v1) (v2) (.slice (some ⟨b, off, none⟩) 1 ck) (ps)) 42 (0, 0)) := by rw [← hW1]; exact heap_alloc_new w _
  have hql : w.heap.size ≠ p := Nat.ne_of_gt h.lt
  have H1 := hide (h.next hb1)
  have HK1 := hide (h.wkn hb1)
  have HB1 := hide hbx
  have k0 : W1.cell? ⟨w.heap.size, 0, none⟩ = some (.int .i64 25) := (Lib.cell_of_heap hbx 0).trans rfl
  have k1 : W1.cell? ⟨w.heap.size, 1, none⟩ = some (.int .i64 o) := (Lib.cell_of_heap hbx 1).trans rfl
  have k2 : W1.cell? ⟨w.heap.size, 2, none⟩ = some (.string nm) := (Lib.cell_of_heap hbx 2).trans rfl
  have k3 : W1.cell? ⟨w.heap.size, 3, none⟩ = some (v1) := (Lib.cell_of_heap hbx 3).trans rfl
  have k4 : W1.cell? ⟨w.heap.size, 4, none⟩ = some (v2) := (Lib.cell_of_heap hbx 4).trans rfl
  have k5 : W1.cell? ⟨w.heap.size, 5, none⟩ = some (.slice (some ⟨b, off, none⟩) 1 ck) := (Lib.cell_of_heap hbx 5).trans rfl
  have k6 : W1.cell? ⟨w.heap.size, 6, none⟩ = some (.int .i64 ps) := (Lib.cell_of_heap hbx 6).trans rfl
  clear hb1 hbx
  have HC := hide (HF.out bg out W1 H1.out hl)
  obtain ⟨y0, y1, y2, y3, y4, y5, y6⟩ := H7.out W1 H1.out.old
  clear h HF
  go_enter Tryz.func98, Tryz.ntmps98
  go_wp2_with fail
  refine HC.out.mono ?_
  rintro e w9 ⟨rfl, hx9, hk9⟩
  have HF9 := hide (And.intro hx9 (HK1.out.trans hk9))
  clear hx9 hk9 HC 
  go_wp2
  go_end0
  refine ⟨rfl, ?_, HF9.out.2⟩
  have hx := HF9.out.1
  simpa [sep, rdT, bL, str, List.append_assoc] using hx
set_option maxHeartbeats 4000000 in
theorem fun27 {n m : Nat} {w0 : World} {B p : Nat} {G : Gs} (IF : CF n m w0 B p G) (IE : CE n m w0 B p G) (rt : ByteArray) (bg : Bool) (out : List UInt8) (w : World) (x : Nd) (v : Value) (hx : NdIn (m + 1) n 0 w0 x v) (hk : okN (m + 1) true x) (hs : sndA x) (h : St w0 B w p G rt bg out) (hK : x.kind = 27) (hl : out.length + 1 + (fnT G (TX G m) x).length ≤ 140737488355328) :
    Calls Tryz.prog 98 #[.pointer (some ⟨p, 0, none⟩), v] w (GvT B p G rt true (out ++ (sep bg ++ fnT G (TX G m) x)) w) := by
  have hx0 := hx
  have hk0 := hk
  obtain ⟨v1, v2, ak, ck, rfl, hv1, -, hkid⟩ := nd_kids hx
  have hse := sep_le bg
  have hT : fnT G (TX G m) x = 40 :: (trT (TX G m).F x 3 ++ [32, 41]) := by simp [fnT, hK, trT, rdT, List.range, List.range.loop]
  have hkl : x.kids.length = 3 := by have := hk.1; rw [hK] at this; unfold arK at this; simp at this; first | omega | (rw [this]; rfl)
  rw [hT] at hl ⊢
  have HL := hide (fun W (hst : St w0 B W p G rt bg out) hl => train78 IF rt bg out W x ak 3 ck (by omega) (fun j hj => hkid j (by omega)) (fun j hj => by
    have h9 := hk.2.2.2 j (by omega)
    rw [show fnP x.kind j = true by rw [hK]; rfl] at h9
    exact h9) (fun j hj => hs.kid (by omega)) hst hl)
  rw [hK, hkl]
  obtain ⟨LT, hLT⟩ : ∃ LT, trT (TX G m).F x 3 = LT := ⟨_, rfl⟩
  rw [hLT] at HL hl ⊢
  simp only [List.length_append, List.length_cons, List.length_nil] at hl
  generalize x.op = o at *
  generalize x.name = nm at *
  generalize x.pos = ps at *
  clear hx hk hs IF IE hkid hT hkl hK hx0 hk0 hLT
  obtain ⟨W1, hW1⟩ : ∃ W1, w.alloc (.cells (sv (27) (o) nm (v1) (v2) (.slice ak 3 ck) (ps)) 42) = W1 := ⟨_, rfl⟩
  have hb1 : Below w.heap.size w W1 := by rw [← hW1]; exact alloc_one _ _
  have s1 : W1.heap.size = w.heap.size + 1 := by rw [← hW1]; simp
  have hbx : W1.heap[w.heap.size]? = some (.cells (sv (27) (o) nm (v1) (v2) (.slice ak 3 ck) (ps)) 42 (0, 0)) := by rw [← hW1]; exact heap_alloc_new w _
  have hql : w.heap.size ≠ p := Nat.ne_of_gt h.lt
  have H1 := hide (h.next hb1)
  have HK1 := hide (h.wkn hb1)
  have HB1 := hide hbx
  have k0 : W1.cell? ⟨w.heap.size, 0, none⟩ = some (.int .i64 27) := (Lib.cell_of_heap hbx 0).trans rfl
  have k1 : W1.cell? ⟨w.heap.size, 1, none⟩ = some (.int .i64 o) := (Lib.cell_of_heap hbx 1).trans rfl
  have k2 : W1.cell? ⟨w.heap.size, 2, none⟩ = some (.string nm) := (Lib.cell_of_heap hbx 2).trans rfl
  have k3 : W1.cell? ⟨w.heap.size, 3, none⟩ = some (v1) := (Lib.cell_of_heap hbx 3).trans rfl
  have k4 : W1.cell? ⟨w.heap.size, 4, none⟩ = some (v2) := (Lib.cell_of_heap hbx 4).trans rfl
  have k5 : W1.cell? ⟨w.heap.size, 5, none⟩ = some (.slice ak 3 ck) := (Lib.cell_of_heap hbx 5).trans rfl
  have k6 : W1.cell? ⟨w.heap.size, 6, none⟩ = some (.int .i64 ps) := (Lib.cell_of_heap hbx 6).trans rfl
  clear hb1 hbx
  have HC := hide (HL.out W1 H1.out (by omega))
  clear h HL
  go_enter Tryz.func98, Tryz.ntmps98
  go_wp2_with fail
  refine HC.out.mono ?_
  rintro e w9 ⟨rfl, hx9, hk9⟩
  have HF9 := hide (And.intro hx9 (HK1.out.trans hk9))
  clear hx9 hk9 HC 
  go_wp2
  go_end0
  refine ⟨rfl, ?_, HF9.out.2⟩
  have hx := HF9.out.1
  simpa [sep, rdT, bL, str, List.append_assoc] using hx
set_option maxHeartbeats 4000000 in
theorem fun28 {n m : Nat} {w0 : World} {B p : Nat} {G : Gs} (IF : CF n m w0 B p G) (IE : CE n m w0 B p G) (rt : ByteArray) (bg : Bool) (out : List UInt8) (w : World) (x : Nd) (v : Value) (hx : NdIn (m + 1) n 0 w0 x v) (hk : okN (m + 1) true x) (hs : sndA x) (h : St w0 B w p G rt bg out) (hK : x.kind = 28) (hl : out.length + 1 + (fnT G (TX G m) x).length ≤ 140737488355328) :
    Calls Tryz.prog 98 #[.pointer (some ⟨p, 0, none⟩), v] w (GvT B p G rt true (out ++ (sep bg ++ fnT G (TX G m) x)) w) := by
  have hx0 := hx
  have hk0 := hk
  obtain ⟨v1, v2, ak, ck, rfl, hv1, -, hkid⟩ := nd_kids hx
  have hse := sep_le bg
  have hT : fnT G (TX G m) x = 40 :: (trT (TX G m).F x 2 ++ [32, 41]) := by simp [fnT, hK, trT, rdT, List.range, List.range.loop]
  have hkl : x.kids.length = 2 := by have := hk.1; rw [hK] at this; unfold arK at this; simp at this; first | omega | (rw [this]; rfl)
  rw [hT] at hl ⊢
  have HL := hide (fun W (hst : St w0 B W p G rt bg out) hl => train78 IF rt bg out W x ak 2 ck (by omega) (fun j hj => hkid j (by omega)) (fun j hj => by
    have h9 := hk.2.2.2 j (by omega)
    rw [show fnP x.kind j = true by rw [hK]; rfl] at h9
    exact h9) (fun j hj => hs.kid (by omega)) hst hl)
  rw [hK, hkl]
  obtain ⟨LT, hLT⟩ : ∃ LT, trT (TX G m).F x 2 = LT := ⟨_, rfl⟩
  rw [hLT] at HL hl ⊢
  simp only [List.length_append, List.length_cons, List.length_nil] at hl
  generalize x.op = o at *
  generalize x.name = nm at *
  generalize x.pos = ps at *
  clear hx hk hs IF IE hkid hT hkl hK hx0 hk0 hLT
  obtain ⟨W1, hW1⟩ : ∃ W1, w.alloc (.cells (sv (28) (o) nm (v1) (v2) (.slice ak 2 ck) (ps)) 42) = W1 := ⟨_, rfl⟩
  have hb1 : Below w.heap.size w W1 := by rw [← hW1]; exact alloc_one _ _
  have s1 : W1.heap.size = w.heap.size + 1 := by rw [← hW1]; simp
  have hbx : W1.heap[w.heap.size]? = some (.cells (sv (28) (o) nm (v1) (v2) (.slice ak 2 ck) (ps)) 42 (0, 0)) := by rw [← hW1]; exact heap_alloc_new w _
  have hql : w.heap.size ≠ p := Nat.ne_of_gt h.lt
  have H1 := hide (h.next hb1)
  have HK1 := hide (h.wkn hb1)
  have HB1 := hide hbx
  have k0 : W1.cell? ⟨w.heap.size, 0, none⟩ = some (.int .i64 28) := (Lib.cell_of_heap hbx 0).trans rfl
  have k1 : W1.cell? ⟨w.heap.size, 1, none⟩ = some (.int .i64 o) := (Lib.cell_of_heap hbx 1).trans rfl
  have k2 : W1.cell? ⟨w.heap.size, 2, none⟩ = some (.string nm) := (Lib.cell_of_heap hbx 2).trans rfl
  have k3 : W1.cell? ⟨w.heap.size, 3, none⟩ = some (v1) := (Lib.cell_of_heap hbx 3).trans rfl
  have k4 : W1.cell? ⟨w.heap.size, 4, none⟩ = some (v2) := (Lib.cell_of_heap hbx 4).trans rfl
  have k5 : W1.cell? ⟨w.heap.size, 5, none⟩ = some (.slice ak 2 ck) := (Lib.cell_of_heap hbx 5).trans rfl
  have k6 : W1.cell? ⟨w.heap.size, 6, none⟩ = some (.int .i64 ps) := (Lib.cell_of_heap hbx 6).trans rfl
  clear hb1 hbx
  have HC := hide (HL.out W1 H1.out (by omega))
  clear h HL
  go_enter Tryz.func98, Tryz.ntmps98
  go_wp2_with fail
  refine HC.out.mono ?_
  rintro e w9 ⟨rfl, hx9, hk9⟩
  have HF9 := hide (And.intro hx9 (HK1.out.trans hk9))
  clear hx9 hk9 HC 
  go_wp2
  go_end0
  refine ⟨rfl, ?_, HF9.out.2⟩
  have hx := HF9.out.1
  simpa [sep, rdT, bL, str, List.append_assoc] using hx
theorem fun_step {n m : Nat} {w0 : World} {B p : Nat} {G : Gs} (IF : CF n m w0 B p G) (IE : CE n m w0 B p G) : CF n (m + 1) w0 B p G := by
  intro rt bg out w x v hx hk hs h hl
  have h21 : 21 ≤ x.kind := by have := hk.2.1; simpa using this.symm
  have hkn : x.kind = 21 ∨ x.kind = 22 ∨ x.kind = 23 ∨ x.kind = 24 ∨ x.kind = 25 ∨ x.kind = 26 ∨ x.kind = 27 ∨ x.kind = 28 := by
    have h1 := hk.1
    unfold arK at h1
    repeat' split at h1
    all_goals omega
  rcases hkn with hK | hK | hK | hK | hK | hK | hK | hK
  · exact fun21 IF IE rt bg out w x v hx hk hs h hK hl
  · exact fun22 IF IE rt bg out w x v hx hk hs h hK hl
  · exact fun23 IF IE rt bg out w x v hx hk hs h hK hl
  · exact fun24 IF IE rt bg out w x v hx hk hs h hK hl
  · exact fun25 IF IE rt bg out w x v hx hk hs h hK hl
  · exact fun26 IF IE rt bg out w x v hx hk hs h hK hl
  · exact fun27 IF IE rt bg out w x v hx hk hs h hK hl
  · exact fun28 IF IE rt bg out w x v hx hk hs h hK hl
end Go.Proofs.YtneblkdkhlgmcaaGreatDoor
namespace Go.Proofs.YtneblkdkhlgmcaaGreatDoor
open Go.ChangeShapes Go.WideShapes Go.ChangeAt Go.RowKit
open Rn (Good Byte enc put)
set_option maxRecDepth 100000
set_option linter.unusedVariables false
set_option linter.unusedSimpArgs false
theorem chk_good {x : Ar} (h : chkA 8 x = 0) (i : Nat) (hi : i < x.cells.length) (hk : (cAt x.cells i).1 = 1) : Good (cAt x.cells i).2.1 := by
  change chkB (chkA 7) x = 0 at h
  unfold chkB at h
  split at h
  · omega
  split at h
  · omega
  split at h
  · omega
  have h1 := firstUp_zero h (i + 1) hi
  have h2 := firstUp_zero h i (by omega)
  rw [firstUp_step h2] at h1
  unfold chkF chkC at h1
  rw [if_neg (by omega)] at h1
  split at h1
  · rename_i h3
    rcases h3.2 with h4 | h4
    · omega
    · exact h4.2
  · omega
theorem lit_good {x : Ar} (h : litB x = true) (ht : txB x = true) : ∀ i, i < x.cells.length → Good (cAt x.cells i).2.1 := by
  intro i hi
  unfold litB at h
  simp only [Bool.and_eq_true, Bool.or_eq_true, decide_eq_true_eq] at h
  unfold txB at ht
  simp only [Bool.or_eq_true, decide_eq_true_eq] at ht
  have h0 : (cAt x.cells 0).1 = 1 := ht.resolve_left (by omega)
  have hp : allC plC x.cells = true := by
    rcases h.1.2 with h1 | h1
    · have := allC_iff.1 h1 0 (by omega)
      unfold numC at this
      rw [h0] at this
      cases this
    · exact h1
  have h2 := allC_iff.1 hp i hi
  unfold plC at h2
  simp only [Bool.and_eq_true, decide_eq_true_eq] at h2
  exact chk_good h.2 i hi h2.1
/-- What Literal tells. -/
def litE (x : Ar) : Int := if litB x then 0 else 1
def litS (G : Gs) (x : Ar) : List UInt8 := if litB x then litT G x else []
theorem lit15 {n lo : Nat} {x : Ar} {va : Value} {G : Gs} {w : World} (hx : ArIn n lo w x va) (hl : x.cells.length ≤ 100000) (h64 : ∀ i, i < x.cells.length → I64 (cAt x.cells i).2.1) (hm : G.minus.size ≤ 1000000) (hq : G.quote.size ≤ 1000000) (T : Rn.Tab w) (P : Pw w) :
    Calls Tryz.prog 9 #[va, gV G] w fun e w' => e = .returned (.tuple #[.string (str (litS G x)), .int .i64 (litE x)]) ∧ Below w.heap.size w w' := by
  have HL := hide (fun wr (hw : Below w.heap.size w wr) => lit17 x va wr (hx.next hw))
  have HT := hide (fun (h : litB x = true) wr (hw : Below w.heap.size w wr) => literal34 (hx.next hw) hl (lit_good h) h64 hm hq (T.below hw T.1) (Lib.tabBelow_of_tabIs P _ hw))
  cases n with
  | zero => exact hx.elim
  | succ n =>
  obtain ⟨a1, c1, a2, c2, rfl, -⟩ := hx
  obtain ⟨L, hL⟩ : ∃ L, x.cells.length = L := ⟨_, rfl⟩
  obtain ⟨SL, hSL⟩ : ∃ SL, x.shape.length = SL := ⟨_, rfl⟩
  rw [hL, hSL] at HL HT ⊢
  obtain ⟨W2, hW2⟩ : ∃ W2, (w.alloc (.cells #[.slice a1 SL c1, .slice a2 L c2] 25)).alloc (.cells #[G.s1, G.s2, G.s3, .string G.outer, .string G.power, .string G.opn, .string G.cls, .string G.left, .string G.right, .string G.minus, .string G.quote, .bool G.trains, .bool G.lone, .bool G.square] 30) = W2 := ⟨_, rfl⟩
  have hb2 : Below w.heap.size w W2 := by rw [← hW2]; exact two_allocs _ _ _
  have s2 : W2.heap.size = w.heap.size + 2 := by rw [← hW2]; simp
  have hA : W2.heap[w.heap.size]? = some (.cells #[.slice a1 SL c1, .slice a2 L c2] 25 (0, 0)) := by
    rw [← hW2]; exact (Lib.alloc_old _ _ w.heap.size (by simp)).trans (heap_alloc_new w _)
  have hGb : W2.heap[w.heap.size + 1]? = some (.cells #[G.s1, G.s2, G.s3, .string G.outer, .string G.power, .string G.opn, .string G.cls, .string G.left, .string G.right, .string G.minus, .string G.quote, .bool G.trains, .bool G.lone, .bool G.square] 30 (0, 0)) := by
    have h := heap_alloc_new (w.alloc (.cells #[.slice a1 SL c1, .slice a2 L c2] 25)) (.cells #[G.s1, G.s2, G.s3, .string G.outer, .string G.power, .string G.opn, .string G.cls, .string G.left, .string G.right, .string G.minus, .string G.quote, .bool G.trains, .bool G.lone, .bool G.square] 30)
    have e : (w.alloc (.cells #[.slice a1 SL c1, .slice a2 L c2] 25)).heap.size = w.heap.size + 1 := by simp
    rw [e] at h
    rw [← hW2]; exact h
  have HB2 := hide hb2
  have HA := hide hA
  have HGB := hide hGb
  have a0 : W2.cell? ⟨w.heap.size, 0, none⟩ = some (.slice a1 SL c1) := (Lib.cell_of_heap hA 0).trans rfl
  have a1' : W2.cell? ⟨w.heap.size, 1, none⟩ = some (.slice a2 L c2) := (Lib.cell_of_heap hA 1).trans rfl
  have HZ : Hid ((litB x = true → litE x = 0 ∧ litS G x = litT G x) ∧ (litB x = false → litE x = 1 ∧ litS G x = [])) := hide (by
    unfold litE litS
    constructor <;> intro h <;> rw [h] <;> exact ⟨rfl, rfl⟩)
  obtain ⟨Z, hZ⟩ : ∃ Z, litB x = Z := ⟨_, rfl⟩
  rw [hZ] at HL HT HZ
  obtain ⟨LE, hLE⟩ : ∃ LE, litE x = LE := ⟨_, rfl⟩
  obtain ⟨LS, hLS⟩ : ∃ LS, litS G x = LS := ⟨_, rfl⟩
  rw [hLE, hLS] at HZ ⊢
  clear hLE hLS hZ
  unfold gV at *
  go_enter Tryz.func9, Tryz.ntmps9
  go_upto_region 1 with fail
  try rw [hW2]
  clear hW2 hA hGb hb2
  go_wp2_with fail
  refine (HL.out W2 HB2.out).mono ?_
  rintro e w3 ⟨rfl, hb3⟩
  have HB3 := hide (HB2.out.trans (hb3.mono HB2.out.size))
  have b0 : w3.heap[w.heap.size]? = _ := (hb3.block w.heap.size (by omega)).trans HA.out
  have b1 : w3.heap[w.heap.size + 1]? = _ := (hb3.block (w.heap.size + 1) (by omega)).trans HGB.out
  cases Z with
  | false =>
    obtain ⟨rfl, rfl⟩ := HZ.out.2 rfl
    clear a0 a1' hb3 HL HT b0 b1
    go_wp2
    go_ret2
    exact ⟨rfl, HB3.out⟩
  | true =>
    obtain ⟨rfl, rfl⟩ := HZ.out.1 rfl
    have k0 : w3.cell? ⟨w.heap.size, 0, none⟩ = some (.slice a1 SL c1) := (Lib.cell_of_heap b0 0).trans rfl
    have k1 : w3.cell? ⟨w.heap.size, 1, none⟩ = some (.slice a2 L c2) := (Lib.cell_of_heap b0 1).trans rfl
    have gc : ∀ k v, (#[G.s1, G.s2, G.s3, .string G.outer, .string G.power, .string G.opn, .string G.cls, .string G.left, .string G.right, .string G.minus, .string G.quote, .bool G.trains, .bool G.lone, .bool G.square] : Array Value)[k]? = some v → w3.cell? ⟨w.heap.size + 1, k, none⟩ = some v := fun k v hk => (Lib.cell_of_heap b1 k).trans hk
    have g0 := gc 0 _ rfl
    have g1 := gc 1 _ rfl
    have g2 := gc 2 _ rfl
    have g3 := gc 3 _ rfl
    have g4 := gc 4 _ rfl
    have g5 := gc 5 _ rfl
    have g6 := gc 6 _ rfl
    have g7 := gc 7 _ rfl
    have g8 := gc 8 _ rfl
    have g9 := gc 9 _ rfl
    have g10 := gc 10 _ rfl
    have g11 := gc 11 _ rfl
    have g12 := gc 12 _ rfl
    have g13 := gc 13 _ rfl
    have HC := hide (HT.out rfl w3 HB3.out)
    clear a0 a1' hb3 HL HT b0 b1 gc
    go_wp2_with fail
    refine HC.out.mono ?_
    rintro e w4 ⟨rfl, hb4⟩
    go_wp2
    go_ret2
    exact ⟨rfl, HB3.out.trans (hb4.mono HB3.out.size)⟩
end Go.Proofs.YtneblkdkhlgmcaaGreatDoor
namespace Go.Proofs.YtneblkdkhlgmcaaGreatDoor
open Go.ChangeShapes Go.WideShapes Go.ChangeAt Go.RowKit
set_option maxRecDepth 100000
set_option linter.unusedVariables false
set_option linter.unusedSimpArgs false
/-- What the writer of an expression that is a call promises. -/
def CA (n m : Nat) (w0 : World) (B p : Nat) (G : Gs) : Prop := ∀ (rt : ByteArray) (bg : Bool) (out : List UInt8) (w : World) (x : Nd) (v : Value), NdIn (m + 1) n 0 w0 x v → okN (m + 1) false x → sndA x → St w0 B w p G rt bg out → (x.kind = 5 ∨ x.kind = 6) → out.length + 1 + (exA G (TX G m) rt x).length ≤ 140737488355328 →
  Calls Tryz.prog 34 #[.pointer (some ⟨p, 0, none⟩), v] w (GvT B p G rt true (out ++ (sep bg ++ exA G (TX G m) rt x)) w)
set_option maxHeartbeats 4000000 in
theorem ex5 {n m : Nat} {w0 : World} {B p : Nat} {G : Gs} (IF : CF n m w0 B p G) (IE : CE n m w0 B p G) (IO : CO n m w0 B p G) (rt : ByteArray) (bg : Bool) (out : List UInt8) (w : World) (x : Nd) (v : Value) (hx : NdIn (m + 1) n 0 w0 x v) (hk : okN (m + 1) false x) (hs : sndA x) (h : St w0 B w p G rt bg out) (hK : x.kind = 5) (hl : out.length + 1 + (exA G (TX G m) rt x).length ≤ 140737488355328) :
    Calls Tryz.prog 34 #[.pointer (some ⟨p, 0, none⟩), v] w (GvT B p G rt true (out ++ (sep bg ++ exA G (TX G m) rt x)) w) := by
  have hx0 := hx
  have hk0 := hk
  obtain ⟨v1, v2, ak, ck, rfl, hv1, hlit, hkid⟩ := nd_kids hx
  have hse := sep_le bg
  have hT : exA G (TX G m) rt x = oneT G (TX G m) (kp x 0) ++ ([32] ++ (TX G m).E rt (kp x 1)) := by simp [exA, opT, hK]
  have hkl : x.kids.length = 2 := by have := hk.1; rw [hK] at this; unfold arK at this; simp at this; first | omega | (rw [this]; rfl)
  rw [hT] at hl ⊢
  obtain ⟨b, off, p01, p02, p03, rfl, hn0, z0⟩ := hkid 0 (by omega)
  have ho0 := hk.2.2.2 0 (by omega)
  rw [show fnP x.kind 0 = true by rw [hK]; rfl] at ho0
  have hs0 := hs.kid (i := 0) (by omega)
  have Z0 : Hid (∀ W, Below w0.heap.size w0 W → Sv7 W b (off) (kp x 0).kind (kp x 0).op (kp x 0).name p01 p02 p03 (kp x 0).pos) := hide (by simpa only [Nat.zero_mul, Nat.add_zero] using z0)
  obtain ⟨b1, off1, p11, p12, p13, he1, hn1, z1⟩ := hkid 1 (by omega)
  cases he1
  have ho1 := hk.2.2.2 1 (by omega)
  rw [show fnP x.kind 1 = false by rw [hK]; rfl] at ho1
  have hs1 := hs.kid (i := 1) (by omega)
  have Z1 : Hid (∀ W, Below w0.heap.size w0 W → Sv7 W b (off + 7) (kp x 1).kind (kp x 1).op (kp x 1).name p11 p12 p13 (kp x 1).pos) := hide (by exact z1)
  have HF := hide (fun bg out w (hst : St w0 B w p G rt bg out) hl => one39 IF rt bg out w (kp x 0) _ hn0 ho0 hs0 hst hl)
  have HE := hide (fun bg out w (hst : St w0 B w p G rt bg out) hl => IE rt bg out w (kp x 1) _ hn1 ho1 hs1 hst hl)
  rw [hK, hkl]
  obtain ⟨FT, hFT⟩ : ∃ FT, oneT G (TX G m) (kp x 0) = FT := ⟨_, rfl⟩
  rw [hFT] at HF hl ⊢
  obtain ⟨ET, hET⟩ : ∃ ET, (TX G m).E rt (kp x 1) = ET := ⟨_, rfl⟩
  rw [hET] at HE hl ⊢
  generalize (kp x 0).kind = qk0 at *
  generalize (kp x 0).op = qo0 at *
  generalize (kp x 0).name = qn0 at *
  generalize (kp x 0).pos = qp0 at *
  generalize (kp x 1).kind = qk1 at *
  generalize (kp x 1).op = qo1 at *
  generalize (kp x 1).name = qn1 at *
  generalize (kp x 1).pos = qp1 at *
  generalize x.op = o at *
  generalize x.name = nm at *
  generalize x.pos = ps at *
  simp only [List.length_append, List.length_cons, List.length_nil] at hl
  clear hx hk hs IF IE IO hkid hT hkl hK hx0 hk0 hlit hFT hET hn0 hn1 z0 z1 ho0 ho1 hs0 hs1
  obtain ⟨W1, hW1⟩ : ∃ W1, w.alloc (.cells (sv (5) (o) nm (v1) (v2) (.slice (some ⟨b, off, none⟩) 2 ck) (ps)) 42) = W1 := ⟨_, rfl⟩
  have hb1 : Below w.heap.size w W1 := by rw [← hW1]; exact alloc_one _ _
  have s1 : W1.heap.size = w.heap.size + 1 := by rw [← hW1]; simp
  have hbx : W1.heap[w.heap.size]? = some (.cells (sv (5) (o) nm (v1) (v2) (.slice (some ⟨b, off, none⟩) 2 ck) (ps)) 42 (0, 0)) := by rw [← hW1]; exact heap_alloc_new w _
  have hql : w.heap.size ≠ p := Nat.ne_of_gt h.lt
  have H1 := hide (h.next hb1)
  have HK1 := hide (h.wkn hb1)
  have HB1 := hide hbx
  have k0 : W1.cell? ⟨w.heap.size, 0, none⟩ = some (.int .i64 5) := (Lib.cell_of_heap hbx 0).trans rfl
  have k1 : W1.cell? ⟨w.heap.size, 1, none⟩ = some (.int .i64 o) := (Lib.cell_of_heap hbx 1).trans rfl
  have k2 : W1.cell? ⟨w.heap.size, 2, none⟩ = some (.string nm) := (Lib.cell_of_heap hbx 2).trans rfl
  have k3 : W1.cell? ⟨w.heap.size, 3, none⟩ = some (v1) := (Lib.cell_of_heap hbx 3).trans rfl
  have k4 : W1.cell? ⟨w.heap.size, 4, none⟩ = some (v2) := (Lib.cell_of_heap hbx 4).trans rfl
  have k5 : W1.cell? ⟨w.heap.size, 5, none⟩ = some (.slice (some ⟨b, off, none⟩) 2 ck) := (Lib.cell_of_heap hbx 5).trans rfl
  have k6 : W1.cell? ⟨w.heap.size, 6, none⟩ = some (.int .i64 ps) := (Lib.cell_of_heap hbx 6).trans rfl
  clear hb1 hbx
  have HC := hide (HF.out bg out W1 H1.out (by omega))
  obtain ⟨y0, y1, y2, y3, y4, y5, y6⟩ := Z0.out W1 H1.out.old
  clear h HF
  go_enter Tryz.func34, Tryz.ntmps34
  go_wp2_with fail
  refine HC.out.mono ?_
  rintro e w2 g2
  have H2 := hide (H1.out.got g2)
  have HK2 := hide (HK1.out.trans g2.2.2)
  have hb2 := g2.2.2.box HB1.out hql (by decide)
  have HB2 := hide hb2
  obtain rfl := g2.1
  clear g2 HC k0 k1 k2 k3 k4 k5 k6 y0 y1 y2 y3 y4 y5 y6
  have k0 : w2.cell? ⟨w.heap.size, 0, none⟩ = some (.int .i64 5) := (Lib.cell_of_heap hb2 0).trans rfl
  have k1 : w2.cell? ⟨w.heap.size, 1, none⟩ = some (.int .i64 o) := (Lib.cell_of_heap hb2 1).trans rfl
  have k2 : w2.cell? ⟨w.heap.size, 2, none⟩ = some (.string nm) := (Lib.cell_of_heap hb2 2).trans rfl
  have k3 : w2.cell? ⟨w.heap.size, 3, none⟩ = some (v1) := (Lib.cell_of_heap hb2 3).trans rfl
  have k4 : w2.cell? ⟨w.heap.size, 4, none⟩ = some (v2) := (Lib.cell_of_heap hb2 4).trans rfl
  have k5 : w2.cell? ⟨w.heap.size, 5, none⟩ = some (.slice (some ⟨b, off, none⟩) 2 ck) := (Lib.cell_of_heap hb2 5).trans rfl
  have k6 : w2.cell? ⟨w.heap.size, 6, none⟩ = some (.int .i64 ps) := (Lib.cell_of_heap hb2 6).trans rfl
  clear hb2
  obtain ⟨y0, y1, y2, y3, y4, y5, y6⟩ := Z1.out w2 H2.out.old
  have HC := hide (HE.out true _ w2 H2.out (by simp only [List.length_append]; omega))
  go_wp2_with fail
  refine HC.out.mono ?_
  rintro e w9 ⟨rfl, hx9, hk9⟩
  have HF9 := hide (And.intro hx9 (HK2.out.trans hk9))
  clear hx9 hk9 HC 
  go_wp2
  go_end0
  refine ⟨rfl, ?_, HF9.out.2⟩
  have hx := HF9.out.1
  simpa [sep, rdT, bL, str, List.append_assoc] using hx
set_option maxHeartbeats 4000000 in
theorem ex6 {n m : Nat} {w0 : World} {B p : Nat} {G : Gs} (IF : CF n m w0 B p G) (IE : CE n m w0 B p G) (IO : CO n m w0 B p G) (rt : ByteArray) (bg : Bool) (out : List UInt8) (w : World) (x : Nd) (v : Value) (hx : NdIn (m + 1) n 0 w0 x v) (hk : okN (m + 1) false x) (hs : sndA x) (h : St w0 B w p G rt bg out) (hK : x.kind = 6) (hl : out.length + 1 + (exA G (TX G m) rt x).length ≤ 140737488355328) :
    Calls Tryz.prog 34 #[.pointer (some ⟨p, 0, none⟩), v] w (GvT B p G rt true (out ++ (sep bg ++ exA G (TX G m) rt x)) w) := by
  have hx0 := hx
  have hk0 := hk
  obtain ⟨v1, v2, ak, ck, rfl, hv1, hlit, hkid⟩ := nd_kids hx
  have hse := sep_le bg
  have hT : exA G (TX G m) rt x = (TX G m).O rt (kp x 1) ++ ([32] ++ apF (TX G m).F (kp x 0)) ++ ([32] ++ (TX G m).E rt (kp x 2)) := by simp [exA, opT, hK]
  have hkl : x.kids.length = 3 := by have := hk.1; rw [hK] at this; unfold arK at this; simp at this; first | omega | (rw [this]; rfl)
  rw [hT] at hl ⊢
  obtain ⟨b, off, p01, p02, p03, rfl, hn0, z0⟩ := hkid 0 (by omega)
  have ho0 := hk.2.2.2 0 (by omega)
  rw [show fnP x.kind 0 = true by rw [hK]; rfl] at ho0
  have hs0 := hs.kid (i := 0) (by omega)
  have Z0 : Hid (∀ W, Below w0.heap.size w0 W → Sv7 W b (off) (kp x 0).kind (kp x 0).op (kp x 0).name p01 p02 p03 (kp x 0).pos) := hide (by simpa only [Nat.zero_mul, Nat.add_zero] using z0)
  obtain ⟨b1, off1, p11, p12, p13, he1, hn1, z1⟩ := hkid 1 (by omega)
  cases he1
  have ho1 := hk.2.2.2 1 (by omega)
  rw [show fnP x.kind 1 = false by rw [hK]; rfl] at ho1
  have hs1 := hs.kid (i := 1) (by omega)
  have Z1 : Hid (∀ W, Below w0.heap.size w0 W → Sv7 W b (off + 7) (kp x 1).kind (kp x 1).op (kp x 1).name p11 p12 p13 (kp x 1).pos) := hide (by exact z1)
  obtain ⟨b2, off2, p21, p22, p23, he2, hn2, z2⟩ := hkid 2 (by omega)
  cases he2
  have ho2 := hk.2.2.2 2 (by omega)
  rw [show fnP x.kind 2 = false by rw [hK]; rfl] at ho2
  have hs2 := hs.kid (i := 2) (by omega)
  have Z2 : Hid (∀ W, Below w0.heap.size w0 W → Sv7 W b (off + 14) (kp x 2).kind (kp x 2).op (kp x 2).name p21 p22 p23 (kp x 2).pos) := hide (by exact z2)
  have HO := hide (fun bg out w (hst : St w0 B w p G rt bg out) hl => IO rt bg out w (kp x 1) _ hn1 ho1 hs1 hst hl)
  have HF := hide (fun bg out w (hst : St w0 B w p G rt bg out) hl => ahead41 IF rt bg out w (kp x 0) _ hn0 ho0 hs0 hst hl)
  have HE := hide (fun bg out w (hst : St w0 B w p G rt bg out) hl => IE rt bg out w (kp x 2) _ hn2 ho2 hs2 hst hl)
  rw [hK, hkl]
  obtain ⟨OT, hOT⟩ : ∃ OT, (TX G m).O rt (kp x 1) = OT := ⟨_, rfl⟩
  rw [hOT] at HO hl ⊢
  obtain ⟨FT, hFT⟩ : ∃ FT, apF (TX G m).F (kp x 0) = FT := ⟨_, rfl⟩
  rw [hFT] at HF hl ⊢
  obtain ⟨ET, hET⟩ : ∃ ET, (TX G m).E rt (kp x 2) = ET := ⟨_, rfl⟩
  rw [hET] at HE hl ⊢
  generalize (kp x 0).kind = qk0 at *
  generalize (kp x 0).op = qo0 at *
  generalize (kp x 0).name = qn0 at *
  generalize (kp x 0).pos = qp0 at *
  generalize (kp x 1).kind = qk1 at *
  generalize (kp x 1).op = qo1 at *
  generalize (kp x 1).name = qn1 at *
  generalize (kp x 1).pos = qp1 at *
  generalize (kp x 2).kind = qk2 at *
  generalize (kp x 2).op = qo2 at *
  generalize (kp x 2).name = qn2 at *
  generalize (kp x 2).pos = qp2 at *
  generalize x.op = o at *
  generalize x.name = nm at *
  generalize x.pos = ps at *
  simp only [List.length_append, List.length_cons, List.length_nil] at hl
  clear hx hk hs IF IE IO hkid hT hkl hK hx0 hk0 hlit hOT hFT hET hn0 hn1 hn2 z0 z1 z2 ho0 ho1 ho2 hs0 hs1 hs2
  obtain ⟨W1, hW1⟩ : ∃ W1, w.alloc (.cells (sv (6) (o) nm (v1) (v2) (.slice (some ⟨b, off, none⟩) 3 ck) (ps)) 42) = W1 := ⟨_, rfl⟩
  have hb1 : Below w.heap.size w W1 := by rw [← hW1]; exact alloc_one _ _
  have s1 : W1.heap.size = w.heap.size + 1 := by rw [← hW1]; simp
  have hbx : W1.heap[w.heap.size]? = some (.cells (sv (6) (o) nm (v1) (v2) (.slice (some ⟨b, off, none⟩) 3 ck) (ps)) 42 (0, 0)) := by rw [← hW1]; exact heap_alloc_new w _
  have hql : w.heap.size ≠ p := Nat.ne_of_gt h.lt
  have H1 := hide (h.next hb1)
  have HK1 := hide (h.wkn hb1)
  have HB1 := hide hbx
  have k0 : W1.cell? ⟨w.heap.size, 0, none⟩ = some (.int .i64 6) := (Lib.cell_of_heap hbx 0).trans rfl
  have k1 : W1.cell? ⟨w.heap.size, 1, none⟩ = some (.int .i64 o) := (Lib.cell_of_heap hbx 1).trans rfl
  have k2 : W1.cell? ⟨w.heap.size, 2, none⟩ = some (.string nm) := (Lib.cell_of_heap hbx 2).trans rfl
  have k3 : W1.cell? ⟨w.heap.size, 3, none⟩ = some (v1) := (Lib.cell_of_heap hbx 3).trans rfl
  have k4 : W1.cell? ⟨w.heap.size, 4, none⟩ = some (v2) := (Lib.cell_of_heap hbx 4).trans rfl
  have k5 : W1.cell? ⟨w.heap.size, 5, none⟩ = some (.slice (some ⟨b, off, none⟩) 3 ck) := (Lib.cell_of_heap hbx 5).trans rfl
  have k6 : W1.cell? ⟨w.heap.size, 6, none⟩ = some (.int .i64 ps) := (Lib.cell_of_heap hbx 6).trans rfl
  clear hb1 hbx
  have HC := hide (HO.out bg out W1 H1.out (by omega))
  obtain ⟨y0, y1, y2, y3, y4, y5, y6⟩ := Z1.out W1 H1.out.old
  clear h HO
  go_enter Tryz.func34, Tryz.ntmps34
  go_wp2_with fail
  refine HC.out.mono ?_
  rintro e w2 g2
  have H2 := hide (H1.out.got g2)
  have HK2 := hide (HK1.out.trans g2.2.2)
  have hb2 := g2.2.2.box HB1.out hql (by decide)
  have HB2 := hide hb2
  obtain rfl := g2.1
  clear g2 HC k0 k1 k2 k3 k4 k5 k6 y0 y1 y2 y3 y4 y5 y6
  have k0 : w2.cell? ⟨w.heap.size, 0, none⟩ = some (.int .i64 6) := (Lib.cell_of_heap hb2 0).trans rfl
  have k1 : w2.cell? ⟨w.heap.size, 1, none⟩ = some (.int .i64 o) := (Lib.cell_of_heap hb2 1).trans rfl
  have k2 : w2.cell? ⟨w.heap.size, 2, none⟩ = some (.string nm) := (Lib.cell_of_heap hb2 2).trans rfl
  have k3 : w2.cell? ⟨w.heap.size, 3, none⟩ = some (v1) := (Lib.cell_of_heap hb2 3).trans rfl
  have k4 : w2.cell? ⟨w.heap.size, 4, none⟩ = some (v2) := (Lib.cell_of_heap hb2 4).trans rfl
  have k5 : w2.cell? ⟨w.heap.size, 5, none⟩ = some (.slice (some ⟨b, off, none⟩) 3 ck) := (Lib.cell_of_heap hb2 5).trans rfl
  have k6 : w2.cell? ⟨w.heap.size, 6, none⟩ = some (.int .i64 ps) := (Lib.cell_of_heap hb2 6).trans rfl
  clear hb2
  obtain ⟨y0, y1, y2, y3, y4, y5, y6⟩ := Z0.out w2 H2.out.old
  have HC := hide (HF.out true _ w2 H2.out (by simp only [List.length_append]; omega))
  clear HF
  go_wp2_with fail
  refine HC.out.mono ?_
  rintro e w3 g3
  have H3 := hide (H2.out.got g3)
  have HK3 := hide (HK2.out.trans g3.2.2)
  have hb3 := g3.2.2.box HB2.out hql (by decide)
  have HB3 := hide hb3
  obtain rfl := g3.1
  clear g3 HC k0 k1 k2 k3 k4 k5 k6 y0 y1 y2 y3 y4 y5 y6
  have k0 : w3.cell? ⟨w.heap.size, 0, none⟩ = some (.int .i64 6) := (Lib.cell_of_heap hb3 0).trans rfl
  have k1 : w3.cell? ⟨w.heap.size, 1, none⟩ = some (.int .i64 o) := (Lib.cell_of_heap hb3 1).trans rfl
  have k2 : w3.cell? ⟨w.heap.size, 2, none⟩ = some (.string nm) := (Lib.cell_of_heap hb3 2).trans rfl
  have k3 : w3.cell? ⟨w.heap.size, 3, none⟩ = some (v1) := (Lib.cell_of_heap hb3 3).trans rfl
  have k4 : w3.cell? ⟨w.heap.size, 4, none⟩ = some (v2) := (Lib.cell_of_heap hb3 4).trans rfl
  have k5 : w3.cell? ⟨w.heap.size, 5, none⟩ = some (.slice (some ⟨b, off, none⟩) 3 ck) := (Lib.cell_of_heap hb3 5).trans rfl
  have k6 : w3.cell? ⟨w.heap.size, 6, none⟩ = some (.int .i64 ps) := (Lib.cell_of_heap hb3 6).trans rfl
  clear hb3
  obtain ⟨y0, y1, y2, y3, y4, y5, y6⟩ := Z2.out w3 H3.out.old
  have HC := hide (HE.out true _ w3 H3.out (by simp only [List.length_append, sep_true, List.length_cons, List.length_nil]; omega))
  clear HE
  go_wp2_with fail
  refine HC.out.mono ?_
  rintro e w9 ⟨rfl, hx9, hk9⟩
  have HF9 := hide (And.intro hx9 (HK3.out.trans hk9))
  clear hx9 hk9 HC 
  go_wp2
  go_end0
  refine ⟨rfl, ?_, HF9.out.2⟩
  have hx := HF9.out.1
  simpa [sep, rdT, bL, str, List.append_assoc] using hx
theorem ca_of {n m : Nat} {w0 : World} {B p : Nat} {G : Gs} (IF : CF n m w0 B p G) (IE : CE n m w0 B p G) (IO : CO n m w0 B p G) : CA n m w0 B p G := by
  intro rt bg out w x v hx hk hs h hK hl
  rcases hK with hK | hK
  · exact ex5 IF IE IO rt bg out w x v hx hk hs h hK hl
  · exact ex6 IF IE IO rt bg out w x v hx hk hs h hK hl
set_option maxHeartbeats 4000000 in
theorem op2 {n m : Nat} {w0 : World} {B p : Nat} {G : Gs} (IF : CF n m w0 B p G) (IE : CE n m w0 B p G) (IO : CO n m w0 B p G) (rt : ByteArray) (bg : Bool) (out : List UInt8) (w : World) (x : Nd) (v : Value) (hx : NdIn (m + 1) n 0 w0 x v) (hk : okN (m + 1) false x) (hs : sndA x) (h : St w0 B w p G rt bg out) (hK : x.kind = 2) (hl : out.length + 1 + (opT G (TX G m) rt x).length ≤ 140737488355328) :
    Calls Tryz.prog 63 #[.pointer (some ⟨p, 0, none⟩), v] w (GvT B p G rt true (out ++ (sep bg ++ opT G (TX G m) rt x)) w) := by
  have hx0 := hx
  have hk0 := hk
  obtain ⟨v1, v2, ak, ck, rfl, hv1, hlit, hkid⟩ := nd_kids hx
  have hse := sep_le bg
  have hT : opT G (TX G m) rt x = bL x.name := by simp [exA, opT, hK]
  have hkl : x.kids.length = 0 := by have := hk.1; rw [hK] at this; unfold arK at this; simp at this; first | omega | (rw [this]; rfl)
  rw [hT] at hl ⊢
  rw [hK, hkl]
  have hnb : (bL x.name).length = (x.name).size := by simp [bL]
  generalize x.name = nm at *
  generalize x.op = o at *
  generalize x.pos = ps at *
  clear hx hk hs IF IE IO hkid hT hkl hK hx0 hk0 hlit
  obtain ⟨W1, hW1⟩ : ∃ W1, w.alloc (.cells (sv (2) (o) nm (v1) (v2) (.slice ak 0 ck) (ps)) 42) = W1 := ⟨_, rfl⟩
  have hb1 : Below w.heap.size w W1 := by rw [← hW1]; exact alloc_one _ _
  have s1 : W1.heap.size = w.heap.size + 1 := by rw [← hW1]; simp
  have hbx : W1.heap[w.heap.size]? = some (.cells (sv (2) (o) nm (v1) (v2) (.slice ak 0 ck) (ps)) 42 (0, 0)) := by rw [← hW1]; exact heap_alloc_new w _
  have hql : w.heap.size ≠ p := Nat.ne_of_gt h.lt
  have H1 := hide (h.next hb1)
  have HK1 := hide (h.wkn hb1)
  have HB1 := hide hbx
  have k0 : W1.cell? ⟨w.heap.size, 0, none⟩ = some (.int .i64 2) := (Lib.cell_of_heap hbx 0).trans rfl
  have k1 : W1.cell? ⟨w.heap.size, 1, none⟩ = some (.int .i64 o) := (Lib.cell_of_heap hbx 1).trans rfl
  have k2 : W1.cell? ⟨w.heap.size, 2, none⟩ = some (.string nm) := (Lib.cell_of_heap hbx 2).trans rfl
  have k3 : W1.cell? ⟨w.heap.size, 3, none⟩ = some (v1) := (Lib.cell_of_heap hbx 3).trans rfl
  have k4 : W1.cell? ⟨w.heap.size, 4, none⟩ = some (v2) := (Lib.cell_of_heap hbx 4).trans rfl
  have k5 : W1.cell? ⟨w.heap.size, 5, none⟩ = some (.slice ak 0 ck) := (Lib.cell_of_heap hbx 5).trans rfl
  have k6 : W1.cell? ⟨w.heap.size, 6, none⟩ = some (.int .i64 ps) := (Lib.cell_of_heap hbx 6).trans rfl
  clear hb1 hbx
  have HC := hide (H1.out.put nm (by omega))
  rw [s1] at HC
  clear h
  go_enter Tryz.func63, Tryz.ntmps63
  go_wp2_with fail
  refine HC.out.mono ?_
  rintro e w9 ⟨rfl, hx9, hk9⟩
  have HF9 := hide (And.intro hx9 (HK1.out.trans hk9))
  clear hx9 hk9 HC 
  go_wp2
  go_end0
  refine ⟨rfl, ?_, HF9.out.2⟩
  have hx := HF9.out.1
  simpa [sep, rdT, bL, str, List.append_assoc] using hx
set_option maxHeartbeats 4000000 in
theorem op3 {n m : Nat} {w0 : World} {B p : Nat} {G : Gs} (IF : CF n m w0 B p G) (IE : CE n m w0 B p G) (IO : CO n m w0 B p G) (rt : ByteArray) (bg : Bool) (out : List UInt8) (w : World) (x : Nd) (v : Value) (hx : NdIn (m + 1) n 0 w0 x v) (hk : okN (m + 1) false x) (hs : sndA x) (h : St w0 B w p G rt bg out) (hK : x.kind = 3) (hl : out.length + 1 + (opT G (TX G m) rt x).length ≤ 140737488355328) :
    Calls Tryz.prog 63 #[.pointer (some ⟨p, 0, none⟩), v] w (GvT B p G rt true (out ++ (sep bg ++ opT G (TX G m) rt x)) w) := by
  have hx0 := hx
  have hk0 := hk
  obtain ⟨v1, v2, ak, ck, rfl, hv1, hlit, hkid⟩ := nd_kids hx
  have hse := sep_le bg
  have hT : opT G (TX G m) rt x = bL G.left := by simp [exA, opT, hK]
  have hkl : x.kids.length = 0 := by have := hk.1; rw [hK] at this; unfold arK at this; simp at this; first | omega | (rw [this]; rfl)
  rw [hT] at hl ⊢
  rw [hK, hkl]
  have hnb : (bL G.left).length = (G.left).size := by simp [bL]
  generalize x.name = nm at *
  generalize x.op = o at *
  generalize x.pos = ps at *
  clear hx hk hs IF IE IO hkid hT hkl hK hx0 hk0 hlit
  obtain ⟨W1, hW1⟩ : ∃ W1, w.alloc (.cells (sv (3) (o) nm (v1) (v2) (.slice ak 0 ck) (ps)) 42) = W1 := ⟨_, rfl⟩
  have hb1 : Below w.heap.size w W1 := by rw [← hW1]; exact alloc_one _ _
  have s1 : W1.heap.size = w.heap.size + 1 := by rw [← hW1]; simp
  have hbx : W1.heap[w.heap.size]? = some (.cells (sv (3) (o) nm (v1) (v2) (.slice ak 0 ck) (ps)) 42 (0, 0)) := by rw [← hW1]; exact heap_alloc_new w _
  have hql : w.heap.size ≠ p := Nat.ne_of_gt h.lt
  have H1 := hide (h.next hb1)
  have HK1 := hide (h.wkn hb1)
  have HB1 := hide hbx
  have k0 : W1.cell? ⟨w.heap.size, 0, none⟩ = some (.int .i64 3) := (Lib.cell_of_heap hbx 0).trans rfl
  have k1 : W1.cell? ⟨w.heap.size, 1, none⟩ = some (.int .i64 o) := (Lib.cell_of_heap hbx 1).trans rfl
  have k2 : W1.cell? ⟨w.heap.size, 2, none⟩ = some (.string nm) := (Lib.cell_of_heap hbx 2).trans rfl
  have k3 : W1.cell? ⟨w.heap.size, 3, none⟩ = some (v1) := (Lib.cell_of_heap hbx 3).trans rfl
  have k4 : W1.cell? ⟨w.heap.size, 4, none⟩ = some (v2) := (Lib.cell_of_heap hbx 4).trans rfl
  have k5 : W1.cell? ⟨w.heap.size, 5, none⟩ = some (.slice ak 0 ck) := (Lib.cell_of_heap hbx 5).trans rfl
  have k6 : W1.cell? ⟨w.heap.size, 6, none⟩ = some (.int .i64 ps) := (Lib.cell_of_heap hbx 6).trans rfl
  clear hb1 hbx
  obtain ⟨aw, vw, hw⟩ := H1.out.wr
  have c7 : W1.cell? ⟨p, 7, none⟩ = some (.string G.left) := hw.all.1.2.2.2.2.1
  clear hw
  have HC := hide (H1.out.put G.left (by omega))
  rw [s1] at HC
  clear h
  go_enter Tryz.func63, Tryz.ntmps63
  go_wp2_with fail
  refine HC.out.mono ?_
  rintro e w9 ⟨rfl, hx9, hk9⟩
  have HF9 := hide (And.intro hx9 (HK1.out.trans hk9))
  clear hx9 hk9 HC 
  go_wp2
  go_end0
  refine ⟨rfl, ?_, HF9.out.2⟩
  have hx := HF9.out.1
  simpa [sep, rdT, bL, str, List.append_assoc] using hx
set_option maxHeartbeats 4000000 in
theorem op4 {n m : Nat} {w0 : World} {B p : Nat} {G : Gs} (IF : CF n m w0 B p G) (IE : CE n m w0 B p G) (IO : CO n m w0 B p G) (rt : ByteArray) (bg : Bool) (out : List UInt8) (w : World) (x : Nd) (v : Value) (hx : NdIn (m + 1) n 0 w0 x v) (hk : okN (m + 1) false x) (hs : sndA x) (h : St w0 B w p G rt bg out) (hK : x.kind = 4) (hl : out.length + 1 + (opT G (TX G m) rt x).length ≤ 140737488355328) :
    Calls Tryz.prog 63 #[.pointer (some ⟨p, 0, none⟩), v] w (GvT B p G rt true (out ++ (sep bg ++ opT G (TX G m) rt x)) w) := by
  have hx0 := hx
  have hk0 := hk
  obtain ⟨v1, v2, ak, ck, rfl, hv1, hlit, hkid⟩ := nd_kids hx
  have hse := sep_le bg
  have hT : opT G (TX G m) rt x = bL rt := by simp [exA, opT, hK]
  have hkl : x.kids.length = 0 := by have := hk.1; rw [hK] at this; unfold arK at this; simp at this; first | omega | (rw [this]; rfl)
  rw [hT] at hl ⊢
  rw [hK, hkl]
  have hnb : (bL rt).length = (rt).size := by simp [bL]
  generalize x.name = nm at *
  generalize x.op = o at *
  generalize x.pos = ps at *
  clear hx hk hs IF IE IO hkid hT hkl hK hx0 hk0 hlit
  obtain ⟨W1, hW1⟩ : ∃ W1, w.alloc (.cells (sv (4) (o) nm (v1) (v2) (.slice ak 0 ck) (ps)) 42) = W1 := ⟨_, rfl⟩
  have hb1 : Below w.heap.size w W1 := by rw [← hW1]; exact alloc_one _ _
  have s1 : W1.heap.size = w.heap.size + 1 := by rw [← hW1]; simp
  have hbx : W1.heap[w.heap.size]? = some (.cells (sv (4) (o) nm (v1) (v2) (.slice ak 0 ck) (ps)) 42 (0, 0)) := by rw [← hW1]; exact heap_alloc_new w _
  have hql : w.heap.size ≠ p := Nat.ne_of_gt h.lt
  have H1 := hide (h.next hb1)
  have HK1 := hide (h.wkn hb1)
  have HB1 := hide hbx
  have k0 : W1.cell? ⟨w.heap.size, 0, none⟩ = some (.int .i64 4) := (Lib.cell_of_heap hbx 0).trans rfl
  have k1 : W1.cell? ⟨w.heap.size, 1, none⟩ = some (.int .i64 o) := (Lib.cell_of_heap hbx 1).trans rfl
  have k2 : W1.cell? ⟨w.heap.size, 2, none⟩ = some (.string nm) := (Lib.cell_of_heap hbx 2).trans rfl
  have k3 : W1.cell? ⟨w.heap.size, 3, none⟩ = some (v1) := (Lib.cell_of_heap hbx 3).trans rfl
  have k4 : W1.cell? ⟨w.heap.size, 4, none⟩ = some (v2) := (Lib.cell_of_heap hbx 4).trans rfl
  have k5 : W1.cell? ⟨w.heap.size, 5, none⟩ = some (.slice ak 0 ck) := (Lib.cell_of_heap hbx 5).trans rfl
  have k6 : W1.cell? ⟨w.heap.size, 6, none⟩ = some (.int .i64 ps) := (Lib.cell_of_heap hbx 6).trans rfl
  clear hb1 hbx
  obtain ⟨aw, vw, hw⟩ := H1.out.wr
  have c7 : W1.cell? ⟨p, 14, none⟩ = some (.string rt) := hw.all.2.1.2.2.2
  clear hw
  have HC := hide (H1.out.put rt (by omega))
  rw [s1] at HC
  clear h
  go_enter Tryz.func63, Tryz.ntmps63
  go_wp2_with fail
  refine HC.out.mono ?_
  rintro e w9 ⟨rfl, hx9, hk9⟩
  have HF9 := hide (And.intro hx9 (HK1.out.trans hk9))
  clear hx9 hk9 HC 
  go_wp2
  go_end0
  refine ⟨rfl, ?_, HF9.out.2⟩
  have hx := HF9.out.1
  simpa [sep, rdT, bL, str, List.append_assoc] using hx
set_option maxHeartbeats 4000000 in
theorem op8 {n m : Nat} {w0 : World} {B p : Nat} {G : Gs} (IF : CF n m w0 B p G) (IE : CE n m w0 B p G) (IO : CO n m w0 B p G) (rt : ByteArray) (bg : Bool) (out : List UInt8) (w : World) (x : Nd) (v : Value) (hx : NdIn (m + 1) n 0 w0 x v) (hk : okN (m + 1) false x) (hs : sndA x) (h : St w0 B w p G rt bg out) (hK : x.kind = 8) (hl : out.length + 1 + (opT G (TX G m) rt x).length ≤ 140737488355328) :
    Calls Tryz.prog 63 #[.pointer (some ⟨p, 0, none⟩), v] w (GvT B p G rt true (out ++ (sep bg ++ opT G (TX G m) rt x)) w) := by
  have hx0 := hx
  have hk0 := hk
  obtain ⟨v1, v2, ak, ck, rfl, hv1, hlit, hkid⟩ := nd_kids hx
  have hse := sep_le bg
  have hT : opT G (TX G m) rt x = (TX G m).O rt (kp x 0) ++ [32, 91] ++ ([32] ++ (TX G m).E rt (kp x 1)) ++ [32, 93] := by simp [exA, opT, hK]
  have hkl : x.kids.length = 2 := by have := hk.1; rw [hK] at this; unfold arK at this; simp at this; first | omega | (rw [this]; rfl)
  rw [hT] at hl ⊢
  obtain ⟨b, off, p01, p02, p03, rfl, hn0, z0⟩ := hkid 0 (by omega)
  have ho0 := hk.2.2.2 0 (by omega)
  rw [show fnP x.kind 0 = false by rw [hK]; rfl] at ho0
  have hs0 := hs.kid (i := 0) (by omega)
  have Z0 : Hid (∀ W, Below w0.heap.size w0 W → Sv7 W b (off) (kp x 0).kind (kp x 0).op (kp x 0).name p01 p02 p03 (kp x 0).pos) := hide (by simpa only [Nat.zero_mul, Nat.add_zero] using z0)
  obtain ⟨b1, off1, p11, p12, p13, he1, hn1, z1⟩ := hkid 1 (by omega)
  cases he1
  have ho1 := hk.2.2.2 1 (by omega)
  rw [show fnP x.kind 1 = false by rw [hK]; rfl] at ho1
  have hs1 := hs.kid (i := 1) (by omega)
  have Z1 : Hid (∀ W, Below w0.heap.size w0 W → Sv7 W b (off + 7) (kp x 1).kind (kp x 1).op (kp x 1).name p11 p12 p13 (kp x 1).pos) := hide (by exact z1)
  have HO := hide (fun bg out w (hst : St w0 B w p G rt bg out) hl => IO rt bg out w (kp x 0) _ hn0 ho0 hs0 hst hl)
  have HE := hide (fun bg out w (hst : St w0 B w p G rt bg out) hl => IE rt bg out w (kp x 1) _ hn1 ho1 hs1 hst hl)
  rw [hK, hkl]
  obtain ⟨OT, hOT⟩ : ∃ OT, (TX G m).O rt (kp x 0) = OT := ⟨_, rfl⟩
  rw [hOT] at HO hl ⊢
  obtain ⟨ET, hET⟩ : ∃ ET, (TX G m).E rt (kp x 1) = ET := ⟨_, rfl⟩
  rw [hET] at HE hl ⊢
  have hq1 : (⟨#[91]⟩ : ByteArray).size = 1 := rfl
  have hq2 : (⟨#[93]⟩ : ByteArray).size = 1 := rfl
  have hq3 : (bL ⟨#[91]⟩).length = 1 := rfl
  generalize (kp x 0).kind = qk0 at *
  generalize (kp x 0).op = qo0 at *
  generalize (kp x 0).name = qn0 at *
  generalize (kp x 0).pos = qp0 at *
  generalize (kp x 1).kind = qk1 at *
  generalize (kp x 1).op = qo1 at *
  generalize (kp x 1).name = qn1 at *
  generalize (kp x 1).pos = qp1 at *
  generalize x.op = o at *
  generalize x.name = nm at *
  generalize x.pos = ps at *
  simp only [List.length_append, List.length_cons, List.length_nil] at hl
  clear hx hk hs IF IE IO hkid hT hkl hK hx0 hk0 hlit hOT hET hn0 hn1 z0 z1 ho0 ho1 hs0 hs1
  obtain ⟨W1, hW1⟩ : ∃ W1, w.alloc (.cells (sv (8) (o) nm (v1) (v2) (.slice (some ⟨b, off, none⟩) 2 ck) (ps)) 42) = W1 := ⟨_, rfl⟩
  have hb1 : Below w.heap.size w W1 := by rw [← hW1]; exact alloc_one _ _
  have s1 : W1.heap.size = w.heap.size + 1 := by rw [← hW1]; simp
  have hbx : W1.heap[w.heap.size]? = some (.cells (sv (8) (o) nm (v1) (v2) (.slice (some ⟨b, off, none⟩) 2 ck) (ps)) 42 (0, 0)) := by rw [← hW1]; exact heap_alloc_new w _
  have hql : w.heap.size ≠ p := Nat.ne_of_gt h.lt
  have H1 := hide (h.next hb1)
  have HK1 := hide (h.wkn hb1)
  have HB1 := hide hbx
  have k0 : W1.cell? ⟨w.heap.size, 0, none⟩ = some (.int .i64 8) := (Lib.cell_of_heap hbx 0).trans rfl
  have k1 : W1.cell? ⟨w.heap.size, 1, none⟩ = some (.int .i64 o) := (Lib.cell_of_heap hbx 1).trans rfl
  have k2 : W1.cell? ⟨w.heap.size, 2, none⟩ = some (.string nm) := (Lib.cell_of_heap hbx 2).trans rfl
  have k3 : W1.cell? ⟨w.heap.size, 3, none⟩ = some (v1) := (Lib.cell_of_heap hbx 3).trans rfl
  have k4 : W1.cell? ⟨w.heap.size, 4, none⟩ = some (v2) := (Lib.cell_of_heap hbx 4).trans rfl
  have k5 : W1.cell? ⟨w.heap.size, 5, none⟩ = some (.slice (some ⟨b, off, none⟩) 2 ck) := (Lib.cell_of_heap hbx 5).trans rfl
  have k6 : W1.cell? ⟨w.heap.size, 6, none⟩ = some (.int .i64 ps) := (Lib.cell_of_heap hbx 6).trans rfl
  clear hb1 hbx
  have HC := hide (HO.out bg out W1 H1.out (by omega))
  obtain ⟨y0, y1, y2, y3, y4, y5, y6⟩ := Z0.out W1 H1.out.old
  clear h HO
  go_enter Tryz.func63, Tryz.ntmps63
  go_wp2_with fail
  refine HC.out.mono ?_
  rintro e w2 g2
  have H2 := hide (H1.out.got g2)
  have HK2 := hide (HK1.out.trans g2.2.2)
  have hb2 := g2.2.2.box HB1.out hql (by decide)
  have HB2 := hide hb2
  obtain rfl := g2.1
  clear g2 HC k0 k1 k2 k3 k4 k5 k6 y0 y1 y2 y3 y4 y5 y6
  clear hb2
  have HC := hide (H2.out.put ⟨#[91]⟩ (by simp only [List.length_append, sep_true, List.length_cons, List.length_nil]; omega))
  go_wp2_with fail
  refine HC.out.mono ?_
  rintro e w3 g3
  have H3 := hide (H2.out.got g3)
  have HK3 := hide (HK2.out.trans g3.2.2)
  have hb3 := g3.2.2.box HB2.out hql (by decide)
  have HB3 := hide hb3
  obtain rfl := g3.1
  clear g3 HC 
  have k0 : w3.cell? ⟨w.heap.size, 0, none⟩ = some (.int .i64 8) := (Lib.cell_of_heap hb3 0).trans rfl
  have k1 : w3.cell? ⟨w.heap.size, 1, none⟩ = some (.int .i64 o) := (Lib.cell_of_heap hb3 1).trans rfl
  have k2 : w3.cell? ⟨w.heap.size, 2, none⟩ = some (.string nm) := (Lib.cell_of_heap hb3 2).trans rfl
  have k3 : w3.cell? ⟨w.heap.size, 3, none⟩ = some (v1) := (Lib.cell_of_heap hb3 3).trans rfl
  have k4 : w3.cell? ⟨w.heap.size, 4, none⟩ = some (v2) := (Lib.cell_of_heap hb3 4).trans rfl
  have k5 : w3.cell? ⟨w.heap.size, 5, none⟩ = some (.slice (some ⟨b, off, none⟩) 2 ck) := (Lib.cell_of_heap hb3 5).trans rfl
  have k6 : w3.cell? ⟨w.heap.size, 6, none⟩ = some (.int .i64 ps) := (Lib.cell_of_heap hb3 6).trans rfl
  clear hb3
  obtain ⟨y0, y1, y2, y3, y4, y5, y6⟩ := Z1.out w3 H3.out.old
  have HC := hide (HE.out true _ w3 H3.out (by simp only [List.length_append, sep_true, hq3, List.length_cons, List.length_nil]; omega))
  clear HE
  go_wp2_with fail
  refine HC.out.mono ?_
  rintro e w4 g4
  have H4 := hide (H3.out.got g4)
  have HK4 := hide (HK3.out.trans g4.2.2)
  have hb4 := g4.2.2.box HB3.out hql (by decide)
  have HB4 := hide hb4
  obtain rfl := g4.1
  clear g4 HC k0 k1 k2 k3 k4 k5 k6 y0 y1 y2 y3 y4 y5 y6
  clear hb4
  have HC := hide (H4.out.put ⟨#[93]⟩ (by simp only [List.length_append, sep_true, hq3, List.length_cons, List.length_nil]; omega))
  go_wp2_with fail
  refine HC.out.mono ?_
  rintro e w9 ⟨rfl, hx9, hk9⟩
  have HF9 := hide (And.intro hx9 (HK4.out.trans hk9))
  clear hx9 hk9 HC 
  go_wp2
  go_end0
  refine ⟨rfl, ?_, HF9.out.2⟩
  have hx := HF9.out.1
  simpa [sep, rdT, bL, str, List.append_assoc] using hx
set_option maxHeartbeats 4000000 in
theorem op5 {n m : Nat} {w0 : World} {B p : Nat} {G : Gs} (IF : CF n m w0 B p G) (IE : CE n m w0 B p G) (IO : CO n m w0 B p G) (rt : ByteArray) (bg : Bool) (out : List UInt8) (w : World) (x : Nd) (v : Value) (hx : NdIn (m + 1) n 0 w0 x v) (hk : okN (m + 1) false x) (hs : sndA x) (h : St w0 B w p G rt bg out) (hK : x.kind = 5) (hl : out.length + 1 + (opT G (TX G m) rt x).length ≤ 140737488355328) :
    Calls Tryz.prog 63 #[.pointer (some ⟨p, 0, none⟩), v] w (GvT B p G rt true (out ++ (sep bg ++ opT G (TX G m) rt x)) w) := by
  have hx0 := hx
  have hk0 := hk
  obtain ⟨v1, v2, ak, ck, rfl, hv1, hlit, hkid⟩ := nd_kids hx
  have hse := sep_le bg
  have hT : opT G (TX G m) rt x = rdT (exA G (TX G m) rt x) := by simp [opT, hK]
  have hkl : x.kids.length = 2 := by have := hk.1; rw [hK] at this; unfold arK at this; simp at this; first | omega | (rw [this]; rfl)
  rw [hT] at hl ⊢
  have HA := hide (fun bg out w (hst : St w0 B w p G rt bg out) hl => ca_of IF IE IO rt bg out w x _ hx0 hk0 hs hst (by rw [hK]; simp) hl)
  rw [hK, hkl] at HA
  rw [hK, hkl]
  obtain ⟨XT, hXT⟩ : ∃ XT, exA G (TX G m) rt x = XT := ⟨_, rfl⟩
  rw [hXT] at HA hl ⊢
  have hlr : (rdT XT).length = XT.length + 4 := by simp [rdT]
  generalize x.op = o at *
  generalize x.name = nm at *
  generalize x.pos = ps at *
  clear hx hk hs IF IE IO hkid hT hkl hK hx0 hk0 hlit hXT
  obtain ⟨W1, hW1⟩ : ∃ W1, w.alloc (.cells (sv (5) (o) nm (v1) (v2) (.slice ak 2 ck) (ps)) 42) = W1 := ⟨_, rfl⟩
  have hb1 : Below w.heap.size w W1 := by rw [← hW1]; exact alloc_one _ _
  have s1 : W1.heap.size = w.heap.size + 1 := by rw [← hW1]; simp
  have hbx : W1.heap[w.heap.size]? = some (.cells (sv (5) (o) nm (v1) (v2) (.slice ak 2 ck) (ps)) 42 (0, 0)) := by rw [← hW1]; exact heap_alloc_new w _
  have hql : w.heap.size ≠ p := Nat.ne_of_gt h.lt
  have H1 := hide (h.next hb1)
  have HK1 := hide (h.wkn hb1)
  have HB1 := hide hbx
  have k0 : W1.cell? ⟨w.heap.size, 0, none⟩ = some (.int .i64 5) := (Lib.cell_of_heap hbx 0).trans rfl
  have k1 : W1.cell? ⟨w.heap.size, 1, none⟩ = some (.int .i64 o) := (Lib.cell_of_heap hbx 1).trans rfl
  have k2 : W1.cell? ⟨w.heap.size, 2, none⟩ = some (.string nm) := (Lib.cell_of_heap hbx 2).trans rfl
  have k3 : W1.cell? ⟨w.heap.size, 3, none⟩ = some (v1) := (Lib.cell_of_heap hbx 3).trans rfl
  have k4 : W1.cell? ⟨w.heap.size, 4, none⟩ = some (v2) := (Lib.cell_of_heap hbx 4).trans rfl
  have k5 : W1.cell? ⟨w.heap.size, 5, none⟩ = some (.slice ak 2 ck) := (Lib.cell_of_heap hbx 5).trans rfl
  have k6 : W1.cell? ⟨w.heap.size, 6, none⟩ = some (.int .i64 ps) := (Lib.cell_of_heap hbx 6).trans rfl
  clear hb1 hbx
  have HC := hide (brack63_25 H1.out XT 5 o nm v1 v2 (.slice ak 2 ck) hv1 ps (by omega) (fun w1 out1 hst hb => HA.out true out1 w1 hst hb))
  clear h HA
  go_enter Tryz.func63, Tryz.ntmps63
  go_wp2_with fail
  refine HC.out.mono ?_
  rintro e w9 ⟨rfl, hx9, hk9⟩
  have HF9 := hide (And.intro hx9 (HK1.out.trans hk9))
  clear hx9 hk9 HC 
  go_wp2
  go_end0
  refine ⟨rfl, ?_, HF9.out.2⟩
  have hx := HF9.out.1
  simpa [sep, rdT, bL, str, List.append_assoc] using hx
set_option maxHeartbeats 4000000 in
theorem op6 {n m : Nat} {w0 : World} {B p : Nat} {G : Gs} (IF : CF n m w0 B p G) (IE : CE n m w0 B p G) (IO : CO n m w0 B p G) (rt : ByteArray) (bg : Bool) (out : List UInt8) (w : World) (x : Nd) (v : Value) (hx : NdIn (m + 1) n 0 w0 x v) (hk : okN (m + 1) false x) (hs : sndA x) (h : St w0 B w p G rt bg out) (hK : x.kind = 6) (hl : out.length + 1 + (opT G (TX G m) rt x).length ≤ 140737488355328) :
    Calls Tryz.prog 63 #[.pointer (some ⟨p, 0, none⟩), v] w (GvT B p G rt true (out ++ (sep bg ++ opT G (TX G m) rt x)) w) := by
  have hx0 := hx
  have hk0 := hk
  obtain ⟨v1, v2, ak, ck, rfl, hv1, hlit, hkid⟩ := nd_kids hx
  have hse := sep_le bg
  have hT : opT G (TX G m) rt x = rdT (exA G (TX G m) rt x) := by simp [opT, hK]
  have hkl : x.kids.length = 3 := by have := hk.1; rw [hK] at this; unfold arK at this; simp at this; first | omega | (rw [this]; rfl)
  rw [hT] at hl ⊢
  have HA := hide (fun bg out w (hst : St w0 B w p G rt bg out) hl => ca_of IF IE IO rt bg out w x _ hx0 hk0 hs hst (by rw [hK]; simp) hl)
  rw [hK, hkl] at HA
  rw [hK, hkl]
  obtain ⟨XT, hXT⟩ : ∃ XT, exA G (TX G m) rt x = XT := ⟨_, rfl⟩
  rw [hXT] at HA hl ⊢
  have hlr : (rdT XT).length = XT.length + 4 := by simp [rdT]
  generalize x.op = o at *
  generalize x.name = nm at *
  generalize x.pos = ps at *
  clear hx hk hs IF IE IO hkid hT hkl hK hx0 hk0 hlit hXT
  obtain ⟨W1, hW1⟩ : ∃ W1, w.alloc (.cells (sv (6) (o) nm (v1) (v2) (.slice ak 3 ck) (ps)) 42) = W1 := ⟨_, rfl⟩
  have hb1 : Below w.heap.size w W1 := by rw [← hW1]; exact alloc_one _ _
  have s1 : W1.heap.size = w.heap.size + 1 := by rw [← hW1]; simp
  have hbx : W1.heap[w.heap.size]? = some (.cells (sv (6) (o) nm (v1) (v2) (.slice ak 3 ck) (ps)) 42 (0, 0)) := by rw [← hW1]; exact heap_alloc_new w _
  have hql : w.heap.size ≠ p := Nat.ne_of_gt h.lt
  have H1 := hide (h.next hb1)
  have HK1 := hide (h.wkn hb1)
  have HB1 := hide hbx
  have k0 : W1.cell? ⟨w.heap.size, 0, none⟩ = some (.int .i64 6) := (Lib.cell_of_heap hbx 0).trans rfl
  have k1 : W1.cell? ⟨w.heap.size, 1, none⟩ = some (.int .i64 o) := (Lib.cell_of_heap hbx 1).trans rfl
  have k2 : W1.cell? ⟨w.heap.size, 2, none⟩ = some (.string nm) := (Lib.cell_of_heap hbx 2).trans rfl
  have k3 : W1.cell? ⟨w.heap.size, 3, none⟩ = some (v1) := (Lib.cell_of_heap hbx 3).trans rfl
  have k4 : W1.cell? ⟨w.heap.size, 4, none⟩ = some (v2) := (Lib.cell_of_heap hbx 4).trans rfl
  have k5 : W1.cell? ⟨w.heap.size, 5, none⟩ = some (.slice ak 3 ck) := (Lib.cell_of_heap hbx 5).trans rfl
  have k6 : W1.cell? ⟨w.heap.size, 6, none⟩ = some (.int .i64 ps) := (Lib.cell_of_heap hbx 6).trans rfl
  clear hb1 hbx
  have HC := hide (brack63_25 H1.out XT 6 o nm v1 v2 (.slice ak 3 ck) hv1 ps (by omega) (fun w1 out1 hst hb => HA.out true out1 w1 hst hb))
  clear h HA
  go_enter Tryz.func63, Tryz.ntmps63
  go_wp2_with fail
  refine HC.out.mono ?_
  rintro e w9 ⟨rfl, hx9, hk9⟩
  have HF9 := hide (And.intro hx9 (HK1.out.trans hk9))
  clear hx9 hk9 HC 
  go_wp2
  go_end0
  refine ⟨rfl, ?_, HF9.out.2⟩
  have hx := HF9.out.1
  simpa [sep, rdT, bL, str, List.append_assoc] using hx
set_option maxHeartbeats 4000000 in
theorem op1 {n m : Nat} {w0 : World} {B p : Nat} {G : Gs} (IF : CF n m w0 B p G) (IE : CE n m w0 B p G) (IO : CO n m w0 B p G) (rt : ByteArray) (bg : Bool) (out : List UInt8) (w : World) (x : Nd) (v : Value) (hx : NdIn (m + 1) n 0 w0 x v) (hk : okN (m + 1) false x) (hs : sndA x) (h : St w0 B w p G rt bg out) (hK : x.kind = 1) (hl : out.length + 1 + (opT G (TX G m) rt x).length ≤ 140737488355328) :
    Calls Tryz.prog 63 #[.pointer (some ⟨p, 0, none⟩), v] w (GvT B p G rt true (out ++ (sep bg ++ opT G (TX G m) rt x)) w) := by
  have hx0 := hx
  have hk0 := hk
  obtain ⟨v1, v2, ak, ck, rfl, hv1, hlit, hkid⟩ := nd_kids hx
  have hse := sep_le bg
  have hT : opT G (TX G m) rt x = litT G x.lit := by simp [exA, opT, hK]
  have hkl : x.kids.length = 0 := by have := hk.1; rw [hK] at this; unfold arK at this; simp at this; first | omega | (rw [this]; rfl)
  rw [hT] at hl ⊢
  have hLB := hk.2.2.1 hK
  have hsn := hs 1
  have HL := hide (fun W (hW : Below w0.heap.size w0 W) => literal34 (hlit.next hW) hsn.2.1 (lit_good hLB) hsn.2.2.1 h.am.hm h.am.hq (h.am.tab.below hW h.am.tab.1) (Lib.tabBelow_of_tabIs h.am.pw _ hW))
  unfold gV at HL
  rw [hK, hkl]
  obtain ⟨⟨la1, ll1, lc1, rfl⟩, ⟨la2, ll2, lc2, rfl⟩, -⟩ := nd_slices hx0
  obtain ⟨LT, hLT⟩ : ∃ LT, litT G x.lit = LT := ⟨_, rfl⟩
  rw [hLT] at HL hl ⊢
  have hsz : (str LT).size = LT.length := by show (str LT).data.size = _; simp [str]
  have hbn : bL (str LT) = LT := by simp [bL, str]
  generalize x.op = o at *
  generalize x.name = nm at *
  generalize x.pos = ps at *
  clear hx hk hs IF IE IO hkid hT hkl hK hx0 hk0 hlit hLT hLB hsn
  obtain ⟨W1, hW1⟩ : ∃ W1, w.alloc (.cells (sv (1) (o) nm (.slice la1 ll1 lc1) (.slice la2 ll2 lc2) (.slice ak 0 ck) (ps)) 42) = W1 := ⟨_, rfl⟩
  have hb1 : Below w.heap.size w W1 := by rw [← hW1]; exact alloc_one _ _
  have s1 : W1.heap.size = w.heap.size + 1 := by rw [← hW1]; simp
  have hbx : W1.heap[w.heap.size]? = some (.cells (sv (1) (o) nm (.slice la1 ll1 lc1) (.slice la2 ll2 lc2) (.slice ak 0 ck) (ps)) 42 (0, 0)) := by rw [← hW1]; exact heap_alloc_new w _
  have hql : w.heap.size ≠ p := Nat.ne_of_gt h.lt
  have H1 := hide (h.next hb1)
  have HK1 := hide (h.wkn hb1)
  have HB1 := hide hbx
  have k0 : W1.cell? ⟨w.heap.size, 0, none⟩ = some (.int .i64 1) := (Lib.cell_of_heap hbx 0).trans rfl
  have k1 : W1.cell? ⟨w.heap.size, 1, none⟩ = some (.int .i64 o) := (Lib.cell_of_heap hbx 1).trans rfl
  have k2 : W1.cell? ⟨w.heap.size, 2, none⟩ = some (.string nm) := (Lib.cell_of_heap hbx 2).trans rfl
  have k3 : W1.cell? ⟨w.heap.size, 3, none⟩ = some (.slice la1 ll1 lc1) := (Lib.cell_of_heap hbx 3).trans rfl
  have k4 : W1.cell? ⟨w.heap.size, 4, none⟩ = some (.slice la2 ll2 lc2) := (Lib.cell_of_heap hbx 4).trans rfl
  have k5 : W1.cell? ⟨w.heap.size, 5, none⟩ = some (.slice ak 0 ck) := (Lib.cell_of_heap hbx 5).trans rfl
  have k6 : W1.cell? ⟨w.heap.size, 6, none⟩ = some (.int .i64 ps) := (Lib.cell_of_heap hbx 6).trans rfl
  clear hb1 hbx
  obtain ⟨aw, vw, hw⟩ := H1.out.wr
  have hplt := hw.lt
  have hblt := lt_heap HB1.out
  have HBX : Hid (∀ W, Below W1.heap.size W1 W → W.heap[w.heap.size]? = some (.cells (sv (1) (o) nm (.slice la1 ll1 lc1) (.slice la2 ll2 lc2) (.slice ak 0 ck) (ps)) 42 (0, 0))) := hide fun W hW => (hW.block _ hblt).trans HB1.out
  have KS : Hid (∀ W, Below W1.heap.size W1 W → W.cell? ⟨w.heap.size, 3, none⟩ = some (.slice la1 ll1 lc1) ∧ W.cell? ⟨w.heap.size, 4, none⟩ = some (.slice la2 ll2 lc2) ∧ W.cell? ⟨p, 0, none⟩ = some (G.s1) ∧ W.cell? ⟨p, 1, none⟩ = some (G.s2) ∧ W.cell? ⟨p, 2, none⟩ = some (G.s3) ∧ W.cell? ⟨p, 3, none⟩ = some (.string G.outer) ∧ W.cell? ⟨p, 4, none⟩ = some (.string G.power) ∧ W.cell? ⟨p, 5, none⟩ = some (.string G.opn) ∧ W.cell? ⟨p, 6, none⟩ = some (.string G.cls) ∧ W.cell? ⟨p, 7, none⟩ = some (.string G.left) ∧ W.cell? ⟨p, 8, none⟩ = some (.string G.right) ∧ W.cell? ⟨p, 9, none⟩ = some (.string G.minus) ∧ W.cell? ⟨p, 10, none⟩ = some (.string G.quote) ∧ W.cell? ⟨p, 11, none⟩ = some (.bool G.trains) ∧ W.cell? ⟨p, 12, none⟩ = some (.bool G.lone) ∧ W.cell? ⟨p, 13, none⟩ = some (.bool G.square)) := hide fun W hW => by
    have hw2 := hw.next hW
    have hbx := HBX.out W hW
    exact ⟨(Lib.cell_of_heap hbx 3).trans rfl, (Lib.cell_of_heap hbx 4).trans rfl, hw2.cells 0 _ rfl, hw2.cells 1 _ rfl, hw2.cells 2 _ rfl, hw2.cells 3 _ rfl, hw2.cells 4 _ rfl, hw2.cells 5 _ rfl, hw2.cells 6 _ rfl, hw2.cells 7 _ rfl, hw2.cells 8 _ rfl, hw2.cells 9 _ rfl, hw2.cells 10 _ rfl, hw2.cells 11 _ rfl, hw2.cells 12 _ rfl, hw2.cells 13 _ rfl⟩
  have HST : Hid (∀ W, Below W1.heap.size W1 W → St w0 B W p G rt bg out) := hide fun W hW => H1.out.next hW
  have HKW : Hid (∀ W, Below W1.heap.size W1 W → Wk B p w W) := hide fun W hW => HK1.out.trans (H1.out.wkn hW)
  have HLB : Hid (out.length + (sep bg).length + (str LT).size ≤ 140737488355328) := hide (by omega)
  have HSF : Hid (∀ w3 w4 o4, Below W1.heap.size W1 w3 → (∃ a v, Wr B w4 p G rt true o4 a v) → Wk B p w3 w4 → w4.cell? ⟨w.heap.size, 3, none⟩ = some (.slice la1 ll1 lc1) ∧ w4.cell? ⟨w.heap.size, 4, none⟩ = some (.slice la2 ll2 lc2) ∧ w4.cell? ⟨p, 0, none⟩ = some (G.s1) ∧ w4.cell? ⟨p, 1, none⟩ = some (G.s2) ∧ w4.cell? ⟨p, 2, none⟩ = some (G.s3) ∧ w4.cell? ⟨p, 3, none⟩ = some (.string G.outer) ∧ w4.cell? ⟨p, 4, none⟩ = some (.string G.power) ∧ w4.cell? ⟨p, 5, none⟩ = some (.string G.opn) ∧ w4.cell? ⟨p, 6, none⟩ = some (.string G.cls) ∧ w4.cell? ⟨p, 7, none⟩ = some (.string G.left) ∧ w4.cell? ⟨p, 8, none⟩ = some (.string G.right) ∧ w4.cell? ⟨p, 9, none⟩ = some (.string G.minus) ∧ w4.cell? ⟨p, 10, none⟩ = some (.string G.quote) ∧ w4.cell? ⟨p, 11, none⟩ = some (.bool G.trains) ∧ w4.cell? ⟨p, 12, none⟩ = some (.bool G.lone) ∧ w4.cell? ⟨p, 13, none⟩ = some (.bool G.square)) := hide fun w3 w4 o4 hb4 hx4 hk4 => by
    obtain ⟨a, v, h9⟩ := hx4
    have hbx := hk4.box (HBX.out _ hb4) hql (by decide)
    exact ⟨(Lib.cell_of_heap hbx 3).trans rfl, (Lib.cell_of_heap hbx 4).trans rfl, h9.cells 0 _ rfl, h9.cells 1 _ rfl, h9.cells 2 _ rfl, h9.cells 3 _ rfl, h9.cells 4 _ rfl, h9.cells 5 _ rfl, h9.cells 6 _ rfl, h9.cells 7 _ rfl, h9.cells 8 _ rfl, h9.cells 9 _ rfl, h9.cells 10 _ rfl, h9.cells 11 _ rfl, h9.cells 12 _ rfl, h9.cells 13 _ rfl⟩
  clear hw h H1 HK1 HB1 hse hl
  go_enter Tryz.func63, Tryz.ntmps63
  go_upto_region 4 with fail
  have HD0 : Hid (Below W1.heap.size W1 W1.drew) := hide ((Below.refl W1.heap.size W1).drew)
  clear k0 k1 k2 k3 k4 k5 k6
  go_region_held3 (fun W => W.cell? ⟨w.heap.size, 3, none⟩ = some (.slice la1 ll1 lc1) ∧ W.cell? ⟨w.heap.size, 4, none⟩ = some (.slice la2 ll2 lc2) ∧ W.cell? ⟨p, 0, none⟩ = some (G.s1) ∧ W.cell? ⟨p, 1, none⟩ = some (G.s2) ∧ W.cell? ⟨p, 2, none⟩ = some (G.s3) ∧ W.cell? ⟨p, 3, none⟩ = some (.string G.outer) ∧ W.cell? ⟨p, 4, none⟩ = some (.string G.power) ∧ W.cell? ⟨p, 5, none⟩ = some (.string G.opn) ∧ W.cell? ⟨p, 6, none⟩ = some (.string G.cls) ∧ W.cell? ⟨p, 7, none⟩ = some (.string G.left) ∧ W.cell? ⟨p, 8, none⟩ = some (.string G.right) ∧ W.cell? ⟨p, 9, none⟩ = some (.string G.minus) ∧ W.cell? ⟨p, 10, none⟩ = some (.string G.quote) ∧ W.cell? ⟨p, 11, none⟩ = some (.bool G.trains) ∧ W.cell? ⟨p, 12, none⟩ = some (.bool G.lone) ∧ W.cell? ⟨p, 13, none⟩ = some (.bool G.square)) (first | with_reducible exact KS.out _ HD0.out | with_reducible exact KS.out _ (by with_reducible assumption) | with_reducible assumption) (first | (go_at_call 27; refine (HL.out _ (HST.out _ HD0.out).old).mono ?_; rintro e w3 ⟨rfl, hb3⟩; have hb4 := HD0.out.trans (hb3.mono HD0.out.size); have hb5 := hb4.alloc hb4.size (.cells #[.string (str LT)] 9)) | (go_at_call 51; refine ((HST.out _ hb4).put (str LT) HLB.out).mono ?_; rintro e w4 ⟨rfl, hx4, hk4⟩; have hs4 := HSF.out _ _ _ hb4 hx4 hk4))
  have HF9 := hide (And.intro hx4 ((HKW.out _ hb4).trans hk4))
  clear hx4 hk4 hb3 hb4 hb5 hs4
  go_wp2
  go_end0
  refine ⟨rfl, ?_, HF9.out.2⟩
  have hx := HF9.out.1
  simpa [hbn, List.append_assoc] using hx
theorem oper_step {n m : Nat} {w0 : World} {B p : Nat} {G : Gs} (IF : CF n m w0 B p G) (IE : CE n m w0 B p G) (IO : CO n m w0 B p G) : CO n (m + 1) w0 B p G := by
  intro rt bg out w x v hx hk hs h hl
  have h21 : ¬ 21 ≤ x.kind := by have := hk.2.1; simpa using this.symm
  have hkn : x.kind = 1 ∨ x.kind = 2 ∨ x.kind = 3 ∨ x.kind = 4 ∨ x.kind = 5 ∨ x.kind = 6 ∨ x.kind = 8 := by
    have h1 := hk.1
    unfold arK at h1
    repeat' split at h1
    all_goals omega
  rcases hkn with hK | hK | hK | hK | hK | hK | hK
  · exact op1 IF IE IO rt bg out w x v hx hk hs h hK hl
  · exact op2 IF IE IO rt bg out w x v hx hk hs h hK hl
  · exact op3 IF IE IO rt bg out w x v hx hk hs h hK hl
  · exact op4 IF IE IO rt bg out w x v hx hk hs h hK hl
  · exact op5 IF IE IO rt bg out w x v hx hk hs h hK hl
  · exact op6 IF IE IO rt bg out w x v hx hk hs h hK hl
  · exact op8 IF IE IO rt bg out w x v hx hk hs h hK hl
set_option maxHeartbeats 4000000 in
theorem expr_step {n m : Nat} {w0 : World} {B p : Nat} {G : Gs} (IF : CF n m w0 B p G) (IE : CE n m w0 B p G) (IO : CO n m w0 B p G) : CE n (m + 1) w0 B p G := by
  intro rt bg out w x v hx hk hs h hl
  by_cases hK : x.kind = 5 ∨ x.kind = 6
  · have e : (TX G (m + 1)).E rt x = exA G (TX G m) rt x := if_pos hK
    rw [e] at hl ⊢
    exact ca_of IF IE IO rt bg out w x v hx hk hs h hK hl
  · have e : (TX G (m + 1)).E rt x = opT G (TX G m) rt x := if_neg hK
    rw [e] at hl ⊢
    have HO := hide (fun bg out w (hst : St w0 B w p G rt bg out) hl => oper_step IF IE IO rt bg out w x v hx hk hs hst hl)
    obtain ⟨v1, v2, v3, rfl, hv1⟩ := nd_form hx
    have hse := sep_le bg
    obtain ⟨OT, hOT⟩ : ∃ OT, opT G (TX G m) rt x = OT := ⟨_, rfl⟩
    have hOT' : (TX G (m + 1)).O rt x = OT := hOT
    rw [hOT'] at HO
    rw [hOT] at hl ⊢
    have n5 : (x.kind == 5) = false := beq_eq_false_iff_ne.2 (fun h => hK (Or.inl h))
    have n6 : (x.kind == 6) = false := beq_eq_false_iff_ne.2 (fun h => hK (Or.inr h))
    generalize x.kind = k at *
    generalize x.op = o at *
    generalize x.name = nm at *
    generalize x.pos = ps at *
    clear hOT hOT' hx hk hs IF IE IO e
    obtain ⟨W1, hW1⟩ : ∃ W1, w.alloc (.cells (sv (k) (o) nm (v1) (v2) (v3) (ps)) 42) = W1 := ⟨_, rfl⟩
    have hb1 : Below w.heap.size w W1 := by rw [← hW1]; exact alloc_one _ _
    have s1 : W1.heap.size = w.heap.size + 1 := by rw [← hW1]; simp
    have hbx : W1.heap[w.heap.size]? = some (.cells (sv (k) (o) nm (v1) (v2) (v3) (ps)) 42 (0, 0)) := by rw [← hW1]; exact heap_alloc_new w _
    have hql : w.heap.size ≠ p := Nat.ne_of_gt h.lt
    have H1 := hide (h.next hb1)
    have HK1 := hide (h.wkn hb1)
    have HB1 := hide hbx
    have k0 : W1.cell? ⟨w.heap.size, 0, none⟩ = some (.int .i64 k) := (Lib.cell_of_heap hbx 0).trans rfl
    have k1 : W1.cell? ⟨w.heap.size, 1, none⟩ = some (.int .i64 o) := (Lib.cell_of_heap hbx 1).trans rfl
    have k2 : W1.cell? ⟨w.heap.size, 2, none⟩ = some (.string nm) := (Lib.cell_of_heap hbx 2).trans rfl
    have k3 : W1.cell? ⟨w.heap.size, 3, none⟩ = some (v1) := (Lib.cell_of_heap hbx 3).trans rfl
    have k4 : W1.cell? ⟨w.heap.size, 4, none⟩ = some (v2) := (Lib.cell_of_heap hbx 4).trans rfl
    have k5 : W1.cell? ⟨w.heap.size, 5, none⟩ = some (v3) := (Lib.cell_of_heap hbx 5).trans rfl
    have k6 : W1.cell? ⟨w.heap.size, 6, none⟩ = some (.int .i64 ps) := (Lib.cell_of_heap hbx 6).trans rfl
    clear hb1 hbx
    have HC := hide (HO.out bg out W1 H1.out hl)
    clear h HO
    go_enter Tryz.func34, Tryz.ntmps34
    go_wp2_with fail
    refine HC.out.mono ?_
    rintro e w9 ⟨rfl, hx9, hk9⟩
    have HF9 := hide (And.intro hx9 (HK1.out.trans hk9))
    clear hx9 hk9 HC 
    go_wp2
    go_end0
    refine ⟨rfl, ?_, HF9.out.2⟩
    have hx := HF9.out.1
    simpa [sep, rdT, bL, str, List.append_assoc] using hx
/-- All three, of all depths. -/
theorem writers {w0 : World} {B p : Nat} {G : Gs} (n m : Nat) : CF n m w0 B p G ∧ CE n m w0 B p G ∧ CO n m w0 B p G := by
  induction m with
  | zero => exact ⟨fun _ _ _ _ _ _ hx => hx.elim, fun _ _ _ _ _ _ hx => hx.elim, fun _ _ _ _ _ _ hx => hx.elim⟩
  | succ m ih => exact ⟨fun_step ih.1 ih.2.1, expr_step ih.1 ih.2.1 ih.2.2, oper_step ih.1 ih.2.1 ih.2.2⟩
end Go.Proofs.YtneblkdkhlgmcaaGreatDoor
namespace Go.Proofs.YtneblkdkhlgmcaaGreatDoor
open Go.ChangeShapes Go.WideShapes Go.ChangeAt Go.RowKit
set_option maxRecDepth 100000
set_option linter.unusedVariables false
set_option linter.unusedSimpArgs false
/-- What the parts of a node of a kind must be. -/
def ptS (k : Int) : ByteArray :=
  if k = 22 ∨ k = 23 then ⟨#[120]⟩ else if k = 24 ∨ k = 25 ∨ k = 26 then ⟨#[102]⟩ else if k = 5 then ⟨#[102, 120]⟩ else if k = 8 then ⟨#[120, 120]⟩ else if k = 28 then ⟨#[102, 102]⟩ else if k = 6 then ⟨#[102, 120, 120]⟩ else if k = 27 then ⟨#[102, 102, 102]⟩ else ⟨#[]⟩
def fb (f : Bool) : Int := if f then 102 else 120
theorem parts36 (k : Int) (w : World) : Calls Tryz.prog 59 #[.int .i64 k] w fun e w' => e = .returned (.tuple #[.string (ptS k), .bool (decide (0 ≤ arK k))]) ∧ w' = w := by
  by_cases h : k = 1 ∨ k = 2 ∨ k = 3 ∨ k = 4 ∨ k = 21 ∨ k = 22 ∨ k = 23 ∨ k = 24 ∨ k = 25 ∨ k = 26 ∨ k = 5 ∨ k = 8 ∨ k = 28 ∨ k = 6 ∨ k = 27
  · rcases h with rfl | rfl | rfl | rfl | rfl | rfl | rfl | rfl | rfl | rfl | rfl | rfl | rfl | rfl | rfl <;> (go_enter Tryz.func59, Tryz.ntmps59; go_wp2; go_ret2; exact ⟨rfl, rfl⟩)
  · have e1 : ptS k = ⟨#[]⟩ := by unfold ptS; repeat' split
                                  all_goals first | omega | rfl
    have e2 : decide (0 ≤ arK k) = false := by
      unfold arK
      repeat' split
      all_goals first | omega | rfl
    rw [e1, e2]
    have n : ∀ c : Int, (c = 1 ∨ c = 2 ∨ c = 3 ∨ c = 4 ∨ c = 21 ∨ c = 22 ∨ c = 23 ∨ c = 24 ∨ c = 25 ∨ c = 26 ∨ c = 5 ∨ c = 8 ∨ c = 28 ∨ c = 6 ∨ c = 27) → (k == c) = false := fun c hc => beq_eq_false_iff_ne.2 (fun e => h (by rw [e]; exact hc))
    have n1 := n 1 (by simp)
    have n2 := n 2 (by simp)
    have n3 := n 3 (by simp)
    have n4 := n 4 (by simp)
    have n5 := n 5 (by simp)
    have n6 := n 6 (by simp)
    have n8 := n 8 (by simp)
    have n21 := n 21 (by simp)
    have n22 := n 22 (by simp)
    have n23 := n 23 (by simp)
    have n24 := n 24 (by simp)
    have n25 := n 25 (by simp)
    have n26 := n 26 (by simp)
    have n27 := n 27 (by simp)
    have n28 := n 28 (by simp)
    clear n h e1 e2
    go_enter Tryz.func59, Tryz.ntmps59
    go_wp2
    go_ret2
    exact ⟨rfl, rfl⟩
theorem stands37 (k : Int) (w : World) : Calls Tryz.prog 60 #[.int .i64 k] w fun e w' => e = .returned (.int .u8 (fb (decide (21 ≤ k)))) ∧ w' = w := by
  by_cases h : 21 ≤ k
  · rw [decide_eq_true h]
    go_enter Tryz.func60, Tryz.ntmps60
    go_wp2
    go_ret
    exact ⟨rfl, rfl⟩
  · rw [decide_eq_false h]
    have h' : k < 21 := by omega
    go_enter Tryz.func60, Tryz.ntmps60
    go_wp2
    go_ret
    exact ⟨rfl, rfl⟩
/-- Whether what a node says beside its parts can be written. -/
def riB (lone : Bool) (wh : Int) (x : Nd) : Bool :=
  if x.kind = 1 then litB x.lit else if x.kind = 26 then decide (0 ≤ x.op) || (lone && decide (wh = 5)) else true
/-- A checker in a block. -/
structure Ck (w0 : World) (B : Nat) (w : World) (p : Nat) (lone : Bool) (c : Int) : Prop where
  hB : w0.heap.size ≤ B
  hp : B ≤ p
  old : Below w0.heap.size w0 w
  blk : w.heap[p]? = some (.cells #[.bool lone, .int .i64 c] 74 (0, 0))
structure Kp (B p : Nat) (w w' : World) : Prop where
  bel : Below B w w'
  keep : ∀ k, k < w.heap.size → k ≠ p → w'.heap[k]? = w.heap[k]?
theorem Kp.trans {B p : Nat} {a b c : World} (h : Kp B p a b) (k : Kp B p b c) : Kp B p a c :=
  ⟨h.bel.trans k.bel, fun i hi hp => (k.keep i (Nat.lt_of_lt_of_le hi h.bel.size) hp).trans (h.keep i hi hp)⟩
theorem Ck.lt {w0 : World} {B : Nat} {w : World} {p : Nat} {lone : Bool} {c : Int} (h : Ck w0 B w p lone c) : p < w.heap.size := lt_heap h.blk
theorem Ck.next {w0 : World} {B : Nat} {w w' : World} {p : Nat} {lone : Bool} {c : Int} (h : Ck w0 B w p lone c) (hb : Below w.heap.size w w') : Ck w0 B w' p lone c :=
  ⟨h.hB, h.hp, h.old.trans (hb.mono h.old.size), (hb.block p h.lt).trans h.blk⟩
theorem Ck.kpn {w0 : World} {B : Nat} {w w' : World} {p : Nat} {lone : Bool} {c : Int} (h : Ck w0 B w p lone c) (hb : Below w.heap.size w w') : Kp B p w w' :=
  ⟨hb.mono (Nat.le_trans h.hp (Nat.le_of_lt h.lt)), fun k hk _ => hb.block k hk⟩
theorem Ck.set {w0 : World} {B : Nat} {w : World} {p : Nat} {lone : Bool} {c : Int} (h : Ck w0 B w p lone c) (z : Int) : Ck w0 B (w.setCell ⟨p, 1, none⟩ (.int .i64 z)) p lone z ∧ Kp B p w (w.setCell ⟨p, 1, none⟩ (.int .i64 z)) := by
  have hb : Below B w (w.setCell ⟨p, 1, none⟩ (.int .i64 z)) := (Below.refl B w).setCell (p := ⟨p, 1, none⟩) h.hp _
  exact ⟨⟨h.hB, h.hp, h.old.trans (hb.mono h.hB), by rw [heap_set h.blk]; rfl⟩, hb, fun k _ hk => heap_other _ hk⟩
theorem Kp.box {B p : Nat} {w w' : World} (h : Kp B p w w') {q : Nat} {o : Obj} (hq : w.heap[q]? = some o) (hp : q ≠ p) : w'.heap[q]? = some o := (h.keep q (lt_heap hq) hp).trans hq
theorem right38 {n lo : Nat} {w : World} {p : Nat} {lone : Bool} {x : Nd} {v1 v2 v3 : Value} {wh : Int} (hx : ArIn n lo w x.lit (.agg #[v1, v2])) (h1 : v1.cells.size = 1) (h2 : v2.cells.size = 1) (hc : w.cell? ⟨p, 0, none⟩ = some (.bool lone)) (hp : p < w.heap.size) :
    Calls Tryz.prog 61 #[.pointer (some ⟨p, 0, none⟩), .agg (sv x.kind x.op x.name v1 v2 v3 x.pos), .int .i64 wh] w fun e w' => e = .returned (.bool (riB lone wh x)) ∧ Below w.heap.size w w' := by
  have HR : Hid ((x.kind = 1 → riB lone wh x = litB x.lit) ∧ (x.kind = 26 → riB lone wh x = (decide (0 ≤ x.op) || (lone && decide (wh = 5)))) ∧ (x.kind ≠ 1 → x.kind ≠ 26 → riB lone wh x = true)) := hide (by
    unfold riB
    refine ⟨fun h => by rw [if_pos h], fun h => by rw [if_neg (by omega), if_pos h], fun h h' => by rw [if_neg h, if_neg h']⟩)
  have HL := hide (fun W (hW : Below w.heap.size w W) => lit17 x.lit _ W (hx.next hW))
  obtain ⟨RB, hRB⟩ : ∃ RB, riB lone wh x = RB := ⟨_, rfl⟩
  obtain ⟨LB, hLB⟩ : ∃ LB, litB x.lit = LB := ⟨_, rfl⟩
  rw [hRB] at HR ⊢
  rw [hLB] at HR HL
  generalize x.kind = k at *
  generalize x.op = o at *
  generalize x.name = nm at *
  generalize x.pos = ps at *
  obtain ⟨W1, hW1⟩ : ∃ W1, w.alloc (.cells (sv k o nm v1 v2 v3 ps) 42) = W1 := ⟨_, rfl⟩
  have hb1 : Below w.heap.size w W1 := by rw [← hW1]; exact alloc_one _ _
  have hbx : W1.heap[w.heap.size]? = some (.cells (sv k o nm v1 v2 v3 ps) 42 (0, 0)) := by rw [← hW1]; exact heap_alloc_new w _
  have c0 : W1.cell? ⟨p, 0, none⟩ = some (.bool lone) := (hb1.cell (p := ⟨p, 0, none⟩) hp).trans hc
  have HB1 := hide hb1
  have k0 : W1.cell? ⟨w.heap.size, 0, none⟩ = some (.int .i64 k) := (Lib.cell_of_heap hbx 0).trans rfl
  have k1 : W1.cell? ⟨w.heap.size, 1, none⟩ = some (.int .i64 o) := (Lib.cell_of_heap hbx 1).trans rfl
  have k2 : W1.cell? ⟨w.heap.size, 2, none⟩ = some (.string nm) := (Lib.cell_of_heap hbx 2).trans rfl
  have k3 : W1.cell? ⟨w.heap.size, 3, none⟩ = some (v1) := (Lib.cell_of_heap hbx 3).trans rfl
  have k4 : W1.cell? ⟨w.heap.size, 4, none⟩ = some (v2) := (Lib.cell_of_heap hbx 4).trans rfl
  have k5 : W1.cell? ⟨w.heap.size, 5, none⟩ = some (v3) := (Lib.cell_of_heap hbx 5).trans rfl
  have k6 : W1.cell? ⟨w.heap.size, 6, none⟩ = some (.int .i64 ps) := (Lib.cell_of_heap hbx 6).trans rfl
  clear hbx hx hc hb1 hRB hLB
  by_cases hk1 : k = 1
  · subst hk1
    obtain rfl := HR.out.1 rfl
    have HC := hide (HL.out W1 HB1.out)
    clear HL
    go_enter Tryz.func61, Tryz.ntmps61
    go_wp2_with fail
    refine HC.out.mono ?_
    rintro e w2 ⟨rfl, hb2⟩
    have HF := hide (HB1.out.trans (hb2.mono HB1.out.size))
    clear hb2 HC
    go_wp2
    go_ret
    exact ⟨rfl, HF.out⟩
  · have n1 : (k == 1) = false := beq_eq_false_iff_ne.2 hk1
    by_cases hk2 : k = 26
    · subst hk2
      have hr := HR.out.2.1 rfl
      clear HL HR
      by_cases ho : 0 ≤ o
      · rw [decide_eq_true ho, Bool.true_or] at hr
        subst hr
        go_enter Tryz.func61, Tryz.ntmps61
        go_wp2
        go_ret
        exact ⟨rfl, HB1.out⟩
      · rw [decide_eq_false ho, Bool.false_or] at hr
        have ho' : o < 0 := by omega
        cases lone with
        | false =>
          rw [Bool.false_and] at hr
          subst hr
          go_enter Tryz.func61, Tryz.ntmps61
          go_wp2
          go_ret
          exact ⟨rfl, HB1.out⟩
        | true =>
          rw [Bool.true_and] at hr
          by_cases hw : wh = 5
          · subst hw
            rw [decide_eq_true rfl] at hr
            subst hr
            go_enter Tryz.func61, Tryz.ntmps61
            go_wp2
            go_ret
            exact ⟨rfl, HB1.out⟩
          · rw [decide_eq_false hw] at hr
            have hw' : (wh == 5) = false := beq_eq_false_iff_ne.2 hw
            subst hr
            go_enter Tryz.func61, Tryz.ntmps61
            go_wp2
            go_ret
            exact ⟨rfl, HB1.out⟩
    · obtain rfl := HR.out.2.2 hk1 hk2
      have n2 : (k == 26) = false := beq_eq_false_iff_ne.2 hk2
      clear HL HR
      go_enter Tryz.func61, Tryz.ntmps61
      go_wp2
      go_ret
      exact ⟨rfl, HB1.out⟩
end Go.Proofs.YtneblkdkhlgmcaaGreatDoor
namespace Go.Proofs.YtneblkdkhlgmcaaGreatDoor
open Go.ChangeShapes Go.WideShapes Go.ChangeAt Go.RowKit
set_option maxRecDepth 100000
set_option linter.unusedVariables false
set_option linter.unusedSimpArgs false
/-- A text's byte. -/
def byt (s : ByteArray) (j : Nat) : Int := if h : j < s.size then ((s[j]'h).toNat : Int) else 0
theorem byt_run (s : ByteArray) (j : Nat) (h : j < s.size) (w : World) : (Instr.index 9 (.string s) (.int .i64 (j : Int))).run Tryz.prog w = .ok (.int .u8 (byt s j)) w := by
  rw [run_index_string w 9 s .i64 _ (by kernel_rfl), dif_pos ⟨by omega, by omega⟩]
  unfold byt
  rw [dif_pos h]
  rfl
end Go.Proofs.YtneblkdkhlgmcaaGreatDoor
